/- The walk of DiskOutlasts. -/
import Derived.Test.YtnkkdpmmnenncaaUu
namespace Go.Proofs.Ytnkkdpmmnenncaa
open Go.RowKit Go.Maps

/-- An operation is taken first; the slot that it writes is named (else the frame grows by a layer a take). -/
theorem wpAnyH_takeD {P : Program} {ops : Array Oper} {Q : Exit → Go.Act → World → Prop} {md : Region.Mode} {S : World → Prop} {i : Nat} {oi : Oper} {v : Value} {fuel : Nat} {listed : Array Bool} {a : Go.Act} {w : World} (d : Option Tmp) (hi : ops[i]? = some oi) (hd : oi.dst = d)
    (hs : Region.noSelect ops = true) (hf : Region.free md ops listed i = true) (hr : (Region.ready md ops listed).contains i = true)
    (hQ : ∀ c a w, Q (.panic c) (a.put oi.dst v) w → Q (.panic c) a w) (hy : YieldsIf P ops S oi v a) (hS : S w)
    (h : wpAnyH P md ops Q S fuel (listed.setIfInBounds i true) (a.put d v) w) : wpAnyH P md ops Q S (fuel + 1) listed a w := by
  subst hd
  exact wpAnyH_take hi hs hf hr hQ hy hS h


theorem ActAt.six {w : World} {B b o : Nat} {q : Act} (h : ActAt w B b o q) : w.cell? ⟨b, o, none⟩ = some (.int .i64 q.op) ∧ w.cell? ⟨b, o + 1, none⟩ = some (.int .i64 q.sec) ∧ w.cell? ⟨b, o + 2, none⟩ = some (.int .u8 (q.fill.toNat : Int)) ∧ w.cell? ⟨b, o + 3, none⟩ = some (.slice q.bA q.bs.length q.bc) ∧ w.cell? ⟨b, o + 4, none⟩ = some (.int .i64 q.n) ∧ w.cell? ⟨b, o + 5, none⟩ = some (.slice q.kA q.ks.length q.kc) :=
  ⟨h.c0, h.c1, h.c2, h.c3, h.c4, h.c5⟩
theorem strOf_beq (X Y : List UInt8) : ((strOf X).toList == (strOf Y).toList) = (X == Y) := by
  rw [Bool.eq_iff_iff]
  simp [strOf]
/-- What was told of the disk: a row of the law's own that no later call turns. -/
structure Was (w : World) (F : Nat → Prop) (kw cw : Nat) (K : List UInt8) : Prop where
  own : Own8 w 5 (.slice (some ⟨kw, 0, none⟩) 512 cw) K
  not : ¬ F kw
theorem Was.lt {w : World} {F : Nat → Prop} {kw cw : Nat} {K : List UInt8} (h : Was w F kw cw K) : kw < w.heap.size := h.own.lt rfl
theorem Was.fr0 {w w' : World} {F : Nat → Prop} {kw cw : Nat} {K : List UInt8} (h : Was w F kw cw K) (hf : Fr (fun _ => False) w w') : Was w' F kw cw K :=
  ⟨h.own.fr hf (fun _ _ h => h), h.not⟩
theorem Was.step {w w3 w4 : World} {F F' : Nat → Prop} {kw cw : Nat} {K : List UInt8} (h : Was w F kw cw K) (hf : Fr (fun _ => False) w w3) (f4 : Fr F w3 w4) (n4 : ∀ x, x < w3.heap.size → ¬ F x → ¬ F' x) : Was w4 F' kw cw K :=
  ⟨(h.own.fr hf (fun _ _ h => h)).fr f4 (fun k e => by injection e with e; subst e; exact h.not), n4 _ (by have := h.lt; have := hf.size; omega) h.not⟩

theorem Own8.len8 {w : World} {e : TypeId} {A : Option Addr} {n c : Nat} {xs : List UInt8} (h : Own8 w e (.slice A n c) xs) : n = xs.length := by
  obtain ⟨A', c', e⟩ := h.slice
  injection e
theorem Own8.cap8 {w : World} {e : TypeId} {A : Option Addr} {n c : Nat} {xs : List UInt8} (h : Own8 w e (.slice A n c) xs) : n ≤ c := by
  rcases h.form with ⟨e1, _⟩ | ⟨g, cap, e1, h1, _⟩
  · injection e1 with _ e2 e3; omega
  · injection e1 with _ e2 e3; omega
theorem Was.rd {w : World} {F : Nat → Prop} {kw cw : Nat} {K : List UInt8} (h : Was w F kw cw K) (hK : K.length = 512) (x : Nat) (hx : x < 8) : Rd8 w (some ⟨kw, x * 64, none⟩) (pieceOf 64 K x) := fun _ => by
  refine ⟨_, rfl, rfl, fun j hj => ?_⟩
  have hl : (pieceOf 64 K x).length = 64 := by unfold pieceOf; simp; omega
  have h1 := Own8.cell h.own (x * 64 + j) (by omega)
  have h2 := piece_at (sz := 64) (K := K) (i := x) (j := j) (by omega)
  rw [List.getElem?_eq_getElem hj, List.getElem?_eq_getElem (by omega)] at h2
  injection h2 with h2
  rw [h2]; exact h1
set_option maxRecDepth 100000 in
set_option maxHeartbeats 8000000 in
theorem out_in (A : Option Addr) (n c : Nat) (l : List Act) (B : Option Addr) (m d : Nat) (r : List Act) (K : Option Addr) (kn kc : Nat) (ks : List Bool) (w : World)
    (hl : Acts w w.heap.size A l) (hn : l.length = n) (hr : Acts w w.heap.size B r) (hm : r.length = m) (hk : RdB w K ks) (hkn : ks.length = kn) (hf1 : fewP l = true) (hf2 : fewP r = true) (h3 : kn ≤ 1000) :
    Calls Try.prog 4 #[.slice A n c, .slice B m d, .slice K kn kc] w fun e w' => e = .returned (.bool true) ∧ Fr (fun _ => False) w w' := by
  have hn2 : n ≤ 200 := by have := (fewP_yes hf1).1; omega
  have hm2 : m ≤ 200 := by have := (fewP_yes hf2).1; omega
  have h3' : decide ((1000 : Int) < (kn : Int)) = false := by simp; omega
  have CF1 := Lib.hid (fun w' (hf : Fr (fun _ => False) w w') => few_any A n c w.heap.size l w' (hl.fr hf (fun _ _ h => h)) hn (by omega) hf.size)
  have CF2 := Lib.hid (fun w' (hf : Fr (fun _ => False) w w') => few_any B m d w.heap.size r w' (hr.fr hf (fun _ _ h => h)) hm (by omega) hf.size)
  rw [hf1] at CF1
  rw [hf2] at CF2
  have HL := Lib.hid hl
  have HR := Lib.hid hr
  have HK := Lib.hid hk
  have HN := Lib.hid hn
  have HM := Lib.hid hm
  have HKN := Lib.hid hkn
  clear hl hr hk hn hm hkn hf1 hf2
  go_enter Try.func4, Try.ntmps4
  go_wp2_with fail
  refine (known_any w).mono ?_; rintro e w0 ⟨rfl, hf0⟩
  go_wp2_with fail
  refine (CF1.out w0 hf0).mono ?_; rintro e w1 ⟨rfl, g1⟩
  have g1' := hf0.trans g1 (fun _ _ h => h)
  clear hf0 g1
  go_wp2_with fail
  refine (CF2.out w1 g1').mono ?_; rintro e w2 ⟨rfl, g2⟩
  have g2' := g1'.trans g2 (fun _ _ h => h)
  clear g1' g2 CF1 CF2
  go_wp2_with fail
  refine (b8_new w2).mono ?_; rintro e wn ⟨g, F, rfl, h1⟩
  have H1 := Lib.hid (show RunF w wn g b8 F from ⟨h1.dsk, fun k hk => Nat.le_trans g2'.size (h1.low k hk), g2'.trans h1.fr (fun _ _ h => h)⟩)
  clear h1 g2'
  go_wp2_with fail
  go_loopw [9] (fun i wr => ∃ (k : Nat) (s : DS) (F : Nat → Prop), k ≤ n ∧ i = .int .i64 k ∧ OInv s b8.kept l k 0 ∧ RunF w wr g s F) (fun i _ => n - (intOf i).toNat)
  case atStart => exact ⟨0, b8, F, by omega, rfl, b8_inv l, H1.out⟩
  case round =>
    obtain ⟨k, s, F1, hk, rfl, hinv, hrun⟩ := hrel
    have HI := Lib.hid hinv
    have HX := Lib.hid hrun
    clear hinv hrun H1
    by_cases hlt : k < n
    · obtain ⟨b, o, rfl, hat⟩ := (HL.out.fr HX.out.fr (fun _ _ h => h)).at_ (i := k) (by rw [HN.out]; exact hlt)
      have STEP := Lib.hid HI.out.step
      have hlt' : (k : Int) < n := by omega
      have hk0 : (0 : Int) ≤ (k : Int) := by omega
      generalize l.getD k default = q at *
      have CD0 := data_any q 64 wr.drew hat.rb hat.hb (by omega)
      unfold Act.v at CD0
      have CD := Lib.hid CD0
      have CW := Lib.hid (fun w3 A' c' hr hl hf => HX.out.dataW (by have := HI.out.q; omega) (by have := HI.out.wr; omega) (by rw [HI.out.keep]; simp) hat (w3 := w3) (A := A') (c := c') (sz := 64) hr hl hf)
      have HAT := Lib.hid (fun w' (h : Fr F1 wr w') => hat.fr h (fun x hx hF => by have := HX.out.low x hF; omega))
      clear CD0 hat
      go_wp2_with fail
      refine wp_region_held_drew (S := fun w' => Fr F1 wr w') (by kernel_rfl) ((Fr.refl _ _).drew) (fun hHeld => ?_)
      refine wpAnyH_takeD (i := 0) (v := ?_) (some 48) rfl rfl (by kernel_rfl) (by kernel_rfl) (by kernel_rfl) (fun _ _ _ h => h) (Or.inl ⟨by rfl, ?_⟩) (by assumption) ?_
      rotate_left
      · intro w' hSw
        go_simp
        first | done | with_reducible rfl
      try simp only [Go.Act.put, List.setIfInBounds_toArray, List.set_cons_zero, List.set_cons_succ]
      refine wpAnyH_takeD (i := 1) (v := ?_) (some 49) rfl rfl (by kernel_rfl) (by kernel_rfl) (by kernel_rfl) (fun _ _ _ h => h) (Or.inl ⟨by rfl, ?_⟩) (by assumption) ?_
      rotate_left
      · intro w' hSw
        go_simp
        first | done | with_reducible rfl
      try simp only [Go.Act.put, List.setIfInBounds_toArray, List.set_cons_zero, List.set_cons_succ]
      refine wpAnyH_takeD (i := 2) (v := ?_) (some 50) rfl rfl (by kernel_rfl) (by kernel_rfl) (by kernel_rfl) (fun _ _ _ h => h) (Or.inl ⟨by rfl, ?_⟩) (by assumption) ?_
      rotate_left
      · intro w' hSw
        go_simp
        first | done | with_reducible rfl
      try simp only [Go.Act.put, List.setIfInBounds_toArray, List.set_cons_zero, List.set_cons_succ]
      refine wpAnyH_takeD (i := 3) (v := ?_) (some 51) rfl rfl (by kernel_rfl) (by kernel_rfl) (by kernel_rfl) (fun _ _ _ h => h) (Or.inl ⟨by rfl, ?_⟩) (by assumption) ?_
      rotate_left
      · intro w' hSw
        go_simp
        first | done | with_reducible rfl
      try simp only [Go.Act.put, List.setIfInBounds_toArray, List.set_cons_zero, List.set_cons_succ]
      refine wpAnyH_takeD (i := 4) (v := ?_) (some 52) rfl rfl (by kernel_rfl) (by kernel_rfl) (by kernel_rfl) (fun _ _ _ h => h) (Or.inl ⟨by rfl, ?_⟩) (by assumption) ?_
      rotate_left
      · intro w' hSw
        go_simp
        first | done | with_reducible rfl
      try simp only [Go.Act.put, List.setIfInBounds_toArray, List.set_cons_zero, List.set_cons_succ]
      refine wpAnyH_takeD (i := 5) (v := ?_) (some 53) rfl rfl (by kernel_rfl) (by kernel_rfl) (by kernel_rfl) (fun _ _ _ h => h) (Or.inl ⟨by rfl, ?_⟩) (by assumption) ?_
      rotate_left
      · intro w' hSw
        have q1 := (HAT.out w' hSw).c1
        go_simp
        first | done | with_reducible rfl
      try simp only [Go.Act.put, List.setIfInBounds_toArray, List.set_cons_zero, List.set_cons_succ]
      refine wpAnyH_takeD (i := 6) (v := ?_) (some 54) rfl rfl (by kernel_rfl) (by kernel_rfl) (by kernel_rfl) (fun _ _ _ h => h) (Or.inl ⟨by rfl, ?_⟩) (by assumption) ?_
      rotate_left
      · intro w' hSw
        go_simp
        first | done | with_reducible rfl
      try simp only [Go.Act.put, List.setIfInBounds_toArray, List.set_cons_zero, List.set_cons_succ]
      refine wpAnyH_takeD (i := 7) (v := ?_) (some 55) rfl rfl (by kernel_rfl) (by kernel_rfl) (by kernel_rfl) (fun _ _ _ h => h) (Or.inl ⟨by rfl, ?_⟩) (by assumption) ?_
      rotate_left
      · intro w' hSw
        go_simp
        first | done | with_reducible rfl
      try simp only [Go.Act.put, List.setIfInBounds_toArray, List.set_cons_zero, List.set_cons_succ]
      refine wpAnyH_takeD (i := 8) (v := ?_) (some 56) rfl rfl (by kernel_rfl) (by kernel_rfl) (by kernel_rfl) (fun _ _ _ h => h) (Or.inl ⟨by rfl, ?_⟩) (by assumption) ?_
      rotate_left
      · intro w' hSw
        go_simp
        first | done | with_reducible rfl
      try simp only [Go.Act.put, List.setIfInBounds_toArray, List.set_cons_zero, List.set_cons_succ]
      refine wpAnyH_takeD (i := 9) (v := ?_) (some 57) rfl rfl (by kernel_rfl) (by kernel_rfl) (by kernel_rfl) (fun _ _ _ h => h) (Or.inl ⟨by rfl, ?_⟩) (by assumption) ?_
      rotate_left
      · intro w' hSw
        obtain ⟨q0, q1, q2, q3, q4, q5⟩ := (HAT.out w' hSw).six
        go_simp
        first | done | with_reducible rfl
      try simp only [Go.Act.put, List.setIfInBounds_toArray, List.set_cons_zero, List.set_cons_succ]
      refine wpAnyH_ready (rs := [10]) (by kernel_rfl) (by simp) ?_
      refine AllReadyH.cons rfl (fun K hK => ?_) AllReadyH.nil
      go_simp
      refine CD.out.mono ?_; rintro e w3 ⟨A', c', rfl, hr3, hl3, hf3⟩
      try go_simp
      refine hK.out _ _ (hHeld.trans hf3 (fun _ _ h => h.elim)) (fun hHeld => ?_)
      clear hK K
      try change wpAnyH _ _ _ _ _ _ _ (Go.Act.put _ (some 58) _) _
      try simp only [Go.Act.put, List.setIfInBounds_toArray, List.set_cons_zero, List.set_cons_succ]
      refine wpAnyH_ready (rs := [11]) (by kernel_rfl) (by simp) ?_
      refine AllReadyH.cons rfl (fun K hK => ?_) AllReadyH.nil
      go_simp
      refine (CW.out w3 A' c' hr3 hl3 ((Fr.refl _ _).drew.trans hf3 (fun _ _ h => h))).mono ?_; rintro e w4 ⟨rfl, F4, R4, f4, n4⟩
      try go_simp
      refine hK.out _ _ (hHeld.trans f4 (fun _ _ h => h)) (fun hHeld => ?_)
      clear hK K
      try change wpAnyH _ _ _ _ _ _ _ (Go.Act.put _ (some 59) _) _
      try simp only [Go.Act.put, List.setIfInBounds_toArray, List.set_cons_zero, List.set_cons_succ]
      refine wpAnyH_done (by kernel_rfl) ?_ _
      have HR4 := Lib.hid R4
      clear R4 f4 n4 hr3 hl3 hf3 CD CW HAT HI HX
      go_wp2
      go_roundw
      case rel => exact ⟨k + 1, _, F4, by omega, by go_num, STEP.out, HR4.out⟩
      case measure => simp [intOf]; omega
    · obtain rfl : k = n := by omega
      have C1 := Lib.hid (HX.out.sync (by have := HI.out.q; omega))
      rw [HI.out.syncE] at C1
      have HI2 := Lib.hid (HI.out.sync r)
      rw [Nat.zero_add] at HI2
      clear HI
      go_wp2_with fail
      refine C1.out.mono ?_; rintro e w3 ⟨rfl, F2, R2, f2, n2⟩
      generalize syncS s = s2 at *
      have C2 := R2.bytes
      rw [HI2.out.N, HI2.out.sz, show 8 * 64 = 512 from rfl] at C2
      have C2 := Lib.hid C2
      have R2L := Lib.hid (fun x h => R2.lt (k := x) h)
      clear C1 R2 f2 n2 HX
      go_wp2_with fail
      refine C2.out.mono ?_; rintro e w4 ⟨kw, cw, rfl, ho, R3, f3, hge⟩
      have HWA0 := Lib.hid (show Was w4 F2 kw cw s2.kept from ⟨ho, fun h => by have := R2L.out _ h; omega⟩)
      have HX0 := Lib.hid R3
      clear C2 R2L ho R3 f3 hge
      generalize s2.kept = KK at *
      go_wp2_with fail
      go_loopw [11] (fun i wr => ∃ (j : Nat) (s : DS) (F : Nat → Prop), j ≤ m ∧ i = .int .i64 j ∧ OInv s KK r j k ∧ RunF w wr g s F ∧ Was wr F kw cw KK) (fun i _ => m - (intOf i).toNat)
      case atStart => exact ⟨0, s2, F2, by omega, rfl, HI2.out, HX0.out, HWA0.out⟩
      case round =>
        rename_i n0
        obtain ⟨j, s, F1, hj, rfl, hinv, hrun, hwas⟩ := hrel
        have HI := Lib.hid hinv
        have HX := Lib.hid hrun
        have HWA := Lib.hid hwas
        clear hinv hrun hwas HI2 HX0 HWA0
        by_cases hlt : j < m
        · obtain ⟨b, o, rfl, hat⟩ := (HR.out.fr HX.out.fr (fun _ _ h => h)).at_ (i := j) (by rw [HM.out]; exact hlt)
          have STEP := Lib.hid HI.out.step
          have hlt' : (j : Int) < m := by omega
          have hk0 : (0 : Int) ≤ (j : Int) := by omega
          generalize r.getD j default = q at *
          have CD0 := data_any q 64 wr.drew hat.rb hat.hb (by omega)
          unfold Act.v at CD0
          have CD := Lib.hid CD0
          have CW := Lib.hid (fun w3 A' c' hr hl hf => HX.out.dataW (by have := HI.out.q; omega) (by have := HI.out.wr; omega) (by rw [HI.out.keep]; simp) hat (w3 := w3) (A := A') (c := c') (sz := 64) hr hl hf)
          have HAT := Lib.hid (fun w' (h : Fr F1 wr w') => hat.fr h (fun x hx hF => by have := HX.out.low x hF; omega))
          clear CD0 hat
          go_wp2_with fail
          refine wp_region_held_drew (S := fun w' => Fr F1 wr w') (by kernel_rfl) ((Fr.refl _ _).drew) (fun hHeld => ?_)
          refine wpAnyH_takeD (i := 0) (v := ?_) (some 71) rfl rfl (by kernel_rfl) (by kernel_rfl) (by kernel_rfl) (fun _ _ _ h => h) (Or.inl ⟨by rfl, ?_⟩) (by assumption) ?_
          rotate_left
          · intro w' hSw
            go_simp
            first | done | with_reducible rfl
          try simp only [Go.Act.put, List.setIfInBounds_toArray, List.set_cons_zero, List.set_cons_succ]
          refine wpAnyH_takeD (i := 1) (v := ?_) (some 72) rfl rfl (by kernel_rfl) (by kernel_rfl) (by kernel_rfl) (fun _ _ _ h => h) (Or.inl ⟨by rfl, ?_⟩) (by assumption) ?_
          rotate_left
          · intro w' hSw
            go_simp
            first | done | with_reducible rfl
          try simp only [Go.Act.put, List.setIfInBounds_toArray, List.set_cons_zero, List.set_cons_succ]
          refine wpAnyH_takeD (i := 2) (v := ?_) (some 73) rfl rfl (by kernel_rfl) (by kernel_rfl) (by kernel_rfl) (fun _ _ _ h => h) (Or.inl ⟨by rfl, ?_⟩) (by assumption) ?_
          rotate_left
          · intro w' hSw
            go_simp
            first | done | with_reducible rfl
          try simp only [Go.Act.put, List.setIfInBounds_toArray, List.set_cons_zero, List.set_cons_succ]
          refine wpAnyH_takeD (i := 3) (v := ?_) (some 74) rfl rfl (by kernel_rfl) (by kernel_rfl) (by kernel_rfl) (fun _ _ _ h => h) (Or.inl ⟨by rfl, ?_⟩) (by assumption) ?_
          rotate_left
          · intro w' hSw
            go_simp
            first | done | with_reducible rfl
          try simp only [Go.Act.put, List.setIfInBounds_toArray, List.set_cons_zero, List.set_cons_succ]
          refine wpAnyH_takeD (i := 4) (v := ?_) (some 75) rfl rfl (by kernel_rfl) (by kernel_rfl) (by kernel_rfl) (fun _ _ _ h => h) (Or.inl ⟨by rfl, ?_⟩) (by assumption) ?_
          rotate_left
          · intro w' hSw
            go_simp
            first | done | with_reducible rfl
          try simp only [Go.Act.put, List.setIfInBounds_toArray, List.set_cons_zero, List.set_cons_succ]
          refine wpAnyH_takeD (i := 5) (v := ?_) (some 76) rfl rfl (by kernel_rfl) (by kernel_rfl) (by kernel_rfl) (fun _ _ _ h => h) (Or.inl ⟨by rfl, ?_⟩) (by assumption) ?_
          rotate_left
          · intro w' hSw
            have q1 := (HAT.out w' hSw).c1
            go_simp
            first | done | with_reducible rfl
          try simp only [Go.Act.put, List.setIfInBounds_toArray, List.set_cons_zero, List.set_cons_succ]
          refine wpAnyH_takeD (i := 6) (v := ?_) (some 77) rfl rfl (by kernel_rfl) (by kernel_rfl) (by kernel_rfl) (fun _ _ _ h => h) (Or.inl ⟨by rfl, ?_⟩) (by assumption) ?_
          rotate_left
          · intro w' hSw
            go_simp
            first | done | with_reducible rfl
          try simp only [Go.Act.put, List.setIfInBounds_toArray, List.set_cons_zero, List.set_cons_succ]
          refine wpAnyH_takeD (i := 7) (v := ?_) (some 78) rfl rfl (by kernel_rfl) (by kernel_rfl) (by kernel_rfl) (fun _ _ _ h => h) (Or.inl ⟨by rfl, ?_⟩) (by assumption) ?_
          rotate_left
          · intro w' hSw
            go_simp
            first | done | with_reducible rfl
          try simp only [Go.Act.put, List.setIfInBounds_toArray, List.set_cons_zero, List.set_cons_succ]
          refine wpAnyH_takeD (i := 8) (v := ?_) (some 79) rfl rfl (by kernel_rfl) (by kernel_rfl) (by kernel_rfl) (fun _ _ _ h => h) (Or.inl ⟨by rfl, ?_⟩) (by assumption) ?_
          rotate_left
          · intro w' hSw
            go_simp
            first | done | with_reducible rfl
          try simp only [Go.Act.put, List.setIfInBounds_toArray, List.set_cons_zero, List.set_cons_succ]
          refine wpAnyH_takeD (i := 9) (v := ?_) (some 80) rfl rfl (by kernel_rfl) (by kernel_rfl) (by kernel_rfl) (fun _ _ _ h => h) (Or.inl ⟨by rfl, ?_⟩) (by assumption) ?_
          rotate_left
          · intro w' hSw
            obtain ⟨q0, q1, q2, q3, q4, q5⟩ := (HAT.out w' hSw).six
            go_simp
            first | done | with_reducible rfl
          try simp only [Go.Act.put, List.setIfInBounds_toArray, List.set_cons_zero, List.set_cons_succ]
          refine wpAnyH_ready (rs := [10]) (by kernel_rfl) (by simp) ?_
          refine AllReadyH.cons rfl (fun K hK => ?_) AllReadyH.nil
          go_simp
          refine CD.out.mono ?_; rintro e w3 ⟨A', c', rfl, hr3, hl3, hf3⟩
          try go_simp
          refine hK.out _ _ (hHeld.trans hf3 (fun _ _ h => h.elim)) (fun hHeld => ?_)
          clear hK K
          try change wpAnyH _ _ _ _ _ _ _ (Go.Act.put _ (some 81) _) _
          try simp only [Go.Act.put, List.setIfInBounds_toArray, List.set_cons_zero, List.set_cons_succ]
          refine wpAnyH_ready (rs := [11]) (by kernel_rfl) (by simp) ?_
          refine AllReadyH.cons rfl (fun K hK => ?_) AllReadyH.nil
          go_simp
          refine (CW.out w3 A' c' hr3 hl3 ((Fr.refl _ _).drew.trans hf3 (fun _ _ h => h))).mono ?_; rintro e w4 ⟨rfl, F4, R4, f4, n4⟩
          try go_simp
          refine hK.out _ _ (hHeld.trans f4 (fun _ _ h => h)) (fun hHeld => ?_)
          clear hK K
          try change wpAnyH _ _ _ _ _ _ _ (Go.Act.put _ (some 82) _) _
          try simp only [Go.Act.put, List.setIfInBounds_toArray, List.set_cons_zero, List.set_cons_succ]
          refine wpAnyH_done (by kernel_rfl) ?_ _
          have HWA4 := Lib.hid (HWA.out.step ((Fr.refl (fun _ => False) wr).drew.trans hf3 (fun _ _ h => h)) f4 n4)
          have HR4 := Lib.hid R4
          clear R4 f4 n4 hr3 hl3 hf3 CD CW HAT HI HX
          go_wp2
          go_roundw
          case rel => exact ⟨j + 1, _, F4, by omega, by go_num, STEP.out, HR4.out, HWA4.out⟩
          case measure => simp [intOf]; omega
        · obtain rfl : j = m := by omega
          have C1 := Lib.hid (HX.out.cut (by have := HI.out.q; omega) K kn kc ks (HK.out.fr HX.out.fr (fun _ _ _ h => h)) HKN.out (by omega) (fun ad e h0 h => by
            have h1 := HX.out.low _ h
            have h2 : ad.block < w.heap.size := RdB.lt (w := w) (e ▸ HK.out) h0
            omega))
          have HQ := Lib.hid (fun x hx => HI.out.cut HX.out.dsk.ok ks x hx)
          have HL1 := Lib.hid (fun x h => HX.out.lt (k := x) h)
          go_wp2_with fail
          refine C1.out.mono ?_; rintro e w3 ⟨rfl, F3, R3, f3, n3⟩
          have C2 := Lib.hid R3.onC
          have HWA3 := Lib.hid (HWA.out.step (Fr.refl _ _) f3 n3)
          clear C1 R3 f3 n3 HX HI HWA HL1
          go_wp2_with fail
          refine C2.out.mono ?_; rintro e w4 ⟨rfl, F4, R4, f4, n4⟩
          have HR4 := Lib.hid R4
          have HWA4 := Lib.hid (HWA3.out.step (Fr.refl _ _) f4 n4)
          clear C2 R4 f4 n4 HWA3
          generalize (s.cut ks).on = s4 at *
          go_wp2_with fail
          go_loopw [12] (fun i wr => ∃ (x : Nat), x ≤ 8 ∧ i = .int .i64 x ∧ RunF w wr g s4 F4 ∧ Was wr F4 kw cw KK) (fun i _ => 8 - (intOf i).toNat)
          case atStart => exact ⟨0, by omega, rfl, HR4.out, HWA4.out⟩
          case round =>
            obtain ⟨x, hx, rfl, hrun, hwas⟩ := hrel
            have HX := Lib.hid hrun
            have HWA := Lib.hid hwas
            clear hrun hwas HR4 HWA4
            by_cases hlt3 : x < 8
            · obtain ⟨e1, e2, e3, e4⟩ := HQ.out x hlt3
              have C3 := Lib.hid (HX.out.read (by rw [e3]; omega) x e1)
              have hxl := s4.read_len HX.out.dsk.ok (x := x) (by have := (DS.err_in e1).2.2; omega)
              rw [e2] at C3 hxl
              generalize s4.read x = X at *
              have HOK := Lib.hid e4
              have HXL := Lib.hid hxl
              clear e1 e2 e3 e4 hxl
              go_wp2_with fail
              refine C3.out.mono ?_; rintro e w5 ⟨kx, cx, rfl, o5, R5, f5, _⟩
              have HWA5 := Lib.hid (HWA.out.fr0 f5)
              have HX5 := Lib.hid R5
              have FX := Lib.hid (fun w' (hf : Fr (fun _ => False) w5 w') => run_str8 Try.t8d Try.underlying5 Try.underlying9 cx (o5.rd.fr hf (fun _ _ _ h => h)) HXL.out)
              obtain ⟨y, hy⟩ : ∃ y : Nat, y = x * 64 := ⟨_, rfl⟩
              obtain ⟨z, hz⟩ : ∃ z : Nat, z = x * 64 + 64 := ⟨_, rfl⟩
              have hkl : KK.length = 512 := by have := HWA.out.own.len8; simpa using this.symm
              have hcw : 512 ≤ cw := HWA.out.own.cap8
              have FW := Lib.hid (fun w' (hf : Fr (fun _ => False) w5 w') => run_str8 (n := 64) Try.t8d Try.underlying5 Try.underlying9 (cw - y) (hy ▸ (HWA5.out.fr0 hf).rd hkl x hlt3) (by unfold pieceOf; simp; omega))
              have WR : Hid (IntKind.i64.wrap ((x : Int) * 64) = (y : Int) ∧ IntKind.i64.wrap ((x : Int) + 1) = (x : Int) + 1 ∧ IntKind.i64.wrap (((x : Int) + 1) * 64) = (z : Int) ∧ (z : Int) ≤ (cw : Int) ∧ (y : Int) ≤ (z : Int) ∧ (y : Int).toNat = y ∧ (z : Int).toNat = z ∧ z - y = 64 ∧ (cw = y) = False ∧ (0 : Int) ≤ (z : Int)) := Lib.hid
                ⟨by rw [IntWalk.i64_in _ (by omega)]; omega, by rw [IntWalk.i64_in _ (by omega)], by rw [IntWalk.i64_in _ (by omega)]; omega, by omega, by omega, by omega, by omega, by omega, by simp; omega, by omega⟩
              clear hy hz hkl hcw
              have hx0 : (0 : Int) ≤ (x : Int) := by omega
              have hx8 : (x : Int) < 8 := by omega
              clear C3 o5 R5 f5 HX HWA
              go_wp2_with fail
              refine wp_region_held_drew (S := fun w' => Fr (fun _ => False) w5 w') (by kernel_rfl) ((Fr.refl _ _).drew) (fun hHeld => ?_)
              refine wpAnyH_takeD (i := 0) (v := ?_) (some 100) rfl rfl (by kernel_rfl) (by kernel_rfl) (by kernel_rfl) (fun _ _ _ h => h) (Or.inl ⟨by rfl, ?_⟩) (by assumption) ?_
              rotate_left
              · intro w' hSw
                go_simp
                first | done | with_reducible rfl
              try simp only [Go.Act.put, List.setIfInBounds_toArray, List.set_cons_zero, List.set_cons_succ]
              refine wpAnyH_takeD (i := 1) (v := ?_) (some 101) rfl rfl (by kernel_rfl) (by kernel_rfl) (by kernel_rfl) (fun _ _ _ h => h) (Or.inl ⟨by rfl, ?_⟩) (by assumption) ?_
              rotate_left
              · intro w' hSw
                have s1 := FX.out w' hSw
                go_simp
                first | done | with_reducible rfl
              try simp only [Go.Act.put, List.setIfInBounds_toArray, List.set_cons_zero, List.set_cons_succ]
              refine wpAnyH_takeD (i := 2) (v := ?_) (some 102) rfl rfl (by kernel_rfl) (by kernel_rfl) (by kernel_rfl) (fun _ _ _ h => h) (Or.inl ⟨by rfl, ?_⟩) (by assumption) ?_
              rotate_left
              · intro w' hSw
                go_simp
                first | done | with_reducible rfl
              try simp only [Go.Act.put, List.setIfInBounds_toArray, List.set_cons_zero, List.set_cons_succ]
              refine wpAnyH_takeD (i := 3) (v := ?_) (some 103) rfl rfl (by kernel_rfl) (by kernel_rfl) (by kernel_rfl) (fun _ _ _ h => h) (Or.inl ⟨by rfl, ?_⟩) (by assumption) ?_
              rotate_left
              · intro w' hSw
                go_simp
                first | done | with_reducible rfl
              try simp only [Go.Act.put, List.setIfInBounds_toArray, List.set_cons_zero, List.set_cons_succ]
              refine wpAnyH_takeD (i := 4) (v := ?_) (some 104) rfl rfl (by kernel_rfl) (by kernel_rfl) (by kernel_rfl) (fun _ _ _ h => h) (Or.inl ⟨by rfl, ?_⟩) (by assumption) ?_
              rotate_left
              · intro w' hSw
                have s1 := WR.out.1
                go_simp
                first | done | with_reducible rfl
              try simp only [Go.Act.put, List.setIfInBounds_toArray, List.set_cons_zero, List.set_cons_succ]
              refine wpAnyH_takeD (i := 5) (v := ?_) (some 105) rfl rfl (by kernel_rfl) (by kernel_rfl) (by kernel_rfl) (fun _ _ _ h => h) (Or.inl ⟨by rfl, ?_⟩) (by assumption) ?_
              rotate_left
              · intro w' hSw
                go_simp
                first | done | with_reducible rfl
              try simp only [Go.Act.put, List.setIfInBounds_toArray, List.set_cons_zero, List.set_cons_succ]
              refine wpAnyH_takeD (i := 6) (v := ?_) (some 106) rfl rfl (by kernel_rfl) (by kernel_rfl) (by kernel_rfl) (fun _ _ _ h => h) (Or.inl ⟨by rfl, ?_⟩) (by assumption) ?_
              rotate_left
              · intro w' hSw
                have s1 := WR.out.2.1
                go_simp
                first | done | with_reducible rfl
              try simp only [Go.Act.put, List.setIfInBounds_toArray, List.set_cons_zero, List.set_cons_succ]
              refine wpAnyH_takeD (i := 7) (v := ?_) (some 107) rfl rfl (by kernel_rfl) (by kernel_rfl) (by kernel_rfl) (fun _ _ _ h => h) (Or.inl ⟨by rfl, ?_⟩) (by assumption) ?_
              rotate_left
              · intro w' hSw
                have s1 := WR.out.2.2.1
                go_simp
                first | done | with_reducible rfl
              try simp only [Go.Act.put, List.setIfInBounds_toArray, List.set_cons_zero, List.set_cons_succ]
              refine wpAnyH_takeD (i := 8) (v := ?_) (some 108) rfl rfl (by kernel_rfl) (by kernel_rfl) (by kernel_rfl) (fun _ _ _ h => h) (Or.inl ⟨by rfl, ?_⟩) (by assumption) ?_
              rotate_left
              · intro w' hSw
                obtain ⟨_, _, _, b1, b2, b3, b4, b5, b6, b7⟩ := WR.out
                go_simp
                first | done | with_reducible rfl
              try simp only [Go.Act.put, List.setIfInBounds_toArray, List.set_cons_zero, List.set_cons_succ]
              refine wpAnyH_takeD (i := 9) (v := ?_) (some 109) rfl rfl (by kernel_rfl) (by kernel_rfl) (by kernel_rfl) (fun _ _ _ h => h) (Or.inl ⟨by rfl, ?_⟩) (by assumption) ?_
              rotate_left
              · intro w' hSw
                have s1 := FW.out w' hSw
                go_simp
                first | done | with_reducible rfl
              try simp only [Go.Act.put, List.setIfInBounds_toArray, List.set_cons_zero, List.set_cons_succ]
              refine wpAnyH_takeD (i := 10) (v := ?_) (some 110) rfl rfl (by kernel_rfl) (by kernel_rfl) (by kernel_rfl) (fun _ _ _ h => h) (Or.inl ⟨by rfl, ?_⟩) (by assumption) ?_
              rotate_left
              · intro w' hSw
                go_simp
                first | done | with_reducible rfl
              try simp only [Go.Act.put, List.setIfInBounds_toArray, List.set_cons_zero, List.set_cons_succ]
              refine wpAnyH_takeD (i := 11) (v := ?_) (some 15) rfl rfl (by kernel_rfl) (by kernel_rfl) (by kernel_rfl) (fun _ _ _ h => h) (Or.inl ⟨by rfl, ?_⟩) (by assumption) ?_
              rotate_left
              · intro w' hSw
                go_simp
                first | done | with_reducible rfl
              try simp only [Go.Act.put, List.setIfInBounds_toArray, List.set_cons_zero, List.set_cons_succ]
              refine wpAnyH_done (by kernel_rfl) ?_ _
              have HEQ := Lib.hid (show ((strOf X).toList == (strOf (pieceOf 64 KK x)).toList) = okN KK r x X 0 from strOf_beq X _)
              have HF0 := Lib.hid hHeld
              clear hHeld FW WR
              generalize hpc : ((strOf X).toList == (strOf (pieceOf 64 KK x)).toList) = pc at *
              clear hpc
              go_wp2_with fail
              go_loopw [15, 16] (fun v i wr => ∃ (y : Nat), y ≤ j ∧ i = .int .i64 y ∧ v = .bool (okN KK r x X y) ∧ Fr (fun _ => False) w5 wr) (fun _ i _ => j - (intOf i).toNat)
              case atStart => exact ⟨0, by omega, rfl, by rw [HEQ.out], HF0.out⟩
              case round =>
                obtain ⟨y, hy, rfl, hv, hf⟩ := hrel
                have HF := Lib.hid hf
                clear hf HF0 HEQ
                by_cases hlt4 : y < j
                · obtain ⟨b, o, rfl, hat⟩ := ((HR.out.fr HX5.out.fr (fun _ _ h => h)).fr HF.out (fun _ _ h => h)).at_ (i := y) (by rw [HM.out]; exact hlt4)
                  have hlt' : (y : Int) < j := by omega
                  have hk0 : (0 : Int) ≤ (y : Int) := by omega
                  have STEP : Hid (okN KK r x X (y + 1) = (okN KK r x X y || (decide ((r.getD y default).sec = (x : Int)) && (dataOf (r.getD y default) 64 == X)))) := Lib.hid rfl
                  generalize r.getD y default = q at *
                  have CD0 := data_any q 64 wr.drew hat.rb hat.hb (by omega)
                  unfold Act.v at CD0
                  have CD := Lib.hid CD0
                  have HAT := Lib.hid (fun w' (h : Fr (fun _ => False) wr w') => hat.fr h (fun _ _ h => h))
                  have FX4 := Lib.hid (fun w' (h : Fr (fun _ => False) wr w') => FX.out w' (HF.out.trans h (fun _ _ h => h)))
                  clear CD0 hat
                  cases hb : okN KK r x X y with
                  | true =>
                    rw [hb] at STEP hv
                    subst hv
                    clear hb
                    go_wp2_with fail
                    refine wp_region_held_drew (S := fun w' => Fr (fun _ => False) wr w') (by kernel_rfl) (((Fr.refl _ _).drew)) (fun hHeld => ?_)
                    refine wpAnyH_takeD (i := 0) (v := ?_) (some 117) rfl rfl (by kernel_rfl) (by kernel_rfl) (by kernel_rfl) (fun _ _ _ h => h) (Or.inl ⟨by rfl, ?_⟩) (by assumption) ?_
                    rotate_left
                    · intro w' hSw
                      go_simp
                      first | done | with_reducible rfl
                    try simp only [Go.Act.put, List.setIfInBounds_toArray, List.set_cons_zero, List.set_cons_succ]
                    refine wpAnyH_takeD (i := 1) (v := ?_) (some 118) rfl rfl (by kernel_rfl) (by kernel_rfl) (by kernel_rfl) (fun _ _ _ h => h) (Or.inl ⟨by rfl, ?_⟩) (by assumption) ?_
                    rotate_left
                    · intro w' hSw
                      go_simp
                      first | done | with_reducible rfl
                    try simp only [Go.Act.put, List.setIfInBounds_toArray, List.set_cons_zero, List.set_cons_succ]
                    refine wpAnyH_takeD (i := 2) (v := undef) (some 119) rfl rfl (by kernel_rfl) (by kernel_rfl) (by kernel_rfl) (fun _ _ _ h => h) (Or.inr ⟨by rfl, rfl⟩) (by assumption) ?_
                    try simp only [Go.Act.put, List.setIfInBounds_toArray, List.set_cons_zero, List.set_cons_succ]
                    refine wpAnyH_takeD (i := 3) (v := undef) (some 120) rfl rfl (by kernel_rfl) (by kernel_rfl) (by kernel_rfl) (fun _ _ _ h => h) (Or.inr ⟨by rfl, rfl⟩) (by assumption) ?_
                    try simp only [Go.Act.put, List.setIfInBounds_toArray, List.set_cons_zero, List.set_cons_succ]
                    refine wpAnyH_takeD (i := 4) (v := undef) (some 121) rfl rfl (by kernel_rfl) (by kernel_rfl) (by kernel_rfl) (fun _ _ _ h => h) (Or.inr ⟨by rfl, rfl⟩) (by assumption) ?_
                    try simp only [Go.Act.put, List.setIfInBounds_toArray, List.set_cons_zero, List.set_cons_succ]
                    refine wpAnyH_takeD (i := 5) (v := undef) (some 122) rfl rfl (by kernel_rfl) (by kernel_rfl) (by kernel_rfl) (fun _ _ _ h => h) (Or.inr ⟨by rfl, rfl⟩) (by assumption) ?_
                    try simp only [Go.Act.put, List.setIfInBounds_toArray, List.set_cons_zero, List.set_cons_succ]
                    refine wpAnyH_takeD (i := 6) (v := undef) (some 123) rfl rfl (by kernel_rfl) (by kernel_rfl) (by kernel_rfl) (fun _ _ _ h => h) (Or.inr ⟨by rfl, rfl⟩) (by assumption) ?_
                    try simp only [Go.Act.put, List.setIfInBounds_toArray, List.set_cons_zero, List.set_cons_succ]
                    refine wpAnyH_takeD (i := 7) (v := undef) (some 124) rfl rfl (by kernel_rfl) (by kernel_rfl) (by kernel_rfl) (fun _ _ _ h => h) (Or.inr ⟨by rfl, rfl⟩) (by assumption) ?_
                    try simp only [Go.Act.put, List.setIfInBounds_toArray, List.set_cons_zero, List.set_cons_succ]
                    refine wpAnyH_takeD (i := 8) (v := undef) (some 125) rfl rfl (by kernel_rfl) (by kernel_rfl) (by kernel_rfl) (fun _ _ _ h => h) (Or.inr ⟨by rfl, rfl⟩) (by assumption) ?_
                    try simp only [Go.Act.put, List.setIfInBounds_toArray, List.set_cons_zero, List.set_cons_succ]
                    refine wpAnyH_takeD (i := 9) (v := undef) (some 126) rfl rfl (by kernel_rfl) (by kernel_rfl) (by kernel_rfl) (fun _ _ _ h => h) (Or.inr ⟨by rfl, rfl⟩) (by assumption) ?_
                    try simp only [Go.Act.put, List.setIfInBounds_toArray, List.set_cons_zero, List.set_cons_succ]
                    refine wpAnyH_takeD (i := 10) (v := undef) (some 127) rfl rfl (by kernel_rfl) (by kernel_rfl) (by kernel_rfl) (fun _ _ _ h => h) (Or.inr ⟨by rfl, rfl⟩) (by assumption) ?_
                    try simp only [Go.Act.put, List.setIfInBounds_toArray, List.set_cons_zero, List.set_cons_succ]
                    refine wpAnyH_takeD (i := 11) (v := undef) (some 128) rfl rfl (by kernel_rfl) (by kernel_rfl) (by kernel_rfl) (fun _ _ _ h => h) (Or.inr ⟨by rfl, rfl⟩) (by assumption) ?_
                    try simp only [Go.Act.put, List.setIfInBounds_toArray, List.set_cons_zero, List.set_cons_succ]
                    refine wpAnyH_takeD (i := 12) (v := undef) (some 129) rfl rfl (by kernel_rfl) (by kernel_rfl) (by kernel_rfl) (fun _ _ _ h => h) (Or.inr ⟨by rfl, rfl⟩) (by assumption) ?_
                    try simp only [Go.Act.put, List.setIfInBounds_toArray, List.set_cons_zero, List.set_cons_succ]
                    refine wpAnyH_takeD (i := 13) (v := undef) (some 130) rfl rfl (by kernel_rfl) (by kernel_rfl) (by kernel_rfl) (fun _ _ _ h => h) (Or.inr ⟨by rfl, rfl⟩) (by assumption) ?_
                    try simp only [Go.Act.put, List.setIfInBounds_toArray, List.set_cons_zero, List.set_cons_succ]
                    refine wpAnyH_takeD (i := 14) (v := undef) (some 131) rfl rfl (by kernel_rfl) (by kernel_rfl) (by kernel_rfl) (fun _ _ _ h => h) (Or.inr ⟨by rfl, rfl⟩) (by assumption) ?_
                    try simp only [Go.Act.put, List.setIfInBounds_toArray, List.set_cons_zero, List.set_cons_succ]
                    refine wpAnyH_takeD (i := 15) (v := undef) (some 132) rfl rfl (by kernel_rfl) (by kernel_rfl) (by kernel_rfl) (fun _ _ _ h => h) (Or.inr ⟨by rfl, rfl⟩) (by assumption) ?_
                    try simp only [Go.Act.put, List.setIfInBounds_toArray, List.set_cons_zero, List.set_cons_succ]
                    refine wpAnyH_takeD (i := 16) (v := undef) (some 133) rfl rfl (by kernel_rfl) (by kernel_rfl) (by kernel_rfl) (fun _ _ _ h => h) (Or.inr ⟨by rfl, rfl⟩) (by assumption) ?_
                    try simp only [Go.Act.put, List.setIfInBounds_toArray, List.set_cons_zero, List.set_cons_succ]
                    refine wpAnyH_takeD (i := 17) (v := undef) (some 134) rfl rfl (by kernel_rfl) (by kernel_rfl) (by kernel_rfl) (fun _ _ _ h => h) (Or.inr ⟨by rfl, rfl⟩) (by assumption) ?_
                    try simp only [Go.Act.put, List.setIfInBounds_toArray, List.set_cons_zero, List.set_cons_succ]
                    refine wpAnyH_takeD (i := 18) (v := undef) (some 135) rfl rfl (by kernel_rfl) (by kernel_rfl) (by kernel_rfl) (fun _ _ _ h => h) (Or.inr ⟨by rfl, rfl⟩) (by assumption) ?_
                    try simp only [Go.Act.put, List.setIfInBounds_toArray, List.set_cons_zero, List.set_cons_succ]
                    refine wpAnyH_takeD (i := 19) (v := undef) (some 136) rfl rfl (by kernel_rfl) (by kernel_rfl) (by kernel_rfl) (fun _ _ _ h => h) (Or.inr ⟨by rfl, rfl⟩) (by assumption) ?_
                    try simp only [Go.Act.put, List.setIfInBounds_toArray, List.set_cons_zero, List.set_cons_succ]
                    refine wpAnyH_takeD (i := 20) (v := ?_) (some 137) rfl rfl (by kernel_rfl) (by kernel_rfl) (by kernel_rfl) (fun _ _ _ h => h) (Or.inl ⟨by rfl, ?_⟩) (by assumption) ?_
                    rotate_left
                    · intro w' hSw
                      go_simp
                      first | done | with_reducible rfl
                    try simp only [Go.Act.put, List.setIfInBounds_toArray, List.set_cons_zero, List.set_cons_succ]
                    refine wpAnyH_takeD (i := 21) (v := ?_) (some 15) rfl rfl (by kernel_rfl) (by kernel_rfl) (by kernel_rfl) (fun _ _ _ h => h) (Or.inl ⟨by rfl, ?_⟩) (by assumption) ?_
                    rotate_left
                    · intro w' hSw
                      go_simp
                      first | done | with_reducible rfl
                    try simp only [Go.Act.put, List.setIfInBounds_toArray, List.set_cons_zero, List.set_cons_succ]
                    refine wpAnyH_done (by kernel_rfl) ?_ _
                    have HF6 := Lib.hid (HF.out.trans hHeld (fun _ _ h => h))
                    go_wp2
                    go_roundw
                    case rel => exact ⟨y + 1, by omega, by go_num, by rw [STEP.out]; rfl, HF6.out⟩
                    case measure => simp [intOf]; omega
                  | false =>
                    rw [hb] at STEP hv
                    subst hv
                    clear hb
                    by_cases hsec : q.sec = (x : Int)
                    · have hse : (q.sec == (x : Int)) = true := by simpa using hsec
                      rw [decide_eq_true hsec] at STEP
                      clear hsec
                      go_wp2_with fail
                      refine wp_region_held_drew (S := fun w' => Fr (fun _ => False) wr w') (by kernel_rfl) (((Fr.refl _ _).drew)) (fun hHeld => ?_)
                      refine wpAnyH_takeD (i := 0) (v := ?_) (some 117) rfl rfl (by kernel_rfl) (by kernel_rfl) (by kernel_rfl) (fun _ _ _ h => h) (Or.inl ⟨by rfl, ?_⟩) (by assumption) ?_
                      rotate_left
                      · intro w' hSw
                        go_simp
                        first | done | with_reducible rfl
                      try simp only [Go.Act.put, List.setIfInBounds_toArray, List.set_cons_zero, List.set_cons_succ]
                      refine wpAnyH_takeD (i := 1) (v := ?_) (some 118) rfl rfl (by kernel_rfl) (by kernel_rfl) (by kernel_rfl) (fun _ _ _ h => h) (Or.inl ⟨by rfl, ?_⟩) (by assumption) ?_
                      rotate_left
                      · intro w' hSw
                        go_simp
                        first | done | with_reducible rfl
                      try simp only [Go.Act.put, List.setIfInBounds_toArray, List.set_cons_zero, List.set_cons_succ]
                      refine wpAnyH_takeD (i := 2) (v := ?_) (some 119) rfl rfl (by kernel_rfl) (by kernel_rfl) (by kernel_rfl) (fun _ _ _ h => h) (Or.inl ⟨by rfl, ?_⟩) (by assumption) ?_
                      rotate_left
                      · intro w' hSw
                        go_simp
                        first | done | with_reducible rfl
                      try simp only [Go.Act.put, List.setIfInBounds_toArray, List.set_cons_zero, List.set_cons_succ]
                      refine wpAnyH_takeD (i := 3) (v := ?_) (some 120) rfl rfl (by kernel_rfl) (by kernel_rfl) (by kernel_rfl) (fun _ _ _ h => h) (Or.inl ⟨by rfl, ?_⟩) (by assumption) ?_
                      rotate_left
                      · intro w' hSw
                        go_simp
                        first | done | with_reducible rfl
                      try simp only [Go.Act.put, List.setIfInBounds_toArray, List.set_cons_zero, List.set_cons_succ]
                      refine wpAnyH_takeD (i := 4) (v := ?_) (some 121) rfl rfl (by kernel_rfl) (by kernel_rfl) (by kernel_rfl) (fun _ _ _ h => h) (Or.inl ⟨by rfl, ?_⟩) (by assumption) ?_
                      rotate_left
                      · intro w' hSw
                        go_simp
                        first | done | with_reducible rfl
                      try simp only [Go.Act.put, List.setIfInBounds_toArray, List.set_cons_zero, List.set_cons_succ]
                      refine wpAnyH_takeD (i := 5) (v := ?_) (some 122) rfl rfl (by kernel_rfl) (by kernel_rfl) (by kernel_rfl) (fun _ _ _ h => h) (Or.inl ⟨by rfl, ?_⟩) (by assumption) ?_
                      rotate_left
                      · intro w' hSw
                        go_simp
                        first | done | with_reducible rfl
                      try simp only [Go.Act.put, List.setIfInBounds_toArray, List.set_cons_zero, List.set_cons_succ]
                      refine wpAnyH_takeD (i := 6) (v := ?_) (some 123) rfl rfl (by kernel_rfl) (by kernel_rfl) (by kernel_rfl) (fun _ _ _ h => h) (Or.inl ⟨by rfl, ?_⟩) (by assumption) ?_
                      rotate_left
                      · intro w' hSw
                        have q1 := (HAT.out w' hSw).c1
                        go_simp
                        first | done | with_reducible rfl
                      try simp only [Go.Act.put, List.setIfInBounds_toArray, List.set_cons_zero, List.set_cons_succ]
                      refine wpAnyH_takeD (i := 7) (v := ?_) (some 124) rfl rfl (by kernel_rfl) (by kernel_rfl) (by kernel_rfl) (fun _ _ _ h => h) (Or.inl ⟨by rfl, ?_⟩) (by assumption) ?_
                      rotate_left
                      · intro w' hSw
                        go_simp
                        first | done | with_reducible rfl
                      try simp only [Go.Act.put, List.setIfInBounds_toArray, List.set_cons_zero, List.set_cons_succ]
                      refine wpAnyH_takeD (i := 8) (v := ?_) (some 125) rfl rfl (by kernel_rfl) (by kernel_rfl) (by kernel_rfl) (fun _ _ _ h => h) (Or.inl ⟨by rfl, ?_⟩) (by assumption) ?_
                      rotate_left
                      · intro w' hSw
                        go_simp
                        first | done | with_reducible rfl
                      try simp only [Go.Act.put, List.setIfInBounds_toArray, List.set_cons_zero, List.set_cons_succ]
                      refine wpAnyH_takeD (i := 9) (v := ?_) (some 126) rfl rfl (by kernel_rfl) (by kernel_rfl) (by kernel_rfl) (fun _ _ _ h => h) (Or.inl ⟨by rfl, ?_⟩) (by assumption) ?_
                      rotate_left
                      · intro w' hSw
                        go_simp
                        first | done | with_reducible rfl
                      try simp only [Go.Act.put, List.setIfInBounds_toArray, List.set_cons_zero, List.set_cons_succ]
                      refine wpAnyH_takeD (i := 10) (v := ?_) (some 127) rfl rfl (by kernel_rfl) (by kernel_rfl) (by kernel_rfl) (fun _ _ _ h => h) (Or.inl ⟨by rfl, ?_⟩) (by assumption) ?_
                      rotate_left
                      · intro w' hSw
                        go_simp
                        first | done | with_reducible rfl
                      try simp only [Go.Act.put, List.setIfInBounds_toArray, List.set_cons_zero, List.set_cons_succ]
                      refine wpAnyH_takeD (i := 11) (v := ?_) (some 128) rfl rfl (by kernel_rfl) (by kernel_rfl) (by kernel_rfl) (fun _ _ _ h => h) (Or.inl ⟨by rfl, ?_⟩) (by assumption) ?_
                      rotate_left
                      · intro w' hSw
                        go_simp
                        first | done | with_reducible rfl
                      try simp only [Go.Act.put, List.setIfInBounds_toArray, List.set_cons_zero, List.set_cons_succ]
                      refine wpAnyH_takeD (i := 12) (v := ?_) (some 129) rfl rfl (by kernel_rfl) (by kernel_rfl) (by kernel_rfl) (fun _ _ _ h => h) (Or.inl ⟨by rfl, ?_⟩) (by assumption) ?_
                      rotate_left
                      · intro w' hSw
                        go_simp
                        first | done | with_reducible rfl
                      try simp only [Go.Act.put, List.setIfInBounds_toArray, List.set_cons_zero, List.set_cons_succ]
                      refine wpAnyH_takeD (i := 13) (v := ?_) (some 130) rfl rfl (by kernel_rfl) (by kernel_rfl) (by kernel_rfl) (fun _ _ _ h => h) (Or.inl ⟨by rfl, ?_⟩) (by assumption) ?_
                      rotate_left
                      · intro w' hSw
                        obtain ⟨q0, q1, q2, q3, q4, q5⟩ := (HAT.out w' hSw).six
                        go_simp
                        first | done | with_reducible rfl
                      try simp only [Go.Act.put, List.setIfInBounds_toArray, List.set_cons_zero, List.set_cons_succ]
                      refine wpAnyH_takeD (i := 16) (v := ?_) (some 133) rfl rfl (by kernel_rfl) (by kernel_rfl) (by kernel_rfl) (fun _ _ _ h => h) (Or.inl ⟨by rfl, ?_⟩) (by assumption) ?_
                      rotate_left
                      · intro w' hSw
                        go_simp
                        first | done | with_reducible rfl
                      try simp only [Go.Act.put, List.setIfInBounds_toArray, List.set_cons_zero, List.set_cons_succ]
                      refine wpAnyH_takeD (i := 17) (v := ?_) (some 134) rfl rfl (by kernel_rfl) (by kernel_rfl) (by kernel_rfl) (fun _ _ _ h => h) (Or.inl ⟨by rfl, ?_⟩) (by assumption) ?_
                      rotate_left
                      · intro w' hSw
                        have s1 := FX4.out w' hSw
                        go_simp
                        first | done | with_reducible rfl
                      try simp only [Go.Act.put, List.setIfInBounds_toArray, List.set_cons_zero, List.set_cons_succ]
                      refine wpAnyH_ready (rs := [14]) (by kernel_rfl) (by simp) ?_
                      refine AllReadyH.cons rfl (fun K hK => ?_) AllReadyH.nil
                      go_simp
                      refine CD.out.mono ?_; rintro e w6 ⟨A', c', rfl, hr3, _, hf3⟩
                      have s6 := run_str8 Try.t8d Try.underlying5 Try.underlying9 c' hr3 rfl
                      try go_simp
                      refine hK.out _ _ (hHeld.trans hf3 (fun _ _ h => h)) (fun hHeld => ?_)
                      clear hK K
                      try change wpAnyH _ _ _ _ _ _ _ (Go.Act.put _ (some 131) _) _
                      try simp only [Go.Act.put, List.setIfInBounds_toArray, List.set_cons_zero, List.set_cons_succ]
                      refine wpAnyH_ready (rs := [15]) (by kernel_rfl) (by simp) ?_
                      refine AllReadyH.cons rfl (fun K hK => ?_) AllReadyH.nil
                      go_simp
                      refine hK.out _ _ (hHeld) (fun hHeld => ?_)
                      clear hK K
                      try change wpAnyH _ _ _ _ _ _ _ (Go.Act.put _ (some 132) _) _
                      try simp only [Go.Act.put, List.setIfInBounds_toArray, List.set_cons_zero, List.set_cons_succ]
                      clear s6
                      refine wpAnyH_takeD (i := 18) (v := ?_) (some 135) rfl rfl (by kernel_rfl) (by kernel_rfl) (by kernel_rfl) (fun _ _ _ h => h) (Or.inl ⟨by rfl, ?_⟩) (by assumption) ?_
                      rotate_left
                      · intro w' hSw
                        go_simp
                        first | done | with_reducible rfl
                      try simp only [Go.Act.put, List.setIfInBounds_toArray, List.set_cons_zero, List.set_cons_succ]
                      refine wpAnyH_takeD (i := 19) (v := ?_) (some 136) rfl rfl (by kernel_rfl) (by kernel_rfl) (by kernel_rfl) (fun _ _ _ h => h) (Or.inl ⟨by rfl, ?_⟩) (by assumption) ?_
                      rotate_left
                      · intro w' hSw
                        go_simp
                        first | done | with_reducible rfl
                      try simp only [Go.Act.put, List.setIfInBounds_toArray, List.set_cons_zero, List.set_cons_succ]
                      refine wpAnyH_takeD (i := 20) (v := ?_) (some 137) rfl rfl (by kernel_rfl) (by kernel_rfl) (by kernel_rfl) (fun _ _ _ h => h) (Or.inl ⟨by rfl, ?_⟩) (by assumption) ?_
                      rotate_left
                      · intro w' hSw
                        go_simp
                        first | done | with_reducible rfl
                      try simp only [Go.Act.put, List.setIfInBounds_toArray, List.set_cons_zero, List.set_cons_succ]
                      refine wpAnyH_takeD (i := 21) (v := ?_) (some 15) rfl rfl (by kernel_rfl) (by kernel_rfl) (by kernel_rfl) (fun _ _ _ h => h) (Or.inl ⟨by rfl, ?_⟩) (by assumption) ?_
                      rotate_left
                      · intro w' hSw
                        go_simp
                        first | done | with_reducible rfl
                      try simp only [Go.Act.put, List.setIfInBounds_toArray, List.set_cons_zero, List.set_cons_succ]
                      refine wpAnyH_done (by kernel_rfl) ?_ _
                      have HF6 := Lib.hid (HF.out.trans hHeld (fun _ _ h => h))
                      go_wp2
                      go_roundw
                      case rel => exact ⟨y + 1, by omega, by go_num, by rw [STEP.out, strOf_beq]; rfl, HF6.out⟩
                      case measure => simp [intOf]; omega
                    · have hse : (q.sec == (x : Int)) = false := by simpa using hsec
                      rw [decide_eq_false hsec] at STEP
                      clear hsec
                      go_wp2_with fail
                      refine wp_region_held_drew (S := fun w' => Fr (fun _ => False) wr w') (by kernel_rfl) (((Fr.refl _ _).drew)) (fun hHeld => ?_)
                      refine wpAnyH_takeD (i := 0) (v := ?_) (some 117) rfl rfl (by kernel_rfl) (by kernel_rfl) (by kernel_rfl) (fun _ _ _ h => h) (Or.inl ⟨by rfl, ?_⟩) (by assumption) ?_
                      rotate_left
                      · intro w' hSw
                        go_simp
                        first | done | with_reducible rfl
                      try simp only [Go.Act.put, List.setIfInBounds_toArray, List.set_cons_zero, List.set_cons_succ]
                      refine wpAnyH_takeD (i := 1) (v := ?_) (some 118) rfl rfl (by kernel_rfl) (by kernel_rfl) (by kernel_rfl) (fun _ _ _ h => h) (Or.inl ⟨by rfl, ?_⟩) (by assumption) ?_
                      rotate_left
                      · intro w' hSw
                        go_simp
                        first | done | with_reducible rfl
                      try simp only [Go.Act.put, List.setIfInBounds_toArray, List.set_cons_zero, List.set_cons_succ]
                      refine wpAnyH_takeD (i := 2) (v := ?_) (some 119) rfl rfl (by kernel_rfl) (by kernel_rfl) (by kernel_rfl) (fun _ _ _ h => h) (Or.inl ⟨by rfl, ?_⟩) (by assumption) ?_
                      rotate_left
                      · intro w' hSw
                        go_simp
                        first | done | with_reducible rfl
                      try simp only [Go.Act.put, List.setIfInBounds_toArray, List.set_cons_zero, List.set_cons_succ]
                      refine wpAnyH_takeD (i := 3) (v := ?_) (some 120) rfl rfl (by kernel_rfl) (by kernel_rfl) (by kernel_rfl) (fun _ _ _ h => h) (Or.inl ⟨by rfl, ?_⟩) (by assumption) ?_
                      rotate_left
                      · intro w' hSw
                        go_simp
                        first | done | with_reducible rfl
                      try simp only [Go.Act.put, List.setIfInBounds_toArray, List.set_cons_zero, List.set_cons_succ]
                      refine wpAnyH_takeD (i := 4) (v := ?_) (some 121) rfl rfl (by kernel_rfl) (by kernel_rfl) (by kernel_rfl) (fun _ _ _ h => h) (Or.inl ⟨by rfl, ?_⟩) (by assumption) ?_
                      rotate_left
                      · intro w' hSw
                        go_simp
                        first | done | with_reducible rfl
                      try simp only [Go.Act.put, List.setIfInBounds_toArray, List.set_cons_zero, List.set_cons_succ]
                      refine wpAnyH_takeD (i := 5) (v := ?_) (some 122) rfl rfl (by kernel_rfl) (by kernel_rfl) (by kernel_rfl) (fun _ _ _ h => h) (Or.inl ⟨by rfl, ?_⟩) (by assumption) ?_
                      rotate_left
                      · intro w' hSw
                        go_simp
                        first | done | with_reducible rfl
                      try simp only [Go.Act.put, List.setIfInBounds_toArray, List.set_cons_zero, List.set_cons_succ]
                      refine wpAnyH_takeD (i := 6) (v := ?_) (some 123) rfl rfl (by kernel_rfl) (by kernel_rfl) (by kernel_rfl) (fun _ _ _ h => h) (Or.inl ⟨by rfl, ?_⟩) (by assumption) ?_
                      rotate_left
                      · intro w' hSw
                        have q1 := (HAT.out w' hSw).c1
                        go_simp
                        first | done | with_reducible rfl
                      try simp only [Go.Act.put, List.setIfInBounds_toArray, List.set_cons_zero, List.set_cons_succ]
                      refine wpAnyH_takeD (i := 7) (v := ?_) (some 124) rfl rfl (by kernel_rfl) (by kernel_rfl) (by kernel_rfl) (fun _ _ _ h => h) (Or.inl ⟨by rfl, ?_⟩) (by assumption) ?_
                      rotate_left
                      · intro w' hSw
                        go_simp
                        first | done | with_reducible rfl
                      try simp only [Go.Act.put, List.setIfInBounds_toArray, List.set_cons_zero, List.set_cons_succ]
                      refine wpAnyH_takeD (i := 8) (v := ?_) (some 125) rfl rfl (by kernel_rfl) (by kernel_rfl) (by kernel_rfl) (fun _ _ _ h => h) (Or.inl ⟨by rfl, ?_⟩) (by assumption) ?_
                      rotate_left
                      · intro w' hSw
                        go_simp
                        first | done | with_reducible rfl
                      try simp only [Go.Act.put, List.setIfInBounds_toArray, List.set_cons_zero, List.set_cons_succ]
                      refine wpAnyH_takeD (i := 9) (v := ?_) (some 126) rfl rfl (by kernel_rfl) (by kernel_rfl) (by kernel_rfl) (fun _ _ _ h => h) (Or.inl ⟨by rfl, ?_⟩) (by assumption) ?_
                      rotate_left
                      · intro w' hSw
                        go_simp
                        first | done | with_reducible rfl
                      try simp only [Go.Act.put, List.setIfInBounds_toArray, List.set_cons_zero, List.set_cons_succ]
                      refine wpAnyH_takeD (i := 10) (v := undef) (some 127) rfl rfl (by kernel_rfl) (by kernel_rfl) (by kernel_rfl) (fun _ _ _ h => h) (Or.inr ⟨by rfl, rfl⟩) (by assumption) ?_
                      try simp only [Go.Act.put, List.setIfInBounds_toArray, List.set_cons_zero, List.set_cons_succ]
                      refine wpAnyH_takeD (i := 11) (v := undef) (some 128) rfl rfl (by kernel_rfl) (by kernel_rfl) (by kernel_rfl) (fun _ _ _ h => h) (Or.inr ⟨by rfl, rfl⟩) (by assumption) ?_
                      try simp only [Go.Act.put, List.setIfInBounds_toArray, List.set_cons_zero, List.set_cons_succ]
                      refine wpAnyH_takeD (i := 12) (v := undef) (some 129) rfl rfl (by kernel_rfl) (by kernel_rfl) (by kernel_rfl) (fun _ _ _ h => h) (Or.inr ⟨by rfl, rfl⟩) (by assumption) ?_
                      try simp only [Go.Act.put, List.setIfInBounds_toArray, List.set_cons_zero, List.set_cons_succ]
                      refine wpAnyH_takeD (i := 13) (v := undef) (some 130) rfl rfl (by kernel_rfl) (by kernel_rfl) (by kernel_rfl) (fun _ _ _ h => h) (Or.inr ⟨by rfl, rfl⟩) (by assumption) ?_
                      try simp only [Go.Act.put, List.setIfInBounds_toArray, List.set_cons_zero, List.set_cons_succ]
                      refine wpAnyH_takeD (i := 14) (v := undef) (some 131) rfl rfl (by kernel_rfl) (by kernel_rfl) (by kernel_rfl) (fun _ _ _ h => h) (Or.inr ⟨by rfl, rfl⟩) (by assumption) ?_
                      try simp only [Go.Act.put, List.setIfInBounds_toArray, List.set_cons_zero, List.set_cons_succ]
                      refine wpAnyH_takeD (i := 15) (v := undef) (some 132) rfl rfl (by kernel_rfl) (by kernel_rfl) (by kernel_rfl) (fun _ _ _ h => h) (Or.inr ⟨by rfl, rfl⟩) (by assumption) ?_
                      try simp only [Go.Act.put, List.setIfInBounds_toArray, List.set_cons_zero, List.set_cons_succ]
                      refine wpAnyH_takeD (i := 16) (v := undef) (some 133) rfl rfl (by kernel_rfl) (by kernel_rfl) (by kernel_rfl) (fun _ _ _ h => h) (Or.inr ⟨by rfl, rfl⟩) (by assumption) ?_
                      try simp only [Go.Act.put, List.setIfInBounds_toArray, List.set_cons_zero, List.set_cons_succ]
                      refine wpAnyH_takeD (i := 17) (v := undef) (some 134) rfl rfl (by kernel_rfl) (by kernel_rfl) (by kernel_rfl) (fun _ _ _ h => h) (Or.inr ⟨by rfl, rfl⟩) (by assumption) ?_
                      try simp only [Go.Act.put, List.setIfInBounds_toArray, List.set_cons_zero, List.set_cons_succ]
                      refine wpAnyH_takeD (i := 18) (v := undef) (some 135) rfl rfl (by kernel_rfl) (by kernel_rfl) (by kernel_rfl) (fun _ _ _ h => h) (Or.inr ⟨by rfl, rfl⟩) (by assumption) ?_
                      try simp only [Go.Act.put, List.setIfInBounds_toArray, List.set_cons_zero, List.set_cons_succ]
                      refine wpAnyH_takeD (i := 19) (v := ?_) (some 136) rfl rfl (by kernel_rfl) (by kernel_rfl) (by kernel_rfl) (fun _ _ _ h => h) (Or.inl ⟨by rfl, ?_⟩) (by assumption) ?_
                      rotate_left
                      · intro w' hSw
                        go_simp
                        first | done | with_reducible rfl
                      try simp only [Go.Act.put, List.setIfInBounds_toArray, List.set_cons_zero, List.set_cons_succ]
                      refine wpAnyH_takeD (i := 20) (v := ?_) (some 137) rfl rfl (by kernel_rfl) (by kernel_rfl) (by kernel_rfl) (fun _ _ _ h => h) (Or.inl ⟨by rfl, ?_⟩) (by assumption) ?_
                      rotate_left
                      · intro w' hSw
                        go_simp
                        first | done | with_reducible rfl
                      try simp only [Go.Act.put, List.setIfInBounds_toArray, List.set_cons_zero, List.set_cons_succ]
                      refine wpAnyH_takeD (i := 21) (v := ?_) (some 15) rfl rfl (by kernel_rfl) (by kernel_rfl) (by kernel_rfl) (fun _ _ _ h => h) (Or.inl ⟨by rfl, ?_⟩) (by assumption) ?_
                      rotate_left
                      · intro w' hSw
                        go_simp
                        first | done | with_reducible rfl
                      try simp only [Go.Act.put, List.setIfInBounds_toArray, List.set_cons_zero, List.set_cons_succ]
                      refine wpAnyH_done (by kernel_rfl) ?_ _
                      have HF6 := Lib.hid (HF.out.trans hHeld (fun _ _ h => h))
                      go_wp2
                      go_roundw
                      case rel => exact ⟨y + 1, by omega, by go_num, by rw [STEP.out]; rfl, HF6.out⟩
                      case measure => simp [intOf]; omega
                · obtain rfl : y = j := by omega
                  rw [HOK.out] at hv
                  subst hv
                  have HXE := Lib.hid (HX5.out.on0 HF.out)
                  have HWE := Lib.hid (HWA5.out.fr0 HF.out)
                  go_wp2
                  go_roundw
                  case rel => exact ⟨x + 1, by omega, by go_num, HXE.out, HWE.out⟩
                  case measure => simp [intOf]; omega
            · obtain rfl : x = 8 := by omega
              have CP := pending_any HX.out.dsk
              rw [(HQ.out 0 (by omega)).2.2.1] at CP
              have CP := Lib.hid CP
              have HF6 := Lib.hid HX.out.fr
              go_wp2_with fail
              refine CP.out.mono ?_; rintro e w5 ⟨rfl, rfl⟩
              go_wp2
              go_ret
              exact ⟨rfl, HF6.out⟩
end Go.Proofs.Ytnkkdpmmnenncaa
