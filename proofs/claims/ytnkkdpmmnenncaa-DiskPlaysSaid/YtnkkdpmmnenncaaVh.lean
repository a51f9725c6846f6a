/- The walk of DiskPlays. -/
import Derived.Test.YtnkkdpmmnenncaaVg
namespace Go.Proofs.Ytnkkdpmmnenncaa
open Go.RowKit Go.Maps

/-- Both disks, side by side. -/
structure Pair (w wi : World) (g : Nat) (s : DS) (F : Nat → Prop) (gr : Nat) (t : DS) (G : Nat → Prop) : Prop where
  run : RunF w wi g s F
  ref : RefD wi gr t G
  low : ∀ k, G k → w.heap.size ≤ k
  apart : ∀ k, F k → ¬ G k
theorem Pair.dstep {w wi w2 : World} {g gr : Nat} {s s' t : DS} {F F' G : Nat → Prop} (h : Pair w wi g s F gr t G) (r : RunF w w2 g s' F') (f : Fr F wi w2) (n : ∀ x, x < wi.heap.size → ¬ F x → ¬ F' x) : Pair w w2 g s' F' gr t G :=
  ⟨r, h.ref.fr f (fun k hG hF => h.apart k hF hG), h.low, fun k hF' hG => n k (h.ref.lt hG) (fun hF => h.apart k hF hG) hF'⟩
theorem Pair.rstep {w wi w2 : World} {g gr : Nat} {s t t' : DS} {F G : Nat → Prop} (h : Pair w wi g s F gr t G) (k : RefTo wi gr G w2 t') : ∃ G', Pair w w2 g s F gr t' G' ∧ Fr G wi w2 := by
  obtain ⟨G', h1, h2, h3⟩ := k
  refine ⟨G', ⟨h.run.on h2 (fun k hF hG => h.apart k hF hG) h.low, h1, fun k hk => ?_, fun k hF hG' => ?_⟩, h2⟩
  · rcases h3 k hk with e | e
    · exact h.low k e
    · have := h.run.fr.size; omega
  · rcases h3 k hG' with e | e
    · exact h.apart k hF e
    · have := h.run.lt hF; omega
theorem Pair.quiet {w wi w2 : World} {g gr : Nat} {s t : DS} {F G : Nat → Prop} (h : Pair w wi g s F gr t G) (hf : Fr (fun _ => False) wi w2) : Pair w w2 g s F gr t G :=
  ⟨h.run.on0 hf, h.ref.fr hf (fun _ _ h => h), h.low, h.apart⟩
/-- What holds of the state behind k acts. -/
structure PInv (s : DS) (N sz k : Nat) : Prop where
  N : s.N = N
  sz : s.sz = sz
  q : s.q.length ≤ k
  wr : s.writes ≤ k
  keep : s.keep.length ≤ 140737488355328
theorem PInv.up {s : DS} {N sz k : Nat} (h : PInv s N sz k) : PInv s N sz (k + 1) := ⟨h.N, h.sz, by have := h.q; omega, by have := h.wr; omega, h.keep⟩
theorem PInv.cut {s : DS} {N sz k : Nat} (h : PInv s N sz k) (xs : List Bool) : PInv (s.cut xs) N sz (k + 1) := ⟨h.N, h.sz, by simp [DS.cut], by have := h.wr; show s.writes ≤ _; omega, by simp [DS.cut]⟩
theorem PInv.sync {s : DS} {N sz k : Nat} (h : PInv s N sz k) : PInv (syncS s) N sz (k + 1) := by
  unfold syncS
  split
  · exact h.up
  · exact ⟨h.N, h.sz, by simp [DS.sync], by have := h.wr; show s.writes ≤ _; omega, h.keep⟩
theorem PInv.arm {s : DS} {N sz k : Nat} (h : PInv s N sz k) (n : Int) (xs : List Bool) (hx : xs.length ≤ 140737488355328) : PInv (s.arm n xs) N sz (k + 1) := ⟨h.N, h.sz, by have := h.q; show s.q.length ≤ _; omega, by have := h.wr; show s.writes ≤ _; omega, hx⟩
theorem PInv.on {s : DS} {N sz k : Nat} (h : PInv s N sz k) : PInv s.on N sz (k + 1) := ⟨h.N, h.sz, by have := h.q; show s.q.length ≤ _; omega, by have := h.wr; show s.writes ≤ _; omega, h.keep⟩
theorem PInv.write {s : DS} {N sz k : Nat} (h : PInv s N sz k) (x : Int) (b : List UInt8) : PInv (s.write x b) N sz (k + 1) := by
  unfold DS.write
  split
  · exact h.up
  · split
    · exact h.cut _
    · exact ⟨h.N, h.sz, by have := h.q; show (s.q ++ [_]).length ≤ _; simp; omega, by have := h.wr; show s.writes + 1 ≤ _; omega, h.keep⟩
theorem PInv.new (N sz : Nat) : PInv (DS.new N sz) N sz 0 := ⟨rfl, rfl, Nat.le_refl _, Nat.le_refl _, by show 0 ≤ _; omega⟩

set_option maxRecDepth 100000 in
set_option maxHeartbeats 8000000 in
theorem plays_in (N sz : Nat) (A : Option Addr) (n c : Nat) (l : List Act) (w : World) (hl : Acts w w.heap.size A l) (hn : l.length = n) (hf1 : fewP l = true) (h1 : 1 ≤ N) (h2 : N ≤ 100) (h3 : 64 ≤ sz) (h4 : sz ≤ 512) :
    Calls Try.prog 3 #[.int .i64 (N : Int), .int .i64 (sz : Int), .slice A n c] w fun e w' => e = .returned (.bool true) ∧ Fr (fun _ => False) w w' := by
  have hn2 : n ≤ 200 := by have := (fewP_yes hf1).1; omega
  have d1 : decide ((100 : Int) < (N : Int)) = false := by simp; omega
  have d2 : decide ((512 : Int) < (sz : Int)) = false := by simp; omega
  have CF1 := Lib.hid (fun w' (hf : Fr (fun _ => False) w w') => few_any A n c w.heap.size l w' (hl.fr hf (fun _ _ h => h)) hn (by omega) hf.size)
  rw [hf1] at CF1
  have C1 := Lib.hid (fun w' => new_any N sz w' h1 (by omega) h3 (by omega))
  have C2 := Lib.hid (fun w' => refNew_any N sz w' h1 (by omega) h3 (by omega))
  have HL := Lib.hid hl
  have HN := Lib.hid hn
  clear hl hn hf1
  go_enter Try.func3, Try.ntmps3
  go_wp2_with fail
  refine (known_any w).mono ?_; rintro e w0 ⟨rfl, hf0⟩
  go_wp2_with fail
  refine (CF1.out w0 hf0).mono ?_; rintro e w1 ⟨rfl, g1⟩
  have g1' := hf0.trans g1 (fun _ _ h => h)
  clear hf0 g1 CF1
  go_wp2_with fail
  refine (C1.out w1).mono ?_; rintro e w2 ⟨g, F, rfl, k1, k2, k3⟩
  have HR := Lib.hid (show RunF w w2 g (DS.new N sz) F from ⟨k1, fun k hk => Nat.le_trans g1'.size (k2 k hk), g1'.trans k3 (fun _ _ h => h)⟩)
  clear C1 k1 k2 k3 g1'
  go_wp2_with fail
  refine (C2.out w2).mono ?_; rintro e w3 ⟨gr, G, rfl, k1, k2, k3⟩
  have HP := Lib.hid (show Pair w w3 g (DS.new N sz) F gr (DS.new N sz) G from ⟨HR.out.on0 k3, k1, fun k hk => Nat.le_trans HR.out.fr.size (k2 k hk), fun k hF hG => by
    have e1 := HR.out.lt hF
    have e2 := k2 k hG
    omega⟩)
  clear C2 k1 k2 k3 HR
  go_wp2_with fail
  go_loopw [11] (fun i wr => ∃ (k : Nat) (s : DS) (F G : Nat → Prop), k ≤ n ∧ i = .int .i64 k ∧ PInv s N sz k ∧ Pair w wr g s F gr s G) (fun i _ => n - (intOf i).toNat)
  case atStart => exact ⟨0, _, F, G, by omega, rfl, PInv.new N sz, HP.out⟩
  case round =>
    obtain ⟨k, s, F1, G1, hk, rfl, hinv, hpair⟩ := hrel
    have HI := Lib.hid hinv
    have HX := Lib.hid hpair
    clear hinv hpair HP
    by_cases hlt : k < n
    · obtain ⟨b, o, rfl, hat⟩ := (HL.out.fr HX.out.run.fr (fun _ _ h => h)).at_ (i := k) (by rw [HN.out]; exact hlt)
      have hlt' : (k : Int) < n := by omega
      have hk0 : (0 : Int) ≤ (k : Int) := by omega
      generalize l.getD k default = q at *
      obtain ⟨W, hW⟩ : ∃ W, wr.alloc (.cells #[.int .i64 q.op, .int .i64 q.sec, .int .u8 (q.fill.toNat : Int), .slice q.bA q.bs.length q.bc, .int .i64 q.n, .slice q.kA q.ks.length q.kc] 35) = W := ⟨_, rfl⟩
      obtain ⟨ga, hga⟩ : ∃ ga, wr.heap.size = ga := ⟨_, rfl⟩
      have fW : Fr (fun _ => False) wr W := by rw [← hW]; exact (Fr.refl _ _).alloc _
      have bW : Bk W ga 35 #[.int .i64 q.op, .int .i64 q.sec, .int .u8 (q.fill.toNat : Int), .slice q.bA q.bs.length q.bc, .int .i64 q.n, .slice q.kA q.ks.length q.kc] := by rw [← hW, ← hga]; exact Bk.new _ _ _
      have HAT := Lib.hid (hat.fr fW (fun _ _ h => h))
      obtain ⟨q0, q1, q2, q3, q4, q5⟩ := hat.six
      have HY := Lib.hid (HX.out.quiet fW)
      have ngF : ¬ F1 ga := fun h => by have := HX.out.run.lt h; omega
      have ngG : ¬ G1 ga := fun h => by have := HX.out.ref.lt h; omega
      have CL := Lib.hid (fun w' (hf : Fr (fun x => F1 x ∨ G1 x) W w') => And.intro (show w'.cell? ⟨ga, 0, none⟩ = some (.int .i64 q.op) from (bW.fr hf (fun h => h.elim ngF ngG)).cell 0) (And.intro (show w'.cell? ⟨ga, 1, none⟩ = some (.int .i64 q.sec) from (bW.fr hf (fun h => h.elim ngF ngG)).cell 1) (And.intro (show w'.cell? ⟨ga, 2, none⟩ = some (.int .u8 (q.fill.toNat : Int)) from (bW.fr hf (fun h => h.elim ngF ngG)).cell 2) (And.intro (show w'.cell? ⟨ga, 3, none⟩ = some (.slice q.bA q.bs.length q.bc) from (bW.fr hf (fun h => h.elim ngF ngG)).cell 3) (And.intro (show w'.cell? ⟨ga, 4, none⟩ = some (.int .i64 q.n) from (bW.fr hf (fun h => h.elim ngF ngG)).cell 4) (show w'.cell? ⟨ga, 5, none⟩ = some (.slice q.kA q.ks.length q.kc) from (bW.fr hf (fun h => h.elim ngF ngG)).cell 5))))))
      have HAT2 := Lib.hid (fun w' (hf : Fr (fun x => F1 x ∨ G1 x) W w') => HAT.out.fr hf (fun x hx h => by
        rcases h with h | h
        · have := HX.out.run.low x h; omega
        · have := HX.out.low x h; omega))
      obtain ⟨p0, p1, p2, p3, p4, p5⟩ := CL.out W (Fr.refl _ _)
      have HAF := Lib.hid (show ∀ ad, q.kA = some ad → 0 < q.ks.length → ¬ F1 ad.block from fun ad e h0 h => by
        have h5 := HAT.out.kb ad e h0
        have := HX.out.run.low _ h; omega)
      have HAG := Lib.hid (show ∀ ad, q.kA = some ad → 0 < q.ks.length → ¬ G1 ad.block from fun ad e h0 h => by
        have h5 := HAT.out.kb ad e h0
        have := HX.out.low _ h; omega)
      have HQ1 := Lib.hid (show s.q.length ≤ 200 by have := HI.out.q; omega)
      have HW1 := Lib.hid (show s.writes ≤ 200 by have := HI.out.wr; omega)
      have n2 := HAT.out.n2
      have hks := HAT.out.hk
      have hbs := HAT.out.hb
      clear hat fW bW ngF ngG
      by_cases hop1 : q.op = 1
      · have e1 : (q.op == 1) = true := by simpa using hop1
        have CD0 := data_any q sz W.drew HAT.out.rb HAT.out.hb (by omega)
        unfold Act.v at CD0
        have CD := Lib.hid CD0
        have CW := Lib.hid (fun w3 A' c' hr hl hf => HY.out.run.dataW (by have := HQ1.out; omega) (by have := HW1.out; omega) HI.out.keep (HAT.out) (w3 := w3) (A := A') (c := c') (sz := sz) hr hl hf)
        have INV := Lib.hid (HI.out.write q.sec (dataOf q sz))
        clear CD0 hop1
        go_wp2_with fail
        clear hW hga q0 q1 q2 q3 q4 q5
        refine wp_region_held_drew (S := fun w' => Fr (fun x => F1 x ∨ G1 x) W w') (by kernel_rfl) ((Fr.refl _ _).drew) (fun hHeld => ?_)
        clear p0 p1 p2 p3 p4 p5
        refine wpAnyH_takeD (i := 0) (v := ?_) (some 74) rfl rfl (by kernel_rfl) (by kernel_rfl) (by kernel_rfl) (fun _ _ _ h => h) (Or.inl ⟨by rfl, ?_⟩) (by assumption) ?_
        rotate_left
        · intro w' hSw
          go_simp
          first | done | with_reducible rfl
        try simp only [Go.Act.put, List.setIfInBounds_toArray, List.set_cons_zero, List.set_cons_succ]
        refine wpAnyH_takeD (i := 1) (v := ?_) (some 75) rfl rfl (by kernel_rfl) (by kernel_rfl) (by kernel_rfl) (fun _ _ _ h => h) (Or.inl ⟨by rfl, ?_⟩) (by assumption) ?_
        rotate_left
        · intro w' hSw
          go_simp
          first | done | with_reducible rfl
        try simp only [Go.Act.put, List.setIfInBounds_toArray, List.set_cons_zero, List.set_cons_succ]
        refine wpAnyH_takeD (i := 2) (v := ?_) (some 76) rfl rfl (by kernel_rfl) (by kernel_rfl) (by kernel_rfl) (fun _ _ _ h => h) (Or.inl ⟨by rfl, ?_⟩) (by assumption) ?_
        rotate_left
        · intro w' hSw
          have q1 := (CL.out w' hSw).2.1
          go_simp
          first | done | with_reducible rfl
        try simp only [Go.Act.put, List.setIfInBounds_toArray, List.set_cons_zero, List.set_cons_succ]
        refine wpAnyH_takeD (i := 3) (v := ?_) (some 77) rfl rfl (by kernel_rfl) (by kernel_rfl) (by kernel_rfl) (fun _ _ _ h => h) (Or.inl ⟨by rfl, ?_⟩) (by assumption) ?_
        rotate_left
        · intro w' hSw
          obtain ⟨q0, q1, q2, q3, q4, q5⟩ := CL.out w' hSw
          go_simp
          first | done | with_reducible rfl
        try simp only [Go.Act.put, List.setIfInBounds_toArray, List.set_cons_zero, List.set_cons_succ]
        refine wpAnyH_takeD (i := 4) (v := ?_) (some 78) rfl rfl (by kernel_rfl) (by kernel_rfl) (by kernel_rfl) (fun _ _ _ h => h) (Or.inl ⟨by rfl, ?_⟩) (by assumption) ?_
        rotate_left
        · intro w' hSw
          go_simp
          first | done | with_reducible rfl
        try simp only [Go.Act.put, List.setIfInBounds_toArray, List.set_cons_zero, List.set_cons_succ]
        refine wpAnyH_takeD (i := 7) (v := ?_) (some 81) rfl rfl (by kernel_rfl) (by kernel_rfl) (by kernel_rfl) (fun _ _ _ h => h) (Or.inl ⟨by rfl, ?_⟩) (by assumption) ?_
        rotate_left
        · intro w' hSw
          go_simp
          first | done | with_reducible rfl
        try simp only [Go.Act.put, List.setIfInBounds_toArray, List.set_cons_zero, List.set_cons_succ]
        refine wpAnyH_takeD (i := 8) (v := ?_) (some 82) rfl rfl (by kernel_rfl) (by kernel_rfl) (by kernel_rfl) (fun _ _ _ h => h) (Or.inl ⟨by rfl, ?_⟩) (by assumption) ?_
        rotate_left
        · intro w' hSw
          go_simp
          first | done | with_reducible rfl
        try simp only [Go.Act.put, List.setIfInBounds_toArray, List.set_cons_zero, List.set_cons_succ]
        refine wpAnyH_takeD (i := 9) (v := ?_) (some 83) rfl rfl (by kernel_rfl) (by kernel_rfl) (by kernel_rfl) (fun _ _ _ h => h) (Or.inl ⟨by rfl, ?_⟩) (by assumption) ?_
        rotate_left
        · intro w' hSw
          have q1 := (CL.out w' hSw).2.1
          go_simp
          first | done | with_reducible rfl
        try simp only [Go.Act.put, List.setIfInBounds_toArray, List.set_cons_zero, List.set_cons_succ]
        refine wpAnyH_takeD (i := 10) (v := ?_) (some 84) rfl rfl (by kernel_rfl) (by kernel_rfl) (by kernel_rfl) (fun _ _ _ h => h) (Or.inl ⟨by rfl, ?_⟩) (by assumption) ?_
        rotate_left
        · intro w' hSw
          obtain ⟨q0, q1, q2, q3, q4, q5⟩ := CL.out w' hSw
          go_simp
          first | done | with_reducible rfl
        try simp only [Go.Act.put, List.setIfInBounds_toArray, List.set_cons_zero, List.set_cons_succ]
        refine wpAnyH_takeD (i := 11) (v := ?_) (some 85) rfl rfl (by kernel_rfl) (by kernel_rfl) (by kernel_rfl) (fun _ _ _ h => h) (Or.inl ⟨by rfl, ?_⟩) (by assumption) ?_
        rotate_left
        · intro w' hSw
          go_simp
          first | done | with_reducible rfl
        try simp only [Go.Act.put, List.setIfInBounds_toArray, List.set_cons_zero, List.set_cons_succ]
        refine wpAnyH_ready (rs := [5]) (by kernel_rfl) (by simp) ?_
        refine AllReadyH.cons rfl (fun K hK => ?_) AllReadyH.nil
        go_simp
        refine CD.out.mono ?_; rintro e w3 ⟨A', c', rfl, hr3, hl3, hf3⟩
        try go_simp
        refine hK.out _ _ (hHeld.trans hf3 (fun _ _ h => h.elim)) (fun hHeld => ?_)
        clear hK K
        try change wpAnyH _ _ _ _ _ _ _ (Go.Act.put _ (some 79) _) _
        try simp only [Go.Act.put, List.setIfInBounds_toArray, List.set_cons_zero, List.set_cons_succ]
        refine wpAnyH_ready (rs := [6]) (by kernel_rfl) (by simp) ?_
        refine AllReadyH.cons rfl (fun K hK => ?_) AllReadyH.nil
        go_simp
        refine (CW.out w3 A' c' hr3 hl3 ((Fr.refl _ _).drew.trans hf3 (fun _ _ h => h))).mono ?_; rintro e w4 ⟨rfl, F4, R4, f4, n4⟩
        have hF4 := hHeld.trans f4 (fun _ _ h => .inl h)
        have hP3 := HY.out.quiet ((Fr.refl (fun _ => False) W).drew.trans hf3 (fun _ _ h => h))
        have HP4 := Lib.hid (hP3.dstep R4 f4 n4)
        try go_simp
        refine hK.out _ _ (hF4) (fun hHeld => ?_)
        clear hK K
        try change wpAnyH _ _ _ _ _ _ _ (Go.Act.put _ (some 80) _) _
        try simp only [Go.Act.put, List.setIfInBounds_toArray, List.set_cons_zero, List.set_cons_succ]
        have HA4 := Lib.hid (HAT2.out w4 hHeld)
        have CD20 := data_any q sz w4 HA4.out.rb HA4.out.hb (by omega)
        unfold Act.v at CD20
        have CD2 := Lib.hid CD20
        clear CD20
        clear hr3 hl3 hf3 R4 f4 n4 hF4 hP3
        refine wpAnyH_ready (rs := [12]) (by kernel_rfl) (by simp) ?_
        refine AllReadyH.cons rfl (fun K hK => ?_) AllReadyH.nil
        go_simp
        refine CD2.out.mono ?_; rintro e w5 ⟨A2, c2, rfl, hr5, hl5, hf5⟩
        try go_simp
        refine hK.out _ _ (hHeld.trans hf5 (fun _ _ h => h.elim)) (fun hHeld => ?_)
        clear hK K
        try change wpAnyH _ _ _ _ _ _ _ (Go.Act.put _ (some 86) _) _
        try simp only [Go.Act.put, List.setIfInBounds_toArray, List.set_cons_zero, List.set_cons_succ]
        have hP5 := HP4.out.quiet hf5
        have HP5 := Lib.hid hP5
        have CW2 := Lib.hid (hP5.ref.write (by have := HQ1.out; omega) (by have := HW1.out; omega) HI.out.keep q.sec A2 _ c2 (dataOf q sz) hr5 rfl (fun ad e h0 hG => by
          rcases hl5 ad e with h6 | ⟨h6, h7⟩
          · have := HP4.out.ref.lt hG; omega
          · have h8 := HA4.out.bb ad h6 h7
            have := HP4.out.low _ hG; omega))
        have HHELD := Lib.hid hHeld
        clear hP5 hr5 hl5 hf5
        refine wpAnyH_ready (rs := [13]) (by kernel_rfl) (by simp) ?_
        refine AllReadyH.cons rfl (fun K hK => ?_) AllReadyH.nil
        go_simp
        refine CW2.out.mono ?_; rintro e w6 ⟨rfl, k6⟩
        obtain ⟨G6, hP6, f6⟩ := HP5.out.rstep k6
        try go_simp
        refine hK.out _ _ (hHeld.trans f6 (fun _ _ h => .inr h)) (fun hHeld => ?_)
        clear hK K
        try change wpAnyH _ _ _ _ _ _ _ (Go.Act.put _ (some 87) _) _
        try simp only [Go.Act.put, List.setIfInBounds_toArray, List.set_cons_zero, List.set_cons_succ]
        have hzz : (s.wErr q.sec (dataOf q sz) == s.wErr q.sec (dataOf q sz)) = true := by simp
        have hzn : (s.wErr q.sec (dataOf q sz) != s.wErr q.sec (dataOf q sz)) = false := by simp
        clear CD2 CW2 HP5 HHELD k6 f6 HA4 HP4
        generalize s.wErr q.sec (dataOf q sz) = z at *
        generalize s.write q.sec (dataOf q sz) = s' at *
        refine wpAnyH_takeD (i := 14) (v := ?_) (some 88) rfl rfl (by kernel_rfl) (by kernel_rfl) (by kernel_rfl) (fun _ _ _ h => h) (Or.inl ⟨by rfl, ?_⟩) (by assumption) ?_
        rotate_left
        · intro w' hSw
          go_simp
          first | done | with_reducible rfl
        try simp only [Go.Act.put, List.setIfInBounds_toArray, List.set_cons_zero, List.set_cons_succ]
        refine wpAnyH_done (by kernel_rfl) ?_ _
        obtain ⟨p0, p1, p2, p3, p4, p5⟩ := CL.out w6 hHeld
        have hfW6 := hHeld
        have HZ := Lib.hid hP6
        clear hP6 hHeld hfW6
        clear CD CW e1
        go_wp2_with fail
        refine (same_any HZ.out.run HZ.out.ref (by have := INV.out.q; omega) q.sec).mono ?_; rintro e w7 ⟨rfl, f7⟩
        have HZ7 := Lib.hid (HZ.out.quiet f7)
        clear HZ f7
        go_wp2
        go_roundw
        case rel => exact ⟨k + 1, _, _, _, by omega, by go_num, INV.out, HZ7.out⟩
        case measure => simp [intOf]; omega
      · have e1 : (q.op == 1) = false := by simpa using hop1
        by_cases hop2 : q.op = 2
        · have e2 : (q.op == 2) = true := by simpa using hop2
          have INV := Lib.hid HI.out.sync
          have CS := Lib.hid (HY.out.run.sync (by have := HQ1.out; omega))
          clear hop1 hop2
          generalize q.op = op at *
          go_wp2_with fail
          clear hW hga q0 q1 q2 q3 q4 q5
          refine CS.out.mono ?_; rintro e w4 ⟨rfl, F4, R4, f4, n4⟩
          have HP4 := Lib.hid (HY.out.dstep R4 f4 n4)
          have HF4 := Lib.hid f4
          have CS2 := Lib.hid (HP4.out.ref.sync (by have := HQ1.out; omega))
          clear R4 f4 n4 CS
          go_wp2_with fail
          refine CS2.out.mono ?_; rintro e w6 ⟨rfl, k6⟩
          obtain ⟨G6, hP6, f6⟩ := HP4.out.rstep k6
          have hHeld : Fr (fun x => F1 x ∨ G1 x) W w6 := (HF4.out.mono (fun _ _ h => .inl h)).trans f6 (fun _ _ h => .inr h)
          obtain ⟨p0, p1, p2, p3, p4, p5⟩ := CL.out w6 hHeld
          have HZ := Lib.hid hP6
          have hz : (syncE s == syncE s) = true := by simp
          have hz2 : (syncE s != syncE s) = false := by simp
          clear hP6 hHeld CS2 k6 f6
          generalize syncE s = z at *
          generalize syncS s = s' at *
          go_wp2_with fail
          refine (same_any HZ.out.run HZ.out.ref (by have := INV.out.q; omega) q.sec).mono ?_; rintro e w7 ⟨rfl, f7⟩
          have HZ7 := Lib.hid (HZ.out.quiet f7)
          clear HZ f7
          go_wp2
          go_roundw
          case rel => exact ⟨k + 1, _, _, _, by omega, by go_num, INV.out, HZ7.out⟩
          case measure => simp [intOf]; omega
        · have e2 : (q.op == 2) = false := by simpa using hop2
          by_cases hop3 : q.op = 3
          · have e3 : (q.op == 3) = true := by simpa using hop3
            have INV := Lib.hid (HI.out.arm q.n q.ks (by omega))
            have CS := Lib.hid (HY.out.run.arm q.n (by omega) q.kA q.ks.length q.kc q.ks HAT.out.rk rfl (by omega))
            clear hop1 hop2 hop3
            generalize q.op = op at *
            go_wp2_with fail
            clear hW hga q0 q1 q2 q3 q4 q5
            refine CS.out.mono ?_; rintro e w4 ⟨rfl, F4, R4, f4, n4⟩
            have HP4 := Lib.hid (HY.out.dstep R4 f4 n4)
            have hF4 : Fr (fun x => F1 x ∨ G1 x) W w4 := f4.mono (fun _ _ h => .inl h)
            have HF4 := Lib.hid hF4
            obtain ⟨p0, p1, p2, p3, p4, p5⟩ := CL.out w4 hF4
            have CS2 := Lib.hid (refArm_any HP4.out.ref q.n (by omega) q.kA q.ks.length q.kc q.ks (HAT2.out w4 hF4).rk rfl (by omega) (fun ad e h0 e2 => HAG.out ad e h0 (by rw [e2]; exact HP4.out.ref.self)))
            clear R4 f4 n4 CS hF4
            go_wp2_with fail
            refine CS2.out.mono ?_; rintro e w6 ⟨rfl, k6⟩
            obtain ⟨G6, hP6, f6⟩ := HP4.out.rstep k6
            have hHeld : Fr (fun x => F1 x ∨ G1 x) W w6 := HF4.out.trans f6 (fun _ _ h => .inr h)
            clear p0 p1 p2 p3 p4 p5
            obtain ⟨p0, p1, p2, p3, p4, p5⟩ := CL.out w6 hHeld
            have HZ := Lib.hid hP6
            clear hP6 hHeld CS2 k6 f6
            generalize s.arm q.n q.ks = s' at *
            go_wp2_with fail
            refine (same_any HZ.out.run HZ.out.ref (by have := INV.out.q; omega) q.sec).mono ?_; rintro e w7 ⟨rfl, f7⟩
            have HZ7 := Lib.hid (HZ.out.quiet f7)
            clear HZ f7
            go_wp2
            go_roundw
            case rel => exact ⟨k + 1, _, _, _, by omega, by go_num, INV.out, HZ7.out⟩
            case measure => simp [intOf]; omega
          · have e3 : (q.op == 3) = false := by simpa using hop3
            by_cases hop4 : q.op = 4
            · have e4 : (q.op == 4) = true := by simpa using hop4
              have INV := Lib.hid (HI.out.cut q.ks)
              have CS := Lib.hid (HY.out.run.cut (by have := HQ1.out; omega) q.kA q.ks.length q.kc q.ks HAT.out.rk rfl (by omega) HAF.out)
              clear hop1 hop2 hop3 hop4
              generalize q.op = op at *
              go_wp2_with fail
              clear hW hga q0 q1 q2 q3 q4 q5
              refine CS.out.mono ?_; rintro e w4 ⟨rfl, F4, R4, f4, n4⟩
              have HP4 := Lib.hid (HY.out.dstep R4 f4 n4)
              have hF4 : Fr (fun x => F1 x ∨ G1 x) W w4 := f4.mono (fun _ _ h => .inl h)
              have HF4 := Lib.hid hF4
              obtain ⟨p0, p1, p2, p3, p4, p5⟩ := CL.out w4 hF4
              have CS2 := Lib.hid (HP4.out.ref.cut q.kA q.ks.length q.kc q.ks (HAT2.out w4 hF4).rk rfl (by have := HQ1.out; omega) (by omega) HAG.out)
              clear R4 f4 n4 CS hF4
              go_wp2_with fail
              refine CS2.out.mono ?_; rintro e w6 ⟨rfl, k6⟩
              obtain ⟨G6, hP6, f6⟩ := HP4.out.rstep k6
              have hHeld : Fr (fun x => F1 x ∨ G1 x) W w6 := HF4.out.trans f6 (fun _ _ h => .inr h)
              clear p0 p1 p2 p3 p4 p5
              obtain ⟨p0, p1, p2, p3, p4, p5⟩ := CL.out w6 hHeld
              have HZ := Lib.hid hP6
              clear hP6 hHeld CS2 k6 f6
              generalize s.cut q.ks = s' at *
              go_wp2_with fail
              refine (same_any HZ.out.run HZ.out.ref (by have := INV.out.q; omega) q.sec).mono ?_; rintro e w7 ⟨rfl, f7⟩
              have HZ7 := Lib.hid (HZ.out.quiet f7)
              clear HZ f7
              go_wp2
              go_roundw
              case rel => exact ⟨k + 1, _, _, _, by omega, by go_num, INV.out, HZ7.out⟩
              case measure => simp [intOf]; omega
            · have e4 : (q.op == 4) = false := by simpa using hop4
              by_cases hop5 : q.op = 5
              · have e5 : (q.op == 5) = true := by simpa using hop5
                have INV := Lib.hid HI.out.on
                have CS := Lib.hid (HY.out.run.onC)
                clear hop1 hop2 hop3 hop4 hop5
                generalize q.op = op at *
                go_wp2_with fail
                clear hW hga q0 q1 q2 q3 q4 q5
                refine CS.out.mono ?_; rintro e w4 ⟨rfl, F4, R4, f4, n4⟩
                have hP4 := HY.out.dstep R4 f4 n4
                have HP4 := Lib.hid hP4
                obtain ⟨m4, hm4, hG4, hl4⟩ := hP4.ref
                have r4 : w4.cell? ⟨gr, 4, none⟩ = some (.bool s.off) := hm4.cells rfl
                have rf4 : w4.frozen? ⟨gr, 4, none⟩ = false := hm4.blk.frozen 4
                have HGR := Lib.hid (hG4 gr (.inl rfl))
                have hF6 : Fr (fun x => F1 x ∨ G1 x) W (w4.setCell ⟨gr, 4, none⟩ (.bool false)) := (f4.mono (fun _ _ h => .inl h)).trans (Bk.fr_set 4 _) (fun _ _ e => .inr (by rw [e]; exact HGR.out))
                have k6 : RefTo w4 gr G1 (w4.setCell ⟨gr, 4, none⟩ (.bool false)) s.on := ⟨G1, hP4.ref.on, (Bk.fr_set 4 _).mono (fun _ _ e => by rw [e]; exact HGR.out), fun _ h => .inl h⟩
                obtain ⟨G6, hP6, f6⟩ := hP4.rstep k6
                have HZ := Lib.hid hP6
                obtain ⟨p0, p1, p2, p3, p4, p5⟩ := CL.out _ hF6
                clear R4 f4 n4 CS hP4 hm4 hG4 hl4 hF6 k6 hP6 f6 HP4 HGR
                obtain ⟨w6, hw6⟩ : ∃ w6, w4.setCell ⟨gr, 4, none⟩ (.bool false) = w6 := ⟨_, rfl⟩
                rw [hw6] at HZ p0 p1 p2 p3 p4 p5
                generalize s.on = s' at *
                go_wp2_with fail
                clear hw6
                refine (same_any HZ.out.run HZ.out.ref (by have := INV.out.q; omega) q.sec).mono ?_; rintro e w7 ⟨rfl, f7⟩
                have HZ7 := Lib.hid (HZ.out.quiet f7)
                clear HZ f7
                go_wp2
                go_roundw
                case rel => exact ⟨k + 1, _, _, _, by omega, by go_num, INV.out, HZ7.out⟩
                case measure => simp [intOf]; omega
              · have e5 : (q.op == 5) = false := by simpa using hop5
                have INV := Lib.hid HI.out.up
                clear hop1 hop2 hop3 hop4 hop5
                generalize q.op = op at *
                have HZ := HY
                generalize hs' : s = s' at *
                clear hs'
                go_wp2_with fail
                clear hW hga q0 q1 q2 q3 q4 q5
                refine (same_any HZ.out.run HZ.out.ref (by have := INV.out.q; omega) q.sec).mono ?_; rintro e w7 ⟨rfl, f7⟩
                have HZ7 := Lib.hid (HZ.out.quiet f7)
                clear HZ f7
                go_wp2
                go_roundw
                case rel => exact ⟨k + 1, _, _, _, by omega, by go_num, INV.out, HZ7.out⟩
                case measure => simp [intOf]; omega
    · obtain rfl : k = n := by omega
      have CS := shape_any HX.out.run.dsk
      rw [HI.out.N, HI.out.sz] at CS
      have CS := Lib.hid CS
      have HF := Lib.hid HX.out.run.fr
      have b1 : ((N : Int) == (N : Int)) = true := by simp
      have b2 : ((sz : Int) == (sz : Int)) = true := by simp
      go_wp2_with fail
      refine CS.out.mono ?_; rintro e w5 ⟨rfl, f5⟩
      have HF5 := Lib.hid (HF.out.trans f5 (fun _ _ h => h))
      clear f5
      go_wp2
      go_ret
      exact ⟨rfl, HF5.out⟩
end Go.Proofs.Ytnkkdpmmnenncaa
