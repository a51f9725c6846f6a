/- The reference's Open, the walk. -/
import Derived.Test.YtbopmboigcdjpaaDoorMz1
import Derived.Test.YtbopmboigcdjpaaDoorMw2
namespace Go.Proofs.YtbopmboigcdjpaaDoor
open Go.RowKit Go.Maps

theorem teI : TE Tryd.prog 33 3 1 8 (.int .i64 0) := ⟨Tryd.underlying33, by kernel_rfl, rfl, by omega⟩
/-- A row of ints that is new since w. -/
structure NewI (w w' : World) (v : Value) (n : Nat) (cs : List Value) : Prop where
  row : Row w' 3 1 v n cs
  fr : Fr (fun _ => False) w w'
  new : ∀ k, v.ownBlock = some k → w.heap.size ≤ k
theorem NewI.fr0 {w w' w2 : World} {v : Value} {n : Nat} {cs : List Value} (h : NewI w w' v n cs) (hf : Fr (fun _ => False) w' w2) : NewI w w2 v n cs := ⟨h.row.fr0 hf, h.fr.trans hf (fun _ _ h => h), h.new⟩
theorem NewI.old {w0 w w' : World} {v : Value} {n : Nat} {cs : List Value} (h : NewI w w' v n cs) (hf : Fr (fun _ => False) w0 w) : NewI w0 w' v n cs := ⟨h.row, hf.trans h.fr (fun _ _ h => h), fun k hk => Nat.le_trans hf.size (h.new k hk)⟩
theorem NewI.step {w w1 w2 : World} {v v2 : Value} {n m : Nat} {cs ds : List Value} (h : NewI w w1 v n cs) (hr : Row w2 3 1 v2 m ds) (hf : Fr (fun g => v.ownBlock = some g) w1 w2) (hm : Moved w1 v v2) : NewI w w2 v2 m ds := by
  refine ⟨hr, h.fr.trans hf (fun x hx e => by have := h.new x e; omega), fun k hk => ?_⟩
  rcases hm with e | ⟨x, e, hx⟩
  · exact h.new k (e ▸ hk)
  · rw [e] at hk; injection hk with hk; have := h.fr.size; omega
abbrev O0I : Obj := .cells #[] 3
theorem rowI0 (w : World) : Row (w.alloc O0I) 3 1 (.slice (some ⟨w.heap.size, 0, none⟩) 0 0) 0 [] :=
  ⟨by simp, .inr ⟨w.heap.size, 0, 0, #[], rfl, Bk.new _ _ _, Nat.le_refl _, by unfold maxLen; omega, by simp, fun j hj => by simp at hj⟩⟩
theorem newIA (w : World) : NewI w (w.alloc O0I).drew (.slice (some ⟨w.heap.size, 0, none⟩) 0 0) 0 [] :=
  ⟨(rowI0 w).fr0 ((Fr.refl _ _).drew), ((Fr.refl _ _).alloc _).drew, fun k hk => by have : w.heap.size = k := (by injection hk); omega⟩
theorem newIB (w : World) (o : Obj) : NewI w ((w.alloc O0I).alloc o).drew (.slice (some ⟨w.heap.size, 0, none⟩) 0 0) 0 [] :=
  ⟨(rowI0 w).fr0 (((Fr.refl _ _).alloc _).drew), (((Fr.refl _ _).alloc _).alloc _).drew, fun k hk => by have : w.heap.size = k := (by injection hk); omega⟩
theorem newIC (w : World) (o : Obj) : NewI w ((w.alloc o).alloc O0I).drew (.slice (some ⟨w.heap.size + 1, 0, none⟩) 0 0) 0 [] := by
  have h := rowI0 (w.alloc o)
  rw [show (w.alloc o).heap.size = w.heap.size + 1 by simp] at h
  exact ⟨h.fr0 ((Fr.refl _ _).drew), (((Fr.refl _ _).alloc _).alloc _).drew, fun k hk => by have : w.heap.size + 1 = k := (by injection hk); omega⟩
theorem sl1i {w' : World} {g : Nat} {x : Int} (h : Bk w' g 3 #[.int .i64 x]) : Sl w' 1 (.slice (some ⟨g, 0, none⟩) 1 1) 1 [.int .i64 x] :=
  Sl.at rfl rfl (fun j u hu => by rw [Nat.zero_add, h.cell]; simpa using hu)
theorem Sl.take1 {w : World} {A : Option Addr} {n c c' k : Nat} {cs : List Value} (h : Sl w 1 (.slice A n c) n cs) (hk : k ≤ n) : Sl w 1 (.slice A k c') k (cs.take k) := by
  obtain ⟨hl, A', c2, e, hA⟩ := h
  injection e with e1 _ _
  subst e1
  refine ⟨by rw [List.length_take, hl]; omega, A, c', rfl, fun h0 => ?_⟩
  obtain ⟨b, off, e, hc⟩ := hA (by omega)
  exact ⟨b, off, e, fun j u hu => by
    rw [List.getElem?_take] at hu
    split at hu
    · exact hc j u hu
    · cases hu⟩
theorem Sl.drop1 {w : World} {b off n c c' k : Nat} {cs : List Value} (h : Sl w 1 (.slice (some ⟨b, off, Option.none⟩) n c) n cs) (hk : k ≤ n) : Sl w 1 (.slice (some ⟨b, off + k, Option.none⟩) (n - k) c') (n - k) (cs.drop k) := by
  obtain ⟨hl, A', c2, e, hA⟩ := h
  injection e with e1 _ _
  subst e1
  refine ⟨by rw [List.length_drop, hl]; omega, _, c', rfl, fun h0 => ?_⟩
  obtain ⟨b', off', e, hc⟩ := hA (by omega)
  injection e with e
  injection e with e1 e2
  subst e1 e2
  exact ⟨_, _, rfl, fun j u hu => by
    rw [List.getElem?_drop] at hu
    rw [Nat.add_assoc]
    exact hc _ _ hu⟩
/-- A row of ints cut at k: both parts. -/
theorem run_cutI {w : World} {A : Option Addr} {n c k : Nat} {cs : List Value} (h : Row w 3 1 (.slice A n c) n cs) (hk : k ≤ n) :
    ∃ A1 c1 A2 c2, (∀ w, (Instr.sliceAt 33 (.slice A n c) none (some (.int .i64 (k : Int))) none).run Tryd.prog w = .ok (.slice A1 k c1) w) ∧ (∀ w, (Instr.sliceAt 33 (.slice A n c) (some (.int .i64 (k : Int))) none none).run Tryd.prog w = .ok (.slice A2 (n - k) c2) w) ∧
      ∀ w', Row w' 3 1 (.slice A n c) n cs → Sl w' 1 (.slice A1 k c1) k (cs.take k) ∧ Sl w' 1 (.slice A2 (n - k) c2) (n - k) (cs.drop k) := by
  rcases h.2 with ⟨e, h0⟩ | ⟨b, off, cap, cur, e, -, hnc, hcm, -⟩
  · injection e with e1 e2 e3
    subst e1 e3 h0
    obtain rfl : k = 0 := by omega
    have hcs : cs = [] := List.eq_nil_of_length_eq_zero (by simpa using h.1)
    subst hcs
    exact ⟨none, 0, none, 0, fun w => by simp [go_sem, Instr.sliceAt], fun w => by simp [go_sem, Instr.sliceAt], fun w' _ => ⟨by simpa using Sl.none, by simpa using Sl.none⟩⟩
  · injection e with e1 e2 e3
    subst e1 e3
    have h1 : (k : Int) ≤ (n : Int) := by omega
    have h2 : (k : Int) ≤ (c : Int) := by omega
    by_cases hc0 : c = 0
    · subst hc0
      obtain rfl : n = 0 := by omega
      obtain rfl : k = 0 := by omega
      have hcs : cs = [] := List.eq_nil_of_length_eq_zero (by simpa using h.1)
      subst hcs
      exact ⟨some ⟨b, off, none⟩, 0, some ⟨b, off, none⟩, 0, fun w => by simp [go_sem, Instr.sliceAt], fun w => by simp [go_sem, Instr.sliceAt], fun w' _ => ⟨by simpa using Sl.none, by simpa using Sl.none⟩⟩
    · by_cases hck : c = k
      · subst hck
        obtain rfl : n = c := by omega
        refine ⟨some ⟨b, off, none⟩, n, some ⟨b, off, none⟩, 0, fun w => by simp [go_sem, Instr.sliceAt, hc0], fun w => by simp [go_sem, Instr.sliceAt], fun w' hr => ⟨hr.sl.take1 (Nat.le_refl _), ?_⟩⟩
        rw [List.drop_of_length_le (by rw [h.1]; omega), Nat.sub_self]
        exact Sl.none
      · refine ⟨some ⟨b, off, none⟩, c, some ⟨b, off + k, none⟩, c - k, fun w => by simp [go_sem, Instr.sliceAt, hc0, h2], fun w => by simp [go_sem, Instr.sliceAt, hck, h1], fun w' hr => ⟨hr.sl.take1 hk, hr.sl.drop1 hk⟩⟩
theorem insF_map (zs : List Int) (x : Int) : (insF zs x).map IV = ((zs.take (posF zs x)).map IV ++ [.int .i64 x]) ++ (zs.drop (posF zs x)).map IV := by
  unfold insF; simp [IV]
theorem insF_len (zs : List Int) (x : Int) : (insF zs x).length = zs.length + 1 := by
  have := posF_le zs x
  unfold insF; simp; omega

set_option maxRecDepth 100000 in
set_option maxHeartbeats 16000000 in
theorem ropenl_any (A : Option Addr) (n c : Nat) (ps : List VL) (F : Nat → Prop) (K : Int) (w : World) (h : Vs w A n ps F) (hn : n ≤ 1048576) :
    Calls Tryd.prog 16 #[.slice A n c, .int .i64 K] w fun e w' => ∃ A9 c9 m, e = .returned (.slice A9 m c9) ∧ (openL (evs ps) K n).length = m ∧ NewI w w' (.slice A9 m c9) m ((openL (evs ps) K n).map IV) := by
  have HVS := Lib.hid h
  have hnI : (n : Int) ≤ 1048576 := by omega
  have HLEN := Lib.hid (openL_len (evs ps) K)
  clear h
  go_enter Tryd.func16, Tryd.ntmps16
  go_wp2_with fail
  go_loopw [5, 6] (fun vo vi wr => ∃ (k m : Nat) (A1 : Option Addr) (c1 : Nat), vi = .int .i64 (k : Int) ∧ vo = .slice A1 m c1 ∧ k ≤ n ∧ Hid ((openL (evs ps) K k).length = m ∧ NewI w wr (.slice A1 m c1) m ((openL (evs ps) K k).map IV))) (fun _ vi _ => n - (intOf vi).toNat)
  case atStart => exact ⟨0, 0, none, 0, rfl, rfl, Nat.zero_le _, ⟨rfl, ⟨Row.nil _ _ _, Fr.refl _ _, fun k hk => by cases hk⟩⟩⟩
  case round =>
    obtain ⟨k, m, A1, c1, rfl, rfl, hk, HK⟩ := hrel
    have hk0 : (0 : Int) ≤ (k : Int) := by omega
    by_cases hlt : k < n
    · have hlt' : (k : Int) < n := by omega
      have hkI : (k : Int) ≤ 1048576 := by omega
      have hmk : m ≤ 1048576 := by have := HLEN.out k; have := HK.out.1; omega
      have HV := Lib.hid (HVS.out.fr0 HK.out.2.fr)
      obtain ⟨b, off, rfl, -, hcs, hrd⟩ := HV.out.at hlt
      have HS : Hid (openL (evs ps) K (k + 1) = if (ps.getD k default).e.k = K ∧ openR (evs ps) ((k : Int) + 1) = true then insF (openL (evs ps) K k) (ps.getD k default).e.i else openL (evs ps) K k) := Lib.hid (by
        rw [openL, getD_evs (by rw [HV.out.len]; exact hlt)])
      have CO := Lib.hid (ropen_any _ n c ps F _ HV.out (by omega) ((k : Int) + 1) ⟨by omega, by omega⟩)
      have q0 : wr.cell? ⟨b, off + k * 7, none⟩ = some (.int .i64 (ps.getD k default).e.k) := hcs 0 _ rfl
      have q3 : wr.cell? ⟨b, off + k * 7 + 3, none⟩ = some (.int .i64 (ps.getD k default).e.i) := hcs 3 _ rfl
      have hbsz := World.block_lt_of_cell? wr _ q0
      have HQ0 : Hid (∀ w', Fr (fun _ => False) wr w' → w'.cell? ⟨b, off + k * 7 + 3, none⟩ = some (.int .i64 (ps.getD k default).e.i)) := Lib.hid (fun w' hf => by
        rw [hf.cell (World.block_lt_of_cell? wr _ q3) (fun h => h), q3])
      have w1 : IntKind.i64.wrap ((k : Int) + 1) = (k : Int) + 1 := IntWalk.i64_in _ (by omega)
      have HNR := Lib.hid HK.out.2
      obtain ⟨zs, hzs⟩ : ∃ zs, openL (evs ps) K k = zs := ⟨_, rfl⟩
      have HZL : Hid (zs.length = m) := Lib.hid (by rw [← hzs]; exact HK.out.1)
      rw [hzs] at HS HNR
      generalize openR (evs ps) ((k : Int) + 1) = ro at *
      generalize (ps.getD k default).e.k = kd at *
      generalize (ps.getD k default).e.i = x at *
      clear hcs hrd hzs HK hbsz HV
      by_cases hkd : kd = K
      · have d1 : (kd != K) = false := by simp [hkd]
        go_wp2_with fail
        refine CO.out.mono ?_; rintro e w3 ⟨rfl, hf3⟩
        have HF3 := Lib.hid hf3
        clear hf3 CO q0 q3
        cases ro with
        | false =>
          go_wp2
          go_roundw
          case rel => exact ⟨k + 1, m, A1, c1, by first | rfl | (go_num; done) | (congr 1; omega), rfl, by omega, ⟨by rw [HS.out, if_neg (by simp)]; exact HZL.out, by rw [HS.out, if_neg (by simp)]; exact HNR.out.fr0 HF3.out⟩⟩
          case measure => (simp [intOf]) <;> omega
        | true =>
          have HS2 := Lib.hid (HS.out.trans (if_pos ⟨hkd, rfl⟩))
          clear HS hkd d1
          have HR3 := Lib.hid (HNR.out.fr0 HF3.out)
          have HQ3 := Lib.hid (fun w' (hf : Fr (fun _ => False) w3 w') => HQ0.out w' (HF3.out.trans hf (fun _ _ h => h)))
          clear HQ0 HNR HF3
          go_wp2_with fail
          go_loopw [7] (fun v wr => ∃ (j : Nat), v = .int .i64 (j : Int) ∧ j ≤ posF zs x ∧ Hid (∃ q, wr = w3.drewN q)) (fun v _ => m + 1 - (intOf v).toNat)
          case atStart => exact ⟨0, rfl, Nat.zero_le _, ⟨0, rfl⟩⟩
          case round =>
            obtain ⟨j, rfl, hjp, HW⟩ := hrel
            have hj0 : (0 : Int) ≤ (j : Int) := by omega
            have hpm : posF zs x ≤ m := by have := posF_le zs x; have := HZL.out; omega
            have HX : Hid (∀ q, Fr (fun _ => False) w3 (wr.drewN q)) := Lib.hid (fun q => by obtain ⟨m, e⟩ := HW.out; subst e; exact ((Fr.refl _ _).drewN _).trans ((Fr.refl _ _).drewN _) (fun _ _ h => h))
            have qx : ∀ q, (wr.drewN q).cell? ⟨b, off + k * 7 + 3, none⟩ = some (.int .i64 x) := fun q => HQ3.out _ (HX.out q)
            by_cases hjm : j < m
            · have hjm' : (j : Int) < (m : Int) := by omega
              have hzl := HZL.out
              have hps := posF_step zs x j hjp (by omega)
              have HY : Hid (∃ b1 o1, A1 = some ⟨b1, o1, none⟩ ∧ ∀ q, (wr.drewN q).cell? ⟨b1, o1 + j, none⟩ = some (.int .i64 (zs[j]'(by omega)))) := Lib.hid (by
                obtain ⟨A', c', e, _, _, hA⟩ := HR3.out.row.form
                injection e with e1 _ _
                subst e1
                obtain ⟨b1, o1, rfl⟩ := hA (by omega)
                exact ⟨b1, o1, rfl, fun q => (HR3.out.row.fr0 (HX.out q)).cell (by simp [IV, List.getElem?_eq_getElem, show j < zs.length by omega])⟩)
              obtain ⟨b1, o1, rfl, qy⟩ := HY.out
              generalize zs[j]'(by omega) = y at *
              by_cases hyx : y < x
              · have hjl : j < posF zs x := hps.1 hyx
                have w2 : IntKind.i64.wrap ((j : Int) + 1) = (j : Int) + 1 := IntWalk.i64_in _ (by omega)
                clear hps HY
                go_wp2_with fail
                go_quiet (fail)
                go_wp2
                go_roundw
                case rel => exact ⟨j + 1, by first | rfl | (go_num; done) | (congr 1; omega), by omega, by obtain ⟨m, e⟩ := HW.out; exact ⟨m + nq, by rw [e]; simp [World.drewN, Nat.add_assoc]⟩⟩
                case measure => (simp [intOf]) <;> omega
              · have hjq : posF zs x = j := by have := mt hps.2 hyx; omega
                have dyx : decide (y < x) = false := decide_eq_false hyx
                clear hps HY hyx
                go_wp2_with fail
                go_quiet (fail)
                have hjm2 : j ≤ m := by omega
                have HJ := Lib.hid hjq
                obtain ⟨w4, hw4⟩ : ∃ w4, wr.drewN nq = w4 := ⟨_, rfl⟩
                have HF4 : Hid (Fr (fun _ => False) w3 w4) := Lib.hid (by rw [← hw4]; exact HX.out _)
                have HR4 := Lib.hid (HR3.out.fr0 HF4.out)
                have HQ := Lib.hid (fun w' (hf : Fr (fun _ => False) w4 w') => HQ3.out w' (HF4.out.trans hf (fun _ _ h => h)))
                obtain ⟨A7, c7, A3, c3, hs1, hs2, hsl⟩ := run_cutI HR4.out.row hjm2
                have HSL1 := Lib.hid hs1
                have HSL2 := Lib.hid hs2
                have HSA : Hid (∀ w', Fr (fun _ => False) w4 w' → Sl w' 1 (.slice A7 j c7) j ((zs.take j).map IV)) := Lib.hid (fun w' hf => by rw [List.map_take]; exact (hsl w' (HR4.out.row.fr0 hf)).1)
                have HSB : Hid (∀ w', Fr (fun _ => False) w4 w' → Sl w' 1 (.slice A3 (m - j) c3) (m - j) ((zs.drop j).map IV)) := Lib.hid (fun w' hf => by rw [List.map_drop]; exact (hsl w' (HR4.out.row.fr0 hf)).2)
                rw [hw4]
                clear hs1 hs2 hsl hw4 qx hjq HX HW hpm hjp hjm hjm' dyx qy
                go_wp2_with fail
                refine wp_region_held_drew (S := (fun w' => Fr (fun _ => False) w4 w')) (by kernel_rfl) ((Fr.refl _ _).drew) (fun hHeld => ?_)
                refine wpAnyH_takeD (i := 1) (v := ?_) (some 48) rfl rfl (by kernel_rfl) (by kernel_rfl) (by kernel_rfl) (fun _ _ _ h => h) (Or.inl ⟨by rfl, ?_⟩) (by assumption) ?_
                rotate_left
                · intro w' hSw
                  go_simp
                  first | done | with_reducible rfl
                try simp only [Go.Act.put, List.setIfInBounds_toArray, List.set_cons_zero, List.set_cons_succ]
                refine wpAnyH_takeD (i := 2) (v := ?_) (some 49) rfl rfl (by kernel_rfl) (by kernel_rfl) (by kernel_rfl) (fun _ _ _ h => h) (Or.inl ⟨by rfl, ?_⟩) (by assumption) ?_
                rotate_left
                · intro w' hSw
                  go_simp
                  first | done | with_reducible rfl
                try simp only [Go.Act.put, List.setIfInBounds_toArray, List.set_cons_zero, List.set_cons_succ]
                refine wpAnyH_takeD (i := 3) (v := ?_) (some 50) rfl rfl (by kernel_rfl) (by kernel_rfl) (by kernel_rfl) (fun _ _ _ h => h) (Or.inl ⟨by rfl, ?_⟩) (by assumption) ?_
                rotate_left
                · intro w' hSw
                  have q9 := HSL1.out w'
                  go_simp
                  first | done | with_reducible rfl
                try simp only [Go.Act.put, List.setIfInBounds_toArray, List.set_cons_zero, List.set_cons_succ]
                refine wpAnyH_takeD (i := 5) (v := ?_) (some 52) rfl rfl (by kernel_rfl) (by kernel_rfl) (by kernel_rfl) (fun _ _ _ h => h) (Or.inl ⟨by rfl, ?_⟩) (by assumption) ?_
                rotate_left
                · intro w' hSw
                  go_simp
                  first | done | with_reducible rfl
                try simp only [Go.Act.put, List.setIfInBounds_toArray, List.set_cons_zero, List.set_cons_succ]
                refine wpAnyH_takeD (i := 6) (v := ?_) (some 53) rfl rfl (by kernel_rfl) (by kernel_rfl) (by kernel_rfl) (fun _ _ _ h => h) (Or.inl ⟨by rfl, ?_⟩) (by assumption) ?_
                rotate_left
                · intro w' hSw
                  go_simp
                  first | done | with_reducible rfl
                try simp only [Go.Act.put, List.setIfInBounds_toArray, List.set_cons_zero, List.set_cons_succ]
                refine wpAnyH_takeD (i := 7) (v := ?_) (some 54) rfl rfl (by kernel_rfl) (by kernel_rfl) (by kernel_rfl) (fun _ _ _ h => h) (Or.inl ⟨by rfl, ?_⟩) (by assumption) ?_
                rotate_left
                · intro w' hSw
                  go_simp
                  first | done | with_reducible rfl
                try simp only [Go.Act.put, List.setIfInBounds_toArray, List.set_cons_zero, List.set_cons_succ]
                refine wpAnyH_takeD (i := 8) (v := ?_) (some 55) rfl rfl (by kernel_rfl) (by kernel_rfl) (by kernel_rfl) (fun _ _ _ h => h) (Or.inl ⟨by rfl, ?_⟩) (by assumption) ?_
                rotate_left
                · intro w' hSw
                  go_simp
                  first | done | with_reducible rfl
                try simp only [Go.Act.put, List.setIfInBounds_toArray, List.set_cons_zero, List.set_cons_succ]
                refine wpAnyH_takeD (i := 9) (v := ?_) (some 56) rfl rfl (by kernel_rfl) (by kernel_rfl) (by kernel_rfl) (fun _ _ _ h => h) (Or.inl ⟨by rfl, ?_⟩) (by assumption) ?_
                rotate_left
                · intro w' hSw
                  have q0 := HQ.out w' hSw
                  go_simp
                  first | done | with_reducible rfl
                try simp only [Go.Act.put, List.setIfInBounds_toArray, List.set_cons_zero, List.set_cons_succ]
                refine wpAnyH_ready (rs := [0, 10]) (by kernel_rfl) (by simp) ?_
                refine AllReadyH.cons rfl (fun K hK => ?_) (AllReadyH.cons rfl (fun K hK => ?_) AllReadyH.nil)
                · skip
                  go_simp
                  refine hK.out _ _ (hHeld.alloc _) (fun hHeld => ?_)
                  clear hK K
                  try change wpAnyH _ _ _ _ _ _ _ (Go.Act.put _ (some 47) _) _
                  try simp only [Go.Act.put, List.setIfInBounds_toArray, List.set_cons_zero, List.set_cons_succ]
                  refine wpAnyH_ready (rs := [4, 10]) (by kernel_rfl) (by simp) ?_
                  refine AllReadyH.cons rfl (fun K hK => ?_) (AllReadyH.cons rfl (fun K hK => ?_) AllReadyH.nil)
                  · skip
                    have hN0 := newIA w4
                    refine stepOf_appendW teI rfl (.tmp 47) (.tmp 50) rfl _ 0 [] rfl hN0.row (.slice A7 j c7) j ((zs.take j).map IV) rfl (HSA.out _ hN0.fr) (IV_one _) (by unfold maxLen; omega) (by omega) ?_
                    intro A8 c8 w8 hr8 hf8 hm8
                    have hN8' := hN0.step hr8 hf8 hm8
                    simp only [Nat.zero_add, List.nil_append] at hN8' ⊢
                    have HN8 := Lib.hid hN8'
                    clear hN0 hr8 hf8 hm8 hN8'
                    refine hK.out _ _ (HN8.out.fr) (fun hHeld => ?_)
                    clear hK K
                    try change wpAnyH _ _ _ _ _ _ _ (Go.Act.put _ (some 51) _) _
                    try simp only [Go.Act.put, List.setIfInBounds_toArray, List.set_cons_zero, List.set_cons_succ]
                    refine wpAnyH_ready (rs := [10]) (by kernel_rfl) (by simp) ?_
                    refine AllReadyH.cons rfl (fun K hK => ?_) AllReadyH.nil
                    go_simp
                    refine hK.out _ _ (hHeld.trans ((Fr.refl _ _).alloc _) (fun _ _ h => h)) (fun hHeld => ?_)
                    clear hK K
                    try change wpAnyH _ _ _ _ _ _ _ (Go.Act.put _ (some 57) _) _
                    try simp only [Go.Act.put, List.setIfInBounds_toArray, List.set_cons_zero, List.set_cons_succ]
                    refine wpAnyH_ready (rs := [11]) (by kernel_rfl) (by simp) ?_
                    refine AllReadyH.cons rfl (fun K hK => ?_) AllReadyH.nil
                    have hN8 := HN8.out.fr0 (show Fr (fun _ => False) w8 (w8.alloc (.cells #[.int .i64 x] 3)) from (Fr.refl _ _).alloc _)
                    refine stepOf_appendW teI rfl (.tmp 51) (.tmp 57) rfl (.slice A8 j c8) j ((zs.take j).map IV) rfl hN8.row _ 1 [.int .i64 x] rfl (sl1i (show Bk (w8.alloc (.cells #[.int .i64 x] 3)) w8.heap.size 3 #[.int .i64 x] from Bk.new _ _ _)) (fun u hu => by simp at hu; subst hu; rfl) (by unfold maxLen; omega) (by omega) ?_
                    intro A9 c9 w9 hr9 hf9 hm9
                    have HN9 := Lib.hid (hN8.step hr9 hf9 hm9)
                    clear hN8 hr9 hf9 hm9
                    refine hK.out _ _ (HN9.out.fr) (fun hHeld => ?_)
                    clear hK K
                    try change wpAnyH _ _ _ _ _ _ _ (Go.Act.put _ (some 58) _) _
                    try simp only [Go.Act.put, List.setIfInBounds_toArray, List.set_cons_zero, List.set_cons_succ]
                    refine wpAnyH_takeD (i := 12) (v := ?_) (some 8) rfl rfl (by kernel_rfl) (by kernel_rfl) (by kernel_rfl) (fun _ _ _ h => h) (Or.inl ⟨by rfl, ?_⟩) (by assumption) ?_
                    rotate_left
                    · intro w' hSw
                      go_simp
                      first | done | with_reducible rfl
                    try simp only [Go.Act.put, List.setIfInBounds_toArray, List.set_cons_zero, List.set_cons_succ]
                    refine wpAnyH_done (by kernel_rfl) ?_ _
                    have hs2 := HSL2.out
                    clear HSL1 HSL2 HSA
                    go_wp2_with (at_builtin; (refine wpList_appendR teI rfl (.tmp 59) (.tmp 62) rfl (.slice A9 (j + 1) c9) (j + 1) _ rfl HN9.out.row (.slice A3 (m - j) c3) (m - j) _ rfl (HSB.out _ HN9.out.fr) (IV_one _) (by unfold maxLen; omega) (by omega) ?_; intro A5 c5 w5 hr5 hf5 hm5; have HN5 := Lib.hid ((HN9.out.old HF4.out).step hr5 hf5 hm5); clear hr5 hf5 hm5))
                    go_roundw
                    case rel =>
                      refine ⟨k + 1, m + 1, A5, c5, by first | rfl | (go_num; done) | (congr 1; omega), by congr 1; omega, by omega, ⟨by rw [HS2.out, insF_len, HZL.out], ?_⟩⟩
                      rw [HS2.out, insF_map, HJ.out, show m + 1 = j + 1 + (m - j) by omega]
                      exact ⟨HN5.out.row, HR3.out.fr.trans HN5.out.fr (fun _ _ h => h), fun k hk => Nat.le_trans HR3.out.fr.size (HN5.out.new k hk)⟩
                    case measure => (simp [intOf]) <;> omega
                  · skip
                    go_simp
                    refine hK.out _ _ (hHeld.trans ((Fr.refl _ _).alloc _) (fun _ _ h => h)) (fun hHeld => ?_)
                    clear hK K
                    try change wpAnyH _ _ _ _ _ _ _ (Go.Act.put _ (some 57) _) _
                    try simp only [Go.Act.put, List.setIfInBounds_toArray, List.set_cons_zero, List.set_cons_succ]
                    refine wpAnyH_ready (rs := [4]) (by kernel_rfl) (by simp) ?_
                    refine AllReadyH.cons rfl (fun K hK => ?_) AllReadyH.nil
                    have hN0 := newIB w4 (.cells #[.int .i64 x] 3)
                    refine stepOf_appendW teI rfl (.tmp 47) (.tmp 50) rfl _ 0 [] rfl hN0.row (.slice A7 j c7) j ((zs.take j).map IV) rfl (HSA.out _ hN0.fr) (IV_one _) (by unfold maxLen; omega) (by omega) ?_
                    intro A8 c8 w8 hr8 hf8 hm8
                    have hN8' := hN0.step hr8 hf8 hm8
                    simp only [Nat.zero_add, List.nil_append] at hN8' ⊢
                    have HN8 := Lib.hid hN8'
                    have HSE : Hid (Sl w8 1 (.slice (some ⟨w4.heap.size + 1, 0, none⟩) 1 1) 1 [.int .i64 x]) := Lib.hid (sl1i (Bk.fr (w := ((w4.alloc O0I).alloc (.cells #[.int .i64 x] 3)).drew) (by have := (Bk.new (w4.alloc O0I) 3 #[.int .i64 x]).drew; rw [show (w4.alloc O0I).heap.size = w4.heap.size + 1 by simp] at this; exact this) hf8 (fun e => by have e' : w4.heap.size = w4.heap.size + 1 := (by injection e); omega)))
                    clear hN0 hr8 hf8 hm8 hN8'
                    refine hK.out _ _ (HN8.out.fr) (fun hHeld => ?_)
                    clear hK K
                    try change wpAnyH _ _ _ _ _ _ _ (Go.Act.put _ (some 51) _) _
                    try simp only [Go.Act.put, List.setIfInBounds_toArray, List.set_cons_zero, List.set_cons_succ]
                    refine wpAnyH_ready (rs := [11]) (by kernel_rfl) (by simp) ?_
                    refine AllReadyH.cons rfl (fun K hK => ?_) AllReadyH.nil
                    have hN8 := HN8.out
                    refine stepOf_appendW teI rfl (.tmp 51) (.tmp 57) rfl (.slice A8 j c8) j ((zs.take j).map IV) rfl hN8.row _ 1 [.int .i64 x] rfl HSE.out (fun u hu => by simp at hu; subst hu; rfl) (by unfold maxLen; omega) (by omega) ?_
                    intro A9 c9 w9 hr9 hf9 hm9
                    have HN9 := Lib.hid (hN8.step hr9 hf9 hm9)
                    clear hN8 hr9 hf9 hm9
                    refine hK.out _ _ (HN9.out.fr) (fun hHeld => ?_)
                    clear hK K
                    try change wpAnyH _ _ _ _ _ _ _ (Go.Act.put _ (some 58) _) _
                    try simp only [Go.Act.put, List.setIfInBounds_toArray, List.set_cons_zero, List.set_cons_succ]
                    refine wpAnyH_takeD (i := 12) (v := ?_) (some 8) rfl rfl (by kernel_rfl) (by kernel_rfl) (by kernel_rfl) (fun _ _ _ h => h) (Or.inl ⟨by rfl, ?_⟩) (by assumption) ?_
                    rotate_left
                    · intro w' hSw
                      go_simp
                      first | done | with_reducible rfl
                    try simp only [Go.Act.put, List.setIfInBounds_toArray, List.set_cons_zero, List.set_cons_succ]
                    refine wpAnyH_done (by kernel_rfl) ?_ _
                    have hs2 := HSL2.out
                    clear HSL1 HSL2 HSA
                    go_wp2_with (at_builtin; (refine wpList_appendR teI rfl (.tmp 59) (.tmp 62) rfl (.slice A9 (j + 1) c9) (j + 1) _ rfl HN9.out.row (.slice A3 (m - j) c3) (m - j) _ rfl (HSB.out _ HN9.out.fr) (IV_one _) (by unfold maxLen; omega) (by omega) ?_; intro A5 c5 w5 hr5 hf5 hm5; have HN5 := Lib.hid ((HN9.out.old HF4.out).step hr5 hf5 hm5); clear hr5 hf5 hm5))
                    go_roundw
                    case rel =>
                      refine ⟨k + 1, m + 1, A5, c5, by first | rfl | (go_num; done) | (congr 1; omega), by congr 1; omega, by omega, ⟨by rw [HS2.out, insF_len, HZL.out], ?_⟩⟩
                      rw [HS2.out, insF_map, HJ.out, show m + 1 = j + 1 + (m - j) by omega]
                      exact ⟨HN5.out.row, HR3.out.fr.trans HN5.out.fr (fun _ _ h => h), fun k hk => Nat.le_trans HR3.out.fr.size (HN5.out.new k hk)⟩
                    case measure => (simp [intOf]) <;> omega
                · skip
                  go_simp
                  refine hK.out _ _ (hHeld.trans ((Fr.refl _ _).alloc _) (fun _ _ h => h)) (fun hHeld => ?_)
                  clear hK K
                  try change wpAnyH _ _ _ _ _ _ _ (Go.Act.put _ (some 57) _) _
                  try simp only [Go.Act.put, List.setIfInBounds_toArray, List.set_cons_zero, List.set_cons_succ]
                  refine wpAnyH_ready (rs := [0]) (by kernel_rfl) (by simp) ?_
                  refine AllReadyH.cons rfl (fun K hK => ?_) AllReadyH.nil
                  go_simp
                  refine hK.out _ _ (hHeld.alloc _) (fun hHeld => ?_)
                  clear hK K
                  try change wpAnyH _ _ _ _ _ _ _ (Go.Act.put _ (some 47) _) _
                  try simp only [Go.Act.put, List.setIfInBounds_toArray, List.set_cons_zero, List.set_cons_succ]
                  refine wpAnyH_ready (rs := [4]) (by kernel_rfl) (by simp) ?_
                  refine AllReadyH.cons rfl (fun K hK => ?_) AllReadyH.nil
                  have hN0 := newIC w4 (.cells #[.int .i64 x] 3)
                  refine stepOf_appendW teI rfl (.tmp 47) (.tmp 50) rfl _ 0 [] rfl hN0.row (.slice A7 j c7) j ((zs.take j).map IV) rfl (HSA.out _ hN0.fr) (IV_one _) (by unfold maxLen; omega) (by omega) ?_
                  intro A8 c8 w8 hr8 hf8 hm8
                  have hN8' := hN0.step hr8 hf8 hm8
                  simp only [Nat.zero_add, List.nil_append] at hN8' ⊢
                  have HN8 := Lib.hid hN8'
                  have HSE : Hid (Sl w8 1 (.slice (some ⟨w4.heap.size, 0, none⟩) 1 1) 1 [.int .i64 x]) := Lib.hid (sl1i (Bk.fr (w := ((w4.alloc (.cells #[.int .i64 x] 3)).alloc O0I).drew) ((((Bk.new w4 3 #[.int .i64 x]).alloc O0I)).drew) hf8 (fun e => by have e' : w4.heap.size + 1 = w4.heap.size := (by injection e); omega)))
                  clear hN0 hr8 hf8 hm8 hN8'
                  refine hK.out _ _ (HN8.out.fr) (fun hHeld => ?_)
                  clear hK K
                  try change wpAnyH _ _ _ _ _ _ _ (Go.Act.put _ (some 51) _) _
                  try simp only [Go.Act.put, List.setIfInBounds_toArray, List.set_cons_zero, List.set_cons_succ]
                  refine wpAnyH_ready (rs := [11]) (by kernel_rfl) (by simp) ?_
                  refine AllReadyH.cons rfl (fun K hK => ?_) AllReadyH.nil
                  have hN8 := HN8.out
                  refine stepOf_appendW teI rfl (.tmp 51) (.tmp 57) rfl (.slice A8 j c8) j ((zs.take j).map IV) rfl hN8.row _ 1 [.int .i64 x] rfl HSE.out (fun u hu => by simp at hu; subst hu; rfl) (by unfold maxLen; omega) (by omega) ?_
                  intro A9 c9 w9 hr9 hf9 hm9
                  have HN9 := Lib.hid (hN8.step hr9 hf9 hm9)
                  clear hN8 hr9 hf9 hm9
                  refine hK.out _ _ (HN9.out.fr) (fun hHeld => ?_)
                  clear hK K
                  try change wpAnyH _ _ _ _ _ _ _ (Go.Act.put _ (some 58) _) _
                  try simp only [Go.Act.put, List.setIfInBounds_toArray, List.set_cons_zero, List.set_cons_succ]
                  refine wpAnyH_takeD (i := 12) (v := ?_) (some 8) rfl rfl (by kernel_rfl) (by kernel_rfl) (by kernel_rfl) (fun _ _ _ h => h) (Or.inl ⟨by rfl, ?_⟩) (by assumption) ?_
                  rotate_left
                  · intro w' hSw
                    go_simp
                    first | done | with_reducible rfl
                  try simp only [Go.Act.put, List.setIfInBounds_toArray, List.set_cons_zero, List.set_cons_succ]
                  refine wpAnyH_done (by kernel_rfl) ?_ _
                  have hs2 := HSL2.out
                  clear HSL1 HSL2 HSA
                  go_wp2_with (at_builtin; (refine wpList_appendR teI rfl (.tmp 59) (.tmp 62) rfl (.slice A9 (j + 1) c9) (j + 1) _ rfl HN9.out.row (.slice A3 (m - j) c3) (m - j) _ rfl (HSB.out _ HN9.out.fr) (IV_one _) (by unfold maxLen; omega) (by omega) ?_; intro A5 c5 w5 hr5 hf5 hm5; have HN5 := Lib.hid ((HN9.out.old HF4.out).step hr5 hf5 hm5); clear hr5 hf5 hm5))
                  go_roundw
                  case rel =>
                    refine ⟨k + 1, m + 1, A5, c5, by first | rfl | (go_num; done) | (congr 1; omega), by congr 1; omega, by omega, ⟨by rw [HS2.out, insF_len, HZL.out], ?_⟩⟩
                    rw [HS2.out, insF_map, HJ.out, show m + 1 = j + 1 + (m - j) by omega]
                    exact ⟨HN5.out.row, HR3.out.fr.trans HN5.out.fr (fun _ _ h => h), fun k hk => Nat.le_trans HR3.out.fr.size (HN5.out.new k hk)⟩
                  case measure => (simp [intOf]) <;> omega
            · have hjq : posF zs x = j := by omega
              have hjm' : ¬ (j : Int) < (m : Int) := by omega
              go_wp2_with fail
              go_quiet (fail)
              have hjm2 : j ≤ m := by omega
              have HJ := Lib.hid hjq
              obtain ⟨w4, hw4⟩ : ∃ w4, wr.drewN nq = w4 := ⟨_, rfl⟩
              have HF4 : Hid (Fr (fun _ => False) w3 w4) := Lib.hid (by rw [← hw4]; exact HX.out _)
              have HR4 := Lib.hid (HR3.out.fr0 HF4.out)
              have HQ := Lib.hid (fun w' (hf : Fr (fun _ => False) w4 w') => HQ3.out w' (HF4.out.trans hf (fun _ _ h => h)))
              obtain ⟨A7, c7, A3, c3, hs1, hs2, hsl⟩ := run_cutI HR4.out.row hjm2
              have HSL1 := Lib.hid hs1
              have HSL2 := Lib.hid hs2
              have HSA : Hid (∀ w', Fr (fun _ => False) w4 w' → Sl w' 1 (.slice A7 j c7) j ((zs.take j).map IV)) := Lib.hid (fun w' hf => by rw [List.map_take]; exact (hsl w' (HR4.out.row.fr0 hf)).1)
              have HSB : Hid (∀ w', Fr (fun _ => False) w4 w' → Sl w' 1 (.slice A3 (m - j) c3) (m - j) ((zs.drop j).map IV)) := Lib.hid (fun w' hf => by rw [List.map_drop]; exact (hsl w' (HR4.out.row.fr0 hf)).2)
              rw [hw4]
              clear hs1 hs2 hsl hw4 qx hjq HX HW hpm hjp hjm hjm' 
              go_wp2_with fail
              refine wp_region_held_drew (S := (fun w' => Fr (fun _ => False) w4 w')) (by kernel_rfl) ((Fr.refl _ _).drew) (fun hHeld => ?_)
              refine wpAnyH_takeD (i := 1) (v := ?_) (some 48) rfl rfl (by kernel_rfl) (by kernel_rfl) (by kernel_rfl) (fun _ _ _ h => h) (Or.inl ⟨by rfl, ?_⟩) (by assumption) ?_
              rotate_left
              · intro w' hSw
                go_simp
                first | done | with_reducible rfl
              try simp only [Go.Act.put, List.setIfInBounds_toArray, List.set_cons_zero, List.set_cons_succ]
              refine wpAnyH_takeD (i := 2) (v := ?_) (some 49) rfl rfl (by kernel_rfl) (by kernel_rfl) (by kernel_rfl) (fun _ _ _ h => h) (Or.inl ⟨by rfl, ?_⟩) (by assumption) ?_
              rotate_left
              · intro w' hSw
                go_simp
                first | done | with_reducible rfl
              try simp only [Go.Act.put, List.setIfInBounds_toArray, List.set_cons_zero, List.set_cons_succ]
              refine wpAnyH_takeD (i := 3) (v := ?_) (some 50) rfl rfl (by kernel_rfl) (by kernel_rfl) (by kernel_rfl) (fun _ _ _ h => h) (Or.inl ⟨by rfl, ?_⟩) (by assumption) ?_
              rotate_left
              · intro w' hSw
                have q9 := HSL1.out w'
                go_simp
                first | done | with_reducible rfl
              try simp only [Go.Act.put, List.setIfInBounds_toArray, List.set_cons_zero, List.set_cons_succ]
              refine wpAnyH_takeD (i := 5) (v := ?_) (some 52) rfl rfl (by kernel_rfl) (by kernel_rfl) (by kernel_rfl) (fun _ _ _ h => h) (Or.inl ⟨by rfl, ?_⟩) (by assumption) ?_
              rotate_left
              · intro w' hSw
                go_simp
                first | done | with_reducible rfl
              try simp only [Go.Act.put, List.setIfInBounds_toArray, List.set_cons_zero, List.set_cons_succ]
              refine wpAnyH_takeD (i := 6) (v := ?_) (some 53) rfl rfl (by kernel_rfl) (by kernel_rfl) (by kernel_rfl) (fun _ _ _ h => h) (Or.inl ⟨by rfl, ?_⟩) (by assumption) ?_
              rotate_left
              · intro w' hSw
                go_simp
                first | done | with_reducible rfl
              try simp only [Go.Act.put, List.setIfInBounds_toArray, List.set_cons_zero, List.set_cons_succ]
              refine wpAnyH_takeD (i := 7) (v := ?_) (some 54) rfl rfl (by kernel_rfl) (by kernel_rfl) (by kernel_rfl) (fun _ _ _ h => h) (Or.inl ⟨by rfl, ?_⟩) (by assumption) ?_
              rotate_left
              · intro w' hSw
                go_simp
                first | done | with_reducible rfl
              try simp only [Go.Act.put, List.setIfInBounds_toArray, List.set_cons_zero, List.set_cons_succ]
              refine wpAnyH_takeD (i := 8) (v := ?_) (some 55) rfl rfl (by kernel_rfl) (by kernel_rfl) (by kernel_rfl) (fun _ _ _ h => h) (Or.inl ⟨by rfl, ?_⟩) (by assumption) ?_
              rotate_left
              · intro w' hSw
                go_simp
                first | done | with_reducible rfl
              try simp only [Go.Act.put, List.setIfInBounds_toArray, List.set_cons_zero, List.set_cons_succ]
              refine wpAnyH_takeD (i := 9) (v := ?_) (some 56) rfl rfl (by kernel_rfl) (by kernel_rfl) (by kernel_rfl) (fun _ _ _ h => h) (Or.inl ⟨by rfl, ?_⟩) (by assumption) ?_
              rotate_left
              · intro w' hSw
                have q0 := HQ.out w' hSw
                go_simp
                first | done | with_reducible rfl
              try simp only [Go.Act.put, List.setIfInBounds_toArray, List.set_cons_zero, List.set_cons_succ]
              refine wpAnyH_ready (rs := [0, 10]) (by kernel_rfl) (by simp) ?_
              refine AllReadyH.cons rfl (fun K hK => ?_) (AllReadyH.cons rfl (fun K hK => ?_) AllReadyH.nil)
              · skip
                go_simp
                refine hK.out _ _ (hHeld.alloc _) (fun hHeld => ?_)
                clear hK K
                try change wpAnyH _ _ _ _ _ _ _ (Go.Act.put _ (some 47) _) _
                try simp only [Go.Act.put, List.setIfInBounds_toArray, List.set_cons_zero, List.set_cons_succ]
                refine wpAnyH_ready (rs := [4, 10]) (by kernel_rfl) (by simp) ?_
                refine AllReadyH.cons rfl (fun K hK => ?_) (AllReadyH.cons rfl (fun K hK => ?_) AllReadyH.nil)
                · skip
                  have hN0 := newIA w4
                  refine stepOf_appendW teI rfl (.tmp 47) (.tmp 50) rfl _ 0 [] rfl hN0.row (.slice A7 j c7) j ((zs.take j).map IV) rfl (HSA.out _ hN0.fr) (IV_one _) (by unfold maxLen; omega) (by omega) ?_
                  intro A8 c8 w8 hr8 hf8 hm8
                  have hN8' := hN0.step hr8 hf8 hm8
                  simp only [Nat.zero_add, List.nil_append] at hN8' ⊢
                  have HN8 := Lib.hid hN8'
                  clear hN0 hr8 hf8 hm8 hN8'
                  refine hK.out _ _ (HN8.out.fr) (fun hHeld => ?_)
                  clear hK K
                  try change wpAnyH _ _ _ _ _ _ _ (Go.Act.put _ (some 51) _) _
                  try simp only [Go.Act.put, List.setIfInBounds_toArray, List.set_cons_zero, List.set_cons_succ]
                  refine wpAnyH_ready (rs := [10]) (by kernel_rfl) (by simp) ?_
                  refine AllReadyH.cons rfl (fun K hK => ?_) AllReadyH.nil
                  go_simp
                  refine hK.out _ _ (hHeld.trans ((Fr.refl _ _).alloc _) (fun _ _ h => h)) (fun hHeld => ?_)
                  clear hK K
                  try change wpAnyH _ _ _ _ _ _ _ (Go.Act.put _ (some 57) _) _
                  try simp only [Go.Act.put, List.setIfInBounds_toArray, List.set_cons_zero, List.set_cons_succ]
                  refine wpAnyH_ready (rs := [11]) (by kernel_rfl) (by simp) ?_
                  refine AllReadyH.cons rfl (fun K hK => ?_) AllReadyH.nil
                  have hN8 := HN8.out.fr0 (show Fr (fun _ => False) w8 (w8.alloc (.cells #[.int .i64 x] 3)) from (Fr.refl _ _).alloc _)
                  refine stepOf_appendW teI rfl (.tmp 51) (.tmp 57) rfl (.slice A8 j c8) j ((zs.take j).map IV) rfl hN8.row _ 1 [.int .i64 x] rfl (sl1i (show Bk (w8.alloc (.cells #[.int .i64 x] 3)) w8.heap.size 3 #[.int .i64 x] from Bk.new _ _ _)) (fun u hu => by simp at hu; subst hu; rfl) (by unfold maxLen; omega) (by omega) ?_
                  intro A9 c9 w9 hr9 hf9 hm9
                  have HN9 := Lib.hid (hN8.step hr9 hf9 hm9)
                  clear hN8 hr9 hf9 hm9
                  refine hK.out _ _ (HN9.out.fr) (fun hHeld => ?_)
                  clear hK K
                  try change wpAnyH _ _ _ _ _ _ _ (Go.Act.put _ (some 58) _) _
                  try simp only [Go.Act.put, List.setIfInBounds_toArray, List.set_cons_zero, List.set_cons_succ]
                  refine wpAnyH_takeD (i := 12) (v := ?_) (some 8) rfl rfl (by kernel_rfl) (by kernel_rfl) (by kernel_rfl) (fun _ _ _ h => h) (Or.inl ⟨by rfl, ?_⟩) (by assumption) ?_
                  rotate_left
                  · intro w' hSw
                    go_simp
                    first | done | with_reducible rfl
                  try simp only [Go.Act.put, List.setIfInBounds_toArray, List.set_cons_zero, List.set_cons_succ]
                  refine wpAnyH_done (by kernel_rfl) ?_ _
                  have hs2 := HSL2.out
                  clear HSL1 HSL2 HSA
                  go_wp2_with (at_builtin; (refine wpList_appendR teI rfl (.tmp 59) (.tmp 62) rfl (.slice A9 (j + 1) c9) (j + 1) _ rfl HN9.out.row (.slice A3 (m - j) c3) (m - j) _ rfl (HSB.out _ HN9.out.fr) (IV_one _) (by unfold maxLen; omega) (by omega) ?_; intro A5 c5 w5 hr5 hf5 hm5; have HN5 := Lib.hid ((HN9.out.old HF4.out).step hr5 hf5 hm5); clear hr5 hf5 hm5))
                  go_roundw
                  case rel =>
                    refine ⟨k + 1, m + 1, A5, c5, by first | rfl | (go_num; done) | (congr 1; omega), by congr 1; omega, by omega, ⟨by rw [HS2.out, insF_len, HZL.out], ?_⟩⟩
                    rw [HS2.out, insF_map, HJ.out, show m + 1 = j + 1 + (m - j) by omega]
                    exact ⟨HN5.out.row, HR3.out.fr.trans HN5.out.fr (fun _ _ h => h), fun k hk => Nat.le_trans HR3.out.fr.size (HN5.out.new k hk)⟩
                  case measure => (simp [intOf]) <;> omega
                · skip
                  go_simp
                  refine hK.out _ _ (hHeld.trans ((Fr.refl _ _).alloc _) (fun _ _ h => h)) (fun hHeld => ?_)
                  clear hK K
                  try change wpAnyH _ _ _ _ _ _ _ (Go.Act.put _ (some 57) _) _
                  try simp only [Go.Act.put, List.setIfInBounds_toArray, List.set_cons_zero, List.set_cons_succ]
                  refine wpAnyH_ready (rs := [4]) (by kernel_rfl) (by simp) ?_
                  refine AllReadyH.cons rfl (fun K hK => ?_) AllReadyH.nil
                  have hN0 := newIB w4 (.cells #[.int .i64 x] 3)
                  refine stepOf_appendW teI rfl (.tmp 47) (.tmp 50) rfl _ 0 [] rfl hN0.row (.slice A7 j c7) j ((zs.take j).map IV) rfl (HSA.out _ hN0.fr) (IV_one _) (by unfold maxLen; omega) (by omega) ?_
                  intro A8 c8 w8 hr8 hf8 hm8
                  have hN8' := hN0.step hr8 hf8 hm8
                  simp only [Nat.zero_add, List.nil_append] at hN8' ⊢
                  have HN8 := Lib.hid hN8'
                  have HSE : Hid (Sl w8 1 (.slice (some ⟨w4.heap.size + 1, 0, none⟩) 1 1) 1 [.int .i64 x]) := Lib.hid (sl1i (Bk.fr (w := ((w4.alloc O0I).alloc (.cells #[.int .i64 x] 3)).drew) (by have := (Bk.new (w4.alloc O0I) 3 #[.int .i64 x]).drew; rw [show (w4.alloc O0I).heap.size = w4.heap.size + 1 by simp] at this; exact this) hf8 (fun e => by have e' : w4.heap.size = w4.heap.size + 1 := (by injection e); omega)))
                  clear hN0 hr8 hf8 hm8 hN8'
                  refine hK.out _ _ (HN8.out.fr) (fun hHeld => ?_)
                  clear hK K
                  try change wpAnyH _ _ _ _ _ _ _ (Go.Act.put _ (some 51) _) _
                  try simp only [Go.Act.put, List.setIfInBounds_toArray, List.set_cons_zero, List.set_cons_succ]
                  refine wpAnyH_ready (rs := [11]) (by kernel_rfl) (by simp) ?_
                  refine AllReadyH.cons rfl (fun K hK => ?_) AllReadyH.nil
                  have hN8 := HN8.out
                  refine stepOf_appendW teI rfl (.tmp 51) (.tmp 57) rfl (.slice A8 j c8) j ((zs.take j).map IV) rfl hN8.row _ 1 [.int .i64 x] rfl HSE.out (fun u hu => by simp at hu; subst hu; rfl) (by unfold maxLen; omega) (by omega) ?_
                  intro A9 c9 w9 hr9 hf9 hm9
                  have HN9 := Lib.hid (hN8.step hr9 hf9 hm9)
                  clear hN8 hr9 hf9 hm9
                  refine hK.out _ _ (HN9.out.fr) (fun hHeld => ?_)
                  clear hK K
                  try change wpAnyH _ _ _ _ _ _ _ (Go.Act.put _ (some 58) _) _
                  try simp only [Go.Act.put, List.setIfInBounds_toArray, List.set_cons_zero, List.set_cons_succ]
                  refine wpAnyH_takeD (i := 12) (v := ?_) (some 8) rfl rfl (by kernel_rfl) (by kernel_rfl) (by kernel_rfl) (fun _ _ _ h => h) (Or.inl ⟨by rfl, ?_⟩) (by assumption) ?_
                  rotate_left
                  · intro w' hSw
                    go_simp
                    first | done | with_reducible rfl
                  try simp only [Go.Act.put, List.setIfInBounds_toArray, List.set_cons_zero, List.set_cons_succ]
                  refine wpAnyH_done (by kernel_rfl) ?_ _
                  have hs2 := HSL2.out
                  clear HSL1 HSL2 HSA
                  go_wp2_with (at_builtin; (refine wpList_appendR teI rfl (.tmp 59) (.tmp 62) rfl (.slice A9 (j + 1) c9) (j + 1) _ rfl HN9.out.row (.slice A3 (m - j) c3) (m - j) _ rfl (HSB.out _ HN9.out.fr) (IV_one _) (by unfold maxLen; omega) (by omega) ?_; intro A5 c5 w5 hr5 hf5 hm5; have HN5 := Lib.hid ((HN9.out.old HF4.out).step hr5 hf5 hm5); clear hr5 hf5 hm5))
                  go_roundw
                  case rel =>
                    refine ⟨k + 1, m + 1, A5, c5, by first | rfl | (go_num; done) | (congr 1; omega), by congr 1; omega, by omega, ⟨by rw [HS2.out, insF_len, HZL.out], ?_⟩⟩
                    rw [HS2.out, insF_map, HJ.out, show m + 1 = j + 1 + (m - j) by omega]
                    exact ⟨HN5.out.row, HR3.out.fr.trans HN5.out.fr (fun _ _ h => h), fun k hk => Nat.le_trans HR3.out.fr.size (HN5.out.new k hk)⟩
                  case measure => (simp [intOf]) <;> omega
              · skip
                go_simp
                refine hK.out _ _ (hHeld.trans ((Fr.refl _ _).alloc _) (fun _ _ h => h)) (fun hHeld => ?_)
                clear hK K
                try change wpAnyH _ _ _ _ _ _ _ (Go.Act.put _ (some 57) _) _
                try simp only [Go.Act.put, List.setIfInBounds_toArray, List.set_cons_zero, List.set_cons_succ]
                refine wpAnyH_ready (rs := [0]) (by kernel_rfl) (by simp) ?_
                refine AllReadyH.cons rfl (fun K hK => ?_) AllReadyH.nil
                go_simp
                refine hK.out _ _ (hHeld.alloc _) (fun hHeld => ?_)
                clear hK K
                try change wpAnyH _ _ _ _ _ _ _ (Go.Act.put _ (some 47) _) _
                try simp only [Go.Act.put, List.setIfInBounds_toArray, List.set_cons_zero, List.set_cons_succ]
                refine wpAnyH_ready (rs := [4]) (by kernel_rfl) (by simp) ?_
                refine AllReadyH.cons rfl (fun K hK => ?_) AllReadyH.nil
                have hN0 := newIC w4 (.cells #[.int .i64 x] 3)
                refine stepOf_appendW teI rfl (.tmp 47) (.tmp 50) rfl _ 0 [] rfl hN0.row (.slice A7 j c7) j ((zs.take j).map IV) rfl (HSA.out _ hN0.fr) (IV_one _) (by unfold maxLen; omega) (by omega) ?_
                intro A8 c8 w8 hr8 hf8 hm8
                have hN8' := hN0.step hr8 hf8 hm8
                simp only [Nat.zero_add, List.nil_append] at hN8' ⊢
                have HN8 := Lib.hid hN8'
                have HSE : Hid (Sl w8 1 (.slice (some ⟨w4.heap.size, 0, none⟩) 1 1) 1 [.int .i64 x]) := Lib.hid (sl1i (Bk.fr (w := ((w4.alloc (.cells #[.int .i64 x] 3)).alloc O0I).drew) ((((Bk.new w4 3 #[.int .i64 x]).alloc O0I)).drew) hf8 (fun e => by have e' : w4.heap.size + 1 = w4.heap.size := (by injection e); omega)))
                clear hN0 hr8 hf8 hm8 hN8'
                refine hK.out _ _ (HN8.out.fr) (fun hHeld => ?_)
                clear hK K
                try change wpAnyH _ _ _ _ _ _ _ (Go.Act.put _ (some 51) _) _
                try simp only [Go.Act.put, List.setIfInBounds_toArray, List.set_cons_zero, List.set_cons_succ]
                refine wpAnyH_ready (rs := [11]) (by kernel_rfl) (by simp) ?_
                refine AllReadyH.cons rfl (fun K hK => ?_) AllReadyH.nil
                have hN8 := HN8.out
                refine stepOf_appendW teI rfl (.tmp 51) (.tmp 57) rfl (.slice A8 j c8) j ((zs.take j).map IV) rfl hN8.row _ 1 [.int .i64 x] rfl HSE.out (fun u hu => by simp at hu; subst hu; rfl) (by unfold maxLen; omega) (by omega) ?_
                intro A9 c9 w9 hr9 hf9 hm9
                have HN9 := Lib.hid (hN8.step hr9 hf9 hm9)
                clear hN8 hr9 hf9 hm9
                refine hK.out _ _ (HN9.out.fr) (fun hHeld => ?_)
                clear hK K
                try change wpAnyH _ _ _ _ _ _ _ (Go.Act.put _ (some 58) _) _
                try simp only [Go.Act.put, List.setIfInBounds_toArray, List.set_cons_zero, List.set_cons_succ]
                refine wpAnyH_takeD (i := 12) (v := ?_) (some 8) rfl rfl (by kernel_rfl) (by kernel_rfl) (by kernel_rfl) (fun _ _ _ h => h) (Or.inl ⟨by rfl, ?_⟩) (by assumption) ?_
                rotate_left
                · intro w' hSw
                  go_simp
                  first | done | with_reducible rfl
                try simp only [Go.Act.put, List.setIfInBounds_toArray, List.set_cons_zero, List.set_cons_succ]
                refine wpAnyH_done (by kernel_rfl) ?_ _
                have hs2 := HSL2.out
                clear HSL1 HSL2 HSA
                go_wp2_with (at_builtin; (refine wpList_appendR teI rfl (.tmp 59) (.tmp 62) rfl (.slice A9 (j + 1) c9) (j + 1) _ rfl HN9.out.row (.slice A3 (m - j) c3) (m - j) _ rfl (HSB.out _ HN9.out.fr) (IV_one _) (by unfold maxLen; omega) (by omega) ?_; intro A5 c5 w5 hr5 hf5 hm5; have HN5 := Lib.hid ((HN9.out.old HF4.out).step hr5 hf5 hm5); clear hr5 hf5 hm5))
                go_roundw
                case rel =>
                  refine ⟨k + 1, m + 1, A5, c5, by first | rfl | (go_num; done) | (congr 1; omega), by congr 1; omega, by omega, ⟨by rw [HS2.out, insF_len, HZL.out], ?_⟩⟩
                  rw [HS2.out, insF_map, HJ.out, show m + 1 = j + 1 + (m - j) by omega]
                  exact ⟨HN5.out.row, HR3.out.fr.trans HN5.out.fr (fun _ _ h => h), fun k hk => Nat.le_trans HR3.out.fr.size (HN5.out.new k hk)⟩
                case measure => (simp [intOf]) <;> omega
      · have d1 : (kd != K) = true := by simp [hkd]
        clear CO
        go_wp2
        go_roundw
        case rel => exact ⟨k + 1, m, A1, c1, by first | rfl | (go_num; done) | (congr 1; omega), rfl, by omega, ⟨by rw [HS.out, if_neg (fun e => hkd e.1)]; exact HZL.out, by rw [HS.out, if_neg (fun e => hkd e.1)]; exact HNR.out⟩⟩
        case measure => (simp [intOf]) <;> omega
    · obtain rfl : k = n := by omega
      have hlt' : ¬ (k : Int) < (k : Int) := by omega
      clear hlt
      go_wp2
      go_ret
      exact ⟨A1, c1, m, rfl, HK.out.1, HK.out.2⟩
end Go.Proofs.YtbopmboigcdjpaaDoor
