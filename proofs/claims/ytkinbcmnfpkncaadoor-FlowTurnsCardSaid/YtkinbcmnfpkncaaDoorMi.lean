/- event: add, the walk. -/
import Derived.Test.YtkinbcmnfpkncaaDoorMh
namespace Go.Proofs.YtkinbcmnfpkncaaDoor
open Go.RowKit Go.Maps

set_option maxRecDepth 100000 in
set_option maxHeartbeats 8000000 in
theorem add_any {w : World} {g bo bu : Nat} {b : Bo} (h : Book w g bo bu b) (p : VL) (ok : p.ok) (hc : b.count ≤ 1048576) :
    Calls Tryd.prog 72 #[.pointer (some ⟨g, 0, none⟩), p.val] w fun e w' => e = .returned (.tuple #[]) ∧ Book w' g bo bu (b.add p.e) ∧ Fr (BS g bo bu) w w' := by
  obtain ⟨Do, Du, hb⟩ := h
  obtain ⟨W, hW⟩ : ∃ W, w.alloc (.cells p.cells.toArray 75) = W := ⟨_, rfl⟩
  obtain ⟨g0, hg0⟩ : ∃ g0, w.heap.size = g0 := ⟨_, rfl⟩
  obtain ⟨W1, hW1⟩ : ∃ W1, W.setCell ⟨g, 0, none⟩ (.int .i64 ((b.count : Int) + 1)) = W1 := ⟨_, rfl⟩
  have FW : Fr (fun _ => False) w W := by rw [← hW]; exact (Fr.refl _ _).alloc _
  have F1 : Hid (Fr (fun k => k = g) W W1) := Lib.hid (by rw [← hW1]; exact Fr.setCell (S := fun k => k = g) (p := ⟨g, 0, none⟩) (Fr.refl _ _) (fun _ => rfl) _)
  have KW0 : Bk W g0 75 p.cells.toArray := by rw [← hW, ← hg0]; exact Bk.new _ _ _
  have HNE : Hid (g0 ≠ g ∧ bo ≠ g ∧ bu ≠ g ∧ bo ≠ bu ∧ g0 ≠ bo ∧ g0 ≠ bu) := Lib.hid ⟨by have := hb.blk.lt; omega, (hb.mo.ne hb.blk).symm, (hb.mu.ne hb.blk).symm, hb.ne, by have := hb.mo.lt; omega, by have := hb.mu.lt; omega⟩
  have FW1 : Hid (Fr (fun k => k = g) w W1) := Lib.hid ((FW.mono (fun _ _ h => h.elim)).trans F1.out (fun _ _ h => h))
  have K1 : Hid (Bk W1 g0 75 p.cells.toArray) := Lib.hid (KW0.fr F1.out HNE.out.1)
  have B0 := hb.blk.fr FW (fun h => h)
  have B1 : Hid (Bk W1 g 117 #[.int .i64 ((b.count : Int) + 1), .int .i64 b.now, .bool b.closed, .map (some bo), .map (some bu)]) := Lib.hid (by
    rw [← hW1]; exact B0.set 0 _)
  have MO1 := Lib.hid (hb.mo.fr FW1.out HNE.out.2.1)
  have MU1 := Lib.hid (hb.mu.fr FW1.out HNE.out.2.2.1)
  have z0 : W.frozen? ⟨g, 0, none⟩ = false := B0.frozen 0
  have q0 : W.cell? ⟨g, 0, none⟩ = some (.int .i64 (b.count : Int)) := B0.cell 0
  have hcnt : (b.count : Int) ≤ 1048576 := by omega
  have hcn0 : (0 : Int) ≤ (b.count : Int) := by omega
  have w1 : IntKind.i64.wrap ((b.count : Int) + 1) = (b.count : Int) + 1 := IntWalk.i64_in _ (by omega)
  have HBO := Lib.hid hb
  have HOK := Lib.hid ok
  have CO := Lib.hid (fun w' => opened_any p w')
  have CC := Lib.hid (fun w' => closes_any p.e.k w')
  obtain ⟨e, he⟩ : ∃ e, p.e = e := ⟨_, rfl⟩
  have HFIN : Hid (∀ w' D1 D2, Bk w' g 117 #[.int .i64 ((b.count : Int) + 1), .int .i64 e.a, .bool (closesK e.k), .map (some bo), .map (some bu)] → MV w' 3 bo D1 → MV w' 145 bu D2 →
      D1 = (if opensK e.k = true then (Do.del (.int .i64 e.r)).put (.int .i64 ((b.count : Int) + 1)) (.held (stV ⟨(thingOf e).1, (thingOf e).2, e.k⟩))
        else if e.k = 3 ∨ e.k = 8 then (Do.del (.int .i64 e.r)).put (.int .i64 ((b.count : Int) + 1)) (.held (stV ⟨(b.opn e.r).tk, (b.opn e.r).ti, e.k⟩)) else Do.del (.int .i64 e.r)) →
      D2 = (if opensK e.k = true then Du.put (th (thingOf e).1 (thingOf e).2) (.held (.agg #[])) else if e.k = 3 ∨ e.k = 8 then Du else Du.del (th (b.opn e.r).tk (b.opn e.r).ti)) → Book w' g bo bu (b.add e)) := Lib.hid (fun w' D1 D2 x1 x2 x3 x4 x5 => by
    subst he
    exact ⟨D1, D2, HBO.out.added p.e ok.k ok.i x1 x2 x3 x4 x5⟩)
  have HLK : Hid (∀ w', Fr (fun k => k = g) W1 w' → (Instr.lookup 114 (.map (some bo)) (.int .i64 e.r) false).run Tryd.prog w' = .ok (.agg #[.int .i64 (b.opn e.r).tk, .int .i64 (b.opn e.r).ti, .int .i64 (b.opn e.r).k]) w') := Lib.hid (fun w' hf => by
    subst he
    have hm := MO1.out.fr hf HNE.out.2.1
    rcases HBO.out.opn p.e.r ok.r with ⟨h1, h2⟩ | h1
    · have := (hm.at0 kInt tOpen (zeroSta w') (I64.key ok.r) h1).2
      rw [h2]; exact this
    · exact (hm.at1 kInt tOpen (zeroSta w') (I64.key ok.r) h1).2)
  have HI : Hid (I64 e.k ∧ I64 e.r ∧ I64 (b.opn e.r).tk ∧ I64 (b.opn e.r).ti ∧ I64 (thingOf e).1 ∧ I64 (thingOf e).2) := Lib.hid (by
    subst he
    refine ⟨ok.k, ok.r, (HBO.out.op _).1, (HBO.out.op _).2, ?_⟩
    unfold thingOf; split
    · exact ⟨⟨by decide, by decide⟩, ⟨by decide, by decide⟩⟩
    · exact ⟨ok.k, ok.i⟩)
  have HSZ : Hid (Maps.size Do < 9223372036854775807 - 1 ∧ Maps.size Du < 9223372036854775807 - 1 ∧ Maps.size (Do.del (.int .i64 e.r)) < 9223372036854775807) := Lib.hid (by
    have h1 := hb.so; have h2 := hb.su
    have := size_del (k := .int .i64 e.r) (hb.mo.tidy kInt)
    omega)
  obtain ⟨p, A, c⟩ := p
  simp only at he
  subst he
  obtain ⟨k, a, r, i, l, m, d⟩ := p
  unfold VL.val VL.cells VL.bv thV at *
  simp only at *
  have hfk := fun w' => fieldT (b.opn r).tk (b.opn r).ti (b.opn r).k w'
  clear hb ok KW0 B0 FW
  obtain ⟨cl, hcl⟩ : ∃ cl, closesK k = cl := ⟨_, rfl⟩
  rw [hcl] at HFIN CC
  clear hcl
  obtain ⟨tk, htk⟩ : ∃ x, (b.opn r).tk = x := ⟨_, rfl⟩
  obtain ⟨ti, hti⟩ : ∃ x, (b.opn r).ti = x := ⟨_, rfl⟩
  obtain ⟨sk, hsk⟩ : ∃ x, (b.opn r).k = x := ⟨_, rfl⟩
  rw [htk, hti] at HFIN HI
  rw [htk, hti, hsk] at HLK hfk
  obtain ⟨t1, ht1⟩ : ∃ x, (thingOf ⟨k, a, r, i, l, m, d⟩).1 = x := ⟨_, rfl⟩
  obtain ⟨t2, ht2⟩ : ∃ x, (thingOf ⟨k, a, r, i, l, m, d⟩).2 = x := ⟨_, rfl⟩
  rw [ht1, ht2] at HFIN HI CO
  clear htk hti hsk ht1 ht2
  go_enter Tryd.func72, Tryd.ntmps72
  go_wp2_with fail
  clear hW hW1 hg0 q0 z0 w1
  obtain ⟨W2, hW2⟩ : ∃ W2, ((W1.setCell ⟨g, 1, none⟩ (.int .i64 a)).setCell ⟨g, 2, none⟩ (.bool cl)).drew = W2 := ⟨_, rfl⟩
  have F2 : Hid (Fr (fun k => k = g) W1 W2) := Lib.hid (by rw [← hW2]; exact (Fr.setCell (S := fun k => k = g) (p := ⟨g, 2, none⟩) (Fr.setCell (S := fun k => k = g) (p := ⟨g, 1, none⟩) (Fr.refl _ _) (fun _ => rfl) _) (fun _ => rfl) _).drew)
  have B2 : Hid (Bk W2 g 117 #[.int .i64 ((b.count : Int) + 1), .int .i64 a, .bool cl, .map (some bo), .map (some bu)]) := Lib.hid (by rw [← hW2]; exact ((B1.out.set 1 (.int .i64 a)).set 2 (.bool cl)).drew)
  have K2 := Lib.hid (K1.out.fr F2.out HNE.out.1)
  have HW2 := Lib.hid hW2
  clear hW2
  refine wp_region_Z [9, 12] ((fun w' => Fr (fun _ => False) W1 w')) (by kernel_rfl) ((Fr.refl _ _).drew) (fun hHeld => ?_)
  refine anyZ_pure (i := 0) (v := ?_) (some 12) rfl rfl (by kernel_rfl) (by kernel_rfl) (by kernel_rfl) (by kernel_rfl) (fun _ _ _ h => h) (Or.inl ⟨by rfl, ?_⟩) (fun _ => hHeld) ?_
  rotate_left
  · intro w' _
    go_simp
    first | done | with_reducible rfl
  try simp only [Go.Act.put, List.setIfInBounds_toArray, List.set_cons_zero, List.set_cons_succ]
  refine anyZ_pure (i := 1) (v := ?_) (some 13) rfl rfl (by kernel_rfl) (by kernel_rfl) (by kernel_rfl) (by kernel_rfl) (fun _ _ _ h => h) (Or.inl ⟨by rfl, ?_⟩) (fun _ => hHeld) ?_
  rotate_left
  · intro w' _
    go_simp
    first | done | with_reducible rfl
  try simp only [Go.Act.put, List.setIfInBounds_toArray, List.set_cons_zero, List.set_cons_succ]
  refine anyZ_pure (i := 2) (v := ?_) (some 14) rfl rfl (by kernel_rfl) (by kernel_rfl) (by kernel_rfl) (by kernel_rfl) (fun _ _ _ h => h) (Or.inl ⟨by rfl, ?_⟩) (fun _ => hHeld) ?_
  rotate_left
  · intro w' _
    go_simp
    first | done | with_reducible rfl
  try simp only [Go.Act.put, List.setIfInBounds_toArray, List.set_cons_zero, List.set_cons_succ]
  refine anyZ_read (i := 3) (v := ?_) (some 15) [7, 8, 9, 10, 11, 12] rfl rfl (by kernel_rfl) (by kernel_rfl) (by kernel_rfl) (by kernel_rfl) (by kernel_rfl) (by kernel_rfl) (fun _ _ _ h => h) (Or.inl ⟨by rfl, ?_⟩) hHeld ?_
  rotate_left
  · intro w' hSw
    have k1 := (K1.out.fr hSw (fun h => h)).cell 1
    go_simp
    first | done | with_reducible rfl
  try simp only [Go.Act.put, List.setIfInBounds_toArray, List.set_cons_zero, List.set_cons_succ]
  refine anyZ_pure (i := 4) (v := ?_) (some 16) rfl rfl (by kernel_rfl) (by kernel_rfl) (by kernel_rfl) (by kernel_rfl) (fun _ _ _ h => h) (Or.inl ⟨by rfl, ?_⟩) (fun _ => hHeld) ?_
  rotate_left
  · intro w' _
    go_simp
    first | done | with_reducible rfl
  try simp only [Go.Act.put, List.setIfInBounds_toArray, List.set_cons_zero, List.set_cons_succ]
  refine anyZ_read (i := 5) (v := ?_) (some 17) [6, 7, 8, 9, 10, 11, 12] rfl rfl (by kernel_rfl) (by kernel_rfl) (by kernel_rfl) (by kernel_rfl) (by kernel_rfl) (by kernel_rfl) (fun _ _ _ h => h) (Or.inl ⟨by rfl, ?_⟩) hHeld ?_
  rotate_left
  · intro w' hSw
    have k0 := (K1.out.fr hSw (fun h => h)).cell 0
    go_simp
    first | done | with_reducible rfl
  try simp only [Go.Act.put, List.setIfInBounds_toArray, List.set_cons_zero, List.set_cons_succ]
  refine anyZ_ready (rs := [6]) (by kernel_rfl) (by simp) ?_
  refine AllZ.step rfl (fun K hK => ?_) AllZ.nil
  go_simp
  refine (CC.out _).mono ?_; rintro e w2 ⟨rfl, rfl⟩
  try go_simp
  refine hK.out _ _ (hHeld) (fun hHeld => ?_)
  clear hK K
  try change anyZ _ _ _ _ _ _ _ _ (Go.Act.put _ (some 18) _) _
  try simp only [Go.Act.put, List.setIfInBounds_toArray, List.set_cons_zero, List.set_cons_succ]
  refine anyZ_pure (i := 7) (v := ?_) (some 19) rfl rfl (by kernel_rfl) (by kernel_rfl) (by kernel_rfl) (by kernel_rfl) (fun _ _ _ h => h) (Or.inl ⟨by rfl, ?_⟩) (fun _ => hHeld) ?_
  rotate_left
  · intro w' _
    go_simp
    first | done | with_reducible rfl
  try simp only [Go.Act.put, List.setIfInBounds_toArray, List.set_cons_zero, List.set_cons_succ]
  refine anyZ_pure (i := 8) (v := ?_) (some 20) rfl rfl (by kernel_rfl) (by kernel_rfl) (by kernel_rfl) (by kernel_rfl) (fun _ _ _ h => h) (Or.inl ⟨by rfl, ?_⟩) (fun _ => hHeld) ?_
  rotate_left
  · intro w' _
    go_simp
    first | done | with_reducible rfl
  try simp only [Go.Act.put, List.setIfInBounds_toArray, List.set_cons_zero, List.set_cons_succ]
  refine anyZ_ready (rs := [9]) (by kernel_rfl) (by simp) ?_
  refine AllZ.last rfl (by kernel_rfl) (fun K hK => ?_) AllZ.nil
  have b1 : W1.cell? ⟨g, 1, none⟩ = some (.int .i64 b.now) := B1.out.cell 1
  have b2 : W1.cell? ⟨g, 2, none⟩ = some (.bool b.closed) := B1.out.cell 2
  have z1 : W1.frozen? ⟨g, 1, none⟩ = false := B1.out.frozen 1
  have z2 : W1.frozen? ⟨g, 2, none⟩ = false := B1.out.frozen 2
  go_simp
  refine hK.out _ _ ?_
  clear hK K
  try change anyZ _ _ _ _ _ _ _ _ (Go.Act.put _ none _) _
  try simp only [Go.Act.put, List.setIfInBounds_toArray, List.set_cons_zero, List.set_cons_succ]
  refine anyZ_pure (i := 10) (v := ?_) (some 21) rfl rfl (by kernel_rfl) (by kernel_rfl) (by kernel_rfl) (by kernel_rfl) (fun _ _ _ h => h) (Or.inl ⟨by rfl, ?_⟩) (notYet (by kernel_rfl)) ?_
  rotate_left
  · intro w' _
    go_simp
    first | done | with_reducible rfl
  try simp only [Go.Act.put, List.setIfInBounds_toArray, List.set_cons_zero, List.set_cons_succ]
  refine anyZ_pure (i := 11) (v := ?_) (some 22) rfl rfl (by kernel_rfl) (by kernel_rfl) (by kernel_rfl) (by kernel_rfl) (fun _ _ _ h => h) (Or.inl ⟨by rfl, ?_⟩) (notYet (by kernel_rfl)) ?_
  rotate_left
  · intro w' _
    go_simp
    first | done | with_reducible rfl
  try simp only [Go.Act.put, List.setIfInBounds_toArray, List.set_cons_zero, List.set_cons_succ]
  refine anyZ_ready (rs := [12]) (by kernel_rfl) (by simp) ?_
  refine AllZ.last rfl (by kernel_rfl) (fun K hK => ?_) AllZ.nil
  go_simp
  refine hK.out _ _ ?_
  clear hK K
  try change anyZ _ _ _ _ _ _ _ _ (Go.Act.put _ none _) _
  try simp only [Go.Act.put, List.setIfInBounds_toArray, List.set_cons_zero, List.set_cons_succ]
  refine anyZ_done (by kernel_rfl) ?_ _
  clear b1 b2 z1 z2 CC
  rw [HW2.out]
  clear HW2 B1 K1 F1
  obtain ⟨gt, hgt⟩ : ∃ gt, W2.heap.size = gt := ⟨_, rfl⟩
  have T3 : Hid (Bk (W2.alloc (.cells #[.int .i64 tk, .int .i64 ti] 145)).drew gt 145 #[.int .i64 tk, .int .i64 ti]) := Lib.hid (by rw [← hgt]; exact (Bk.new _ _ _).drew)
  have HGT : Hid (gt ≠ g ∧ gt ≠ g0 ∧ gt ≠ bo ∧ gt ≠ bu ∧ w.heap.size ≤ gt) := Lib.hid (by
    have e1 := B2.out.lt; have e2 := K2.out.lt; have e3 := (MO1.out.fr F2.out HNE.out.2.1).lt; have e4 := (MU1.out.fr F2.out HNE.out.2.2.1).lt
    have e5 := FW1.out.size; have e6 := F2.out.size
    exact ⟨by omega, by omega, by omega, by omega, by omega⟩)
  go_wp2_with fail
  refine wp_region_held_drew (S := (fun w' => Fr (fun _ => False) W2 w')) (by kernel_rfl) ((Fr.refl _ _).drew) (fun hHeld => ?_)
  refine wpAnyH_takeD (i := 0) (v := ?_) (some 23) rfl rfl (by kernel_rfl) (by kernel_rfl) (by kernel_rfl) (fun _ _ _ h => h) (Or.inl ⟨by rfl, ?_⟩) (by assumption) ?_
  rotate_left
  · intro w' hSw
    go_simp
    first | done | with_reducible rfl
  try simp only [Go.Act.put, List.setIfInBounds_toArray, List.set_cons_zero, List.set_cons_succ]
  refine wpAnyH_takeD (i := 1) (v := ?_) (some 24) rfl rfl (by kernel_rfl) (by kernel_rfl) (by kernel_rfl) (fun _ _ _ h => h) (Or.inl ⟨by rfl, ?_⟩) (by assumption) ?_
  rotate_left
  · intro w' hSw
    go_simp
    first | done | with_reducible rfl
  try simp only [Go.Act.put, List.setIfInBounds_toArray, List.set_cons_zero, List.set_cons_succ]
  refine wpAnyH_takeD (i := 2) (v := ?_) (some 25) rfl rfl (by kernel_rfl) (by kernel_rfl) (by kernel_rfl) (fun _ _ _ h => h) (Or.inl ⟨by rfl, ?_⟩) (by assumption) ?_
  rotate_left
  · intro w' hSw
    go_simp
    first | done | with_reducible rfl
  try simp only [Go.Act.put, List.setIfInBounds_toArray, List.set_cons_zero, List.set_cons_succ]
  refine wpAnyH_takeD (i := 3) (v := ?_) (some 26) rfl rfl (by kernel_rfl) (by kernel_rfl) (by kernel_rfl) (fun _ _ _ h => h) (Or.inl ⟨by rfl, ?_⟩) (by assumption) ?_
  rotate_left
  · intro w' hSw
    have b3 := (B2.out.fr hSw (fun h => h)).cell 3
    go_simp
    first | done | with_reducible rfl
  try simp only [Go.Act.put, List.setIfInBounds_toArray, List.set_cons_zero, List.set_cons_succ]
  refine wpAnyH_takeD (i := 4) (v := ?_) (some 27) rfl rfl (by kernel_rfl) (by kernel_rfl) (by kernel_rfl) (fun _ _ _ h => h) (Or.inl ⟨by rfl, ?_⟩) (by assumption) ?_
  rotate_left
  · intro w' hSw
    go_simp
    first | done | with_reducible rfl
  try simp only [Go.Act.put, List.setIfInBounds_toArray, List.set_cons_zero, List.set_cons_succ]
  refine wpAnyH_takeD (i := 5) (v := ?_) (some 28) rfl rfl (by kernel_rfl) (by kernel_rfl) (by kernel_rfl) (fun _ _ _ h => h) (Or.inl ⟨by rfl, ?_⟩) (by assumption) ?_
  rotate_left
  · intro w' hSw
    have k2 := (K2.out.fr hSw (fun h => h)).cell 2
    go_simp
    first | done | with_reducible rfl
  try simp only [Go.Act.put, List.setIfInBounds_toArray, List.set_cons_zero, List.set_cons_succ]
  refine wpAnyH_takeD (i := 6) (v := ?_) (some 29) rfl rfl (by kernel_rfl) (by kernel_rfl) (by kernel_rfl) (fun _ _ _ h => h) (Or.inl ⟨by rfl, ?_⟩) (by assumption) ?_
  rotate_left
  · intro w' hSw
    have hlk := HLK.out w' (F2.out.trans (hSw.mono (T := fun k => k = g) (fun _ _ h => h.elim)) (fun _ _ h => h))
    go_simp
    first | done | with_reducible rfl
  try simp only [Go.Act.put, List.setIfInBounds_toArray, List.set_cons_zero, List.set_cons_succ]
  refine wpAnyH_takeD (i := 7) (v := ?_) (some 30) rfl rfl (by kernel_rfl) (by kernel_rfl) (by kernel_rfl) (fun _ _ _ h => h) (Or.inl ⟨by rfl, ?_⟩) (by assumption) ?_
  rotate_left
  · intro w' hSw
    go_simp
    first | done | with_reducible rfl
  try simp only [Go.Act.put, List.setIfInBounds_toArray, List.set_cons_zero, List.set_cons_succ]
  refine wpAnyH_ready (rs := [8]) (by kernel_rfl) (by simp) ?_
  refine AllReadyH.cons rfl (fun K hK => ?_) AllReadyH.nil
  go_simp
  refine hK.out _ _ (hHeld.alloc _) (fun hHeld => ?_)
  clear hK K
  try change wpAnyH _ _ _ _ _ _ _ (Go.Act.put _ (some 4) _) _
  try simp only [Go.Act.put, List.setIfInBounds_toArray, List.set_cons_zero, List.set_cons_succ]
  refine wpAnyH_ready (rs := [9]) (by kernel_rfl) (by simp) ?_
  refine AllReadyH.cons rfl (fun K hK => ?_) AllReadyH.nil
  go_simp
  refine hK.out _ _ (((Fr.refl (fun _ => False) _).alloc _).drew) (fun hHeld => ?_)
  clear hK K
  try change wpAnyH _ _ _ _ _ _ _ (Go.Act.put _ none _) _
  try simp only [Go.Act.put, List.setIfInBounds_toArray, List.set_cons_zero, List.set_cons_succ]
  refine wpAnyH_done (by kernel_rfl) ?_ _
  clear HLK hfk
  obtain ⟨W3, hW3⟩ : ∃ W3, (W2.alloc (.cells #[.int .i64 tk, .int .i64 ti] 145)).drew = W3 := ⟨_, rfl⟩
  rw [hW3] at T3 hHeld ⊢
  have F3 : Hid (Fr (fun k => k = g) w W3) := Lib.hid ((FW1.out.trans F2.out (fun _ _ h => h)).trans (hHeld.mono (T := fun k => k = g) (fun _ _ h => h.elim)) (fun _ _ h => h))
  have B3 := Lib.hid (B2.out.fr hHeld (fun h => h))
  have K3 := Lib.hid (K2.out.fr hHeld (fun h => h))
  have MO3 := Lib.hid ((MO1.out.fr F2.out HNE.out.2.1).fr hHeld (fun h => h))
  have MU3 := Lib.hid ((MU1.out.fr F2.out HNE.out.2.2.1).fr hHeld (fun h => h))
  clear hW3 hHeld hgt MO1 MU1 F2 FW1 B2 K2
  have HDO : Hid (∀ w', Fr (fun _ => False) W3 w' → ∃ w1, (Builtin.delete_ #[114, 3] 0 #[.map (some bo), .int .i64 r]).run Tryd.prog w' = .ok (.tuple #[]) w1 ∧ MV w1 3 bo (Do.del (.int .i64 r)) ∧ Fr (fun x => x = bo) w' w1) := Lib.hid (fun w' hf =>
    (MO3.out.fr hf (fun h => h)).delete kInt tOpen (I64.key HI.out.2.1) 0)
  go_wp2_with fail
  refine wp_region_Z [6] ((fun w' => Fr (fun _ => False) W3 w')) (by kernel_rfl) ((Fr.refl _ _).drew) (fun hHeld => ?_)
  refine anyZ_pure (i := 0) (v := ?_) (some 31) rfl rfl (by kernel_rfl) (by kernel_rfl) (by kernel_rfl) (by kernel_rfl) (fun _ _ _ h => h) (Or.inl ⟨by rfl, ?_⟩) (fun _ => hHeld) ?_
  rotate_left
  · intro w' _
    go_simp
    first | done | with_reducible rfl
  try simp only [Go.Act.put, List.setIfInBounds_toArray, List.set_cons_zero, List.set_cons_succ]
  refine anyZ_pure (i := 1) (v := ?_) (some 32) rfl rfl (by kernel_rfl) (by kernel_rfl) (by kernel_rfl) (by kernel_rfl) (fun _ _ _ h => h) (Or.inl ⟨by rfl, ?_⟩) (fun _ => hHeld) ?_
  rotate_left
  · intro w' _
    go_simp
    first | done | with_reducible rfl
  try simp only [Go.Act.put, List.setIfInBounds_toArray, List.set_cons_zero, List.set_cons_succ]
  refine anyZ_pure (i := 2) (v := ?_) (some 33) rfl rfl (by kernel_rfl) (by kernel_rfl) (by kernel_rfl) (by kernel_rfl) (fun _ _ _ h => h) (Or.inl ⟨by rfl, ?_⟩) (fun _ => hHeld) ?_
  rotate_left
  · intro w' _
    go_simp
    first | done | with_reducible rfl
  try simp only [Go.Act.put, List.setIfInBounds_toArray, List.set_cons_zero, List.set_cons_succ]
  refine anyZ_read (i := 3) (v := ?_) (some 34) [6] rfl rfl (by kernel_rfl) (by kernel_rfl) (by kernel_rfl) (by kernel_rfl) (by kernel_rfl) (by kernel_rfl) (fun _ _ _ h => h) (Or.inl ⟨by rfl, ?_⟩) hHeld ?_
  rotate_left
  · intro w' hSw
    have b3 := (B3.out.fr hSw (fun h => h)).cell 3
    go_simp
    first | done | with_reducible rfl
  try simp only [Go.Act.put, List.setIfInBounds_toArray, List.set_cons_zero, List.set_cons_succ]
  refine anyZ_pure (i := 4) (v := ?_) (some 35) rfl rfl (by kernel_rfl) (by kernel_rfl) (by kernel_rfl) (by kernel_rfl) (fun _ _ _ h => h) (Or.inl ⟨by rfl, ?_⟩) (fun _ => hHeld) ?_
  rotate_left
  · intro w' _
    go_simp
    first | done | with_reducible rfl
  try simp only [Go.Act.put, List.setIfInBounds_toArray, List.set_cons_zero, List.set_cons_succ]
  refine anyZ_read (i := 5) (v := ?_) (some 36) [6] rfl rfl (by kernel_rfl) (by kernel_rfl) (by kernel_rfl) (by kernel_rfl) (by kernel_rfl) (by kernel_rfl) (fun _ _ _ h => h) (Or.inl ⟨by rfl, ?_⟩) hHeld ?_
  rotate_left
  · intro w' hSw
    have k2 := (K3.out.fr hSw (fun h => h)).cell 2
    go_simp
    first | done | with_reducible rfl
  try simp only [Go.Act.put, List.setIfInBounds_toArray, List.set_cons_zero, List.set_cons_succ]
  refine anyZ_ready (rs := [6]) (by kernel_rfl) (by simp) ?_
  refine AllZ.last rfl (by kernel_rfl) (fun K hK => ?_) AllZ.nil
  obtain ⟨w1, hrun, hm1, hf1⟩ := HDO.out _ hHeld
  go_simp
  have HM1 := Lib.hid hm1
  have HF1 := Lib.hid ((hHeld.mono (T := fun k => k = bo) (fun _ _ h => h.elim)).trans hf1 (fun _ _ h => h))
  clear hm1 hf1 hrun
  refine hK.out _ _ ?_
  clear hK K
  try change anyZ _ _ _ _ _ _ _ _ (Go.Act.put _ none _) _
  try simp only [Go.Act.put, List.setIfInBounds_toArray, List.set_cons_zero, List.set_cons_succ]
  refine anyZ_done (by kernel_rfl) ?_ _

  clear HDO MO3
  have B4 := Lib.hid (B3.out.fr HF1.out HNE.out.2.1.symm)
  have K4 := Lib.hid (K3.out.fr HF1.out HNE.out.2.2.2.2.1)
  have T4 := Lib.hid (T3.out.fr HF1.out HGT.out.2.2.1)
  have MU4 := Lib.hid (MU3.out.fr HF1.out HNE.out.2.2.2.1.symm)
  have F4 : Hid (Fr (BS g bo bu) w w1) := Lib.hid ((F3.out.mono (T := BS g bo bu) (fun _ _ h => .inl h)).trans HF1.out (fun _ _ h => .inr (.inl h)))
  clear HF1 B3 K3 T3 MU3 F3
  have k0 : w1.cell? ⟨g0, 0, none⟩ = some (.int .i64 k) := K4.out.cell 0
  by_cases ho : k = 2 ∨ k = 7 ∨ k = 12 ∨ k = 17
  · have k1 : w1.cell? ⟨g0, 1, none⟩ = some (.int .i64 a) := K4.out.cell 1
    have k2 : w1.cell? ⟨g0, 2, none⟩ = some (.int .i64 r) := K4.out.cell 2
    have k3 : w1.cell? ⟨g0, 3, none⟩ = some (.int .i64 i) := K4.out.cell 3
    have k4 : w1.cell? ⟨g0, 4, none⟩ = some (.int .i64 l) := K4.out.cell 4
    have k5 : w1.cell? ⟨g0, 5, none⟩ = some (.int .i64 m) := K4.out.cell 5
    have k6 : w1.cell? ⟨g0, 6, none⟩ = some (.slice A d.length c) := K4.out.cell 6
    have HO : Hid (opensK k = true) := Lib.hid ((opens_of k).2 ho)
    rcases ho with hk | hk | hk | hk
    all_goals
      first | (have d2 : (k == 2) = true := by (rw [hk]; rfl)) | (have d2 : (k == 2) = false := by (rw [hk]; rfl))
      first | (have d7 : (k == 7) = true := by (rw [hk]; rfl)) | (have d7 : (k == 7) = false := by (rw [hk]; rfl))
      first | (have d12 : (k == 12) = true := by (rw [hk]; rfl)) | (have d12 : (k == 12) = false := by (rw [hk]; rfl))
      first | (have d17 : (k == 17) = true := by (rw [hk]; rfl)) | (have d17 : (k == 17) = false := by (rw [hk]; rfl))
      clear hk
      go_wp2_with fail
      refine (CO.out _).mono ?_; rintro e w5 ⟨rfl, hf5⟩
      have HF5 := Lib.hid hf5
      clear hf5 CO k0 k1 k2 k3 k4 k5 k6 d2 d7 d12 d17
      have T5 := Lib.hid (T4.out.fr HF5.out (fun h => h))
      have q0 : w5.cell? ⟨gt, 0, none⟩ = some (.int .i64 tk) := T5.out.cell 0
      have q1 : w5.cell? ⟨gt, 1, none⟩ = some (.int .i64 ti) := T5.out.cell 1
      have z0 : w5.frozen? ⟨gt, 0, none⟩ = false := T5.out.frozen 0
      have z1 : w5.frozen? ⟨gt, 1, none⟩ = false := T5.out.frozen 1
      obtain ⟨W6, hW6⟩ : ∃ W6, (w5.setCell ⟨gt, 0, none⟩ (.int .i64 t1)).setCell ⟨gt, 1, none⟩ (.int .i64 t2) = W6 := ⟨_, rfl⟩
      have F6 : Hid (Fr (fun x => x = gt) w1 W6) := Lib.hid (by rw [← hW6]; exact Fr.setCell (S := fun k => k = gt) (p := ⟨gt, 1, none⟩) (Fr.setCell (S := fun k => k = gt) (p := ⟨gt, 0, none⟩) (HF5.out.mono (fun _ _ h => h.elim)) (fun _ => rfl) _) (fun _ => rfl) _)
      have T6 : Hid (Bk W6 gt 145 #[.int .i64 t1, .int .i64 t2]) := Lib.hid (by rw [← hW6]; exact (T5.out.set 0 (.int .i64 t1)).set 1 (.int .i64 t2))
      have B6 := Lib.hid (B4.out.fr F6.out (fun e => HGT.out.1 e.symm))
      have K6 := Lib.hid (K4.out.fr F6.out (fun e => HGT.out.2.1 e.symm))
      have MU6 := Lib.hid (MU4.out.fr F6.out (fun e => HGT.out.2.2.2.1 e.symm))
      have MO6 := Lib.hid (HM1.out.fr F6.out (fun e => HGT.out.2.2.1 e.symm))
      have HPU : Hid (∀ w', Fr (fun _ => False) W6 w' → ∃ w7, (Instr.mapUpdate 115 (.map (some bu)) (.agg #[.int .i64 t1, .int .i64 t2]) (.agg #[])).run Tryd.prog w' = .ok () w7 ∧ MV w7 145 bu (Du.put (th t1 t2) (.held (.agg #[]))) ∧ Fr (fun x => x = bu) w' w7) := Lib.hid (fun w' hf =>
        (MU6.out.fr hf (fun h => h)).update kThg tUsed (by have := HSZ.out.2.1; omega) (th_of HI.out.2.2.2.2.1 HI.out.2.2.2.2.2))
      go_wp2_with fail
      clear q0 q1 z0 z1 hW6
      refine wp_region_Z [6] ((fun w' => Fr (fun _ => False) W6 w')) (by kernel_rfl) ((Fr.refl _ _).drew) (fun hHeld => ?_)
      refine anyZ_pure (i := 0) (v := ?_) (some 49) rfl rfl (by kernel_rfl) (by kernel_rfl) (by kernel_rfl) (by kernel_rfl) (fun _ _ _ h => h) (Or.inl ⟨by rfl, ?_⟩) (fun _ => hHeld) ?_
      rotate_left
      · intro w' _
        go_simp
        first | done | with_reducible rfl
      try simp only [Go.Act.put, List.setIfInBounds_toArray, List.set_cons_zero, List.set_cons_succ]
      refine anyZ_pure (i := 1) (v := ?_) (some 50) rfl rfl (by kernel_rfl) (by kernel_rfl) (by kernel_rfl) (by kernel_rfl) (fun _ _ _ h => h) (Or.inl ⟨by rfl, ?_⟩) (fun _ => hHeld) ?_
      rotate_left
      · intro w' _
        go_simp
        first | done | with_reducible rfl
      try simp only [Go.Act.put, List.setIfInBounds_toArray, List.set_cons_zero, List.set_cons_succ]
      refine anyZ_pure (i := 2) (v := ?_) (some 51) rfl rfl (by kernel_rfl) (by kernel_rfl) (by kernel_rfl) (by kernel_rfl) (fun _ _ _ h => h) (Or.inl ⟨by rfl, ?_⟩) (fun _ => hHeld) ?_
      rotate_left
      · intro w' _
        go_simp
        first | done | with_reducible rfl
      try simp only [Go.Act.put, List.setIfInBounds_toArray, List.set_cons_zero, List.set_cons_succ]
      refine anyZ_read (i := 3) (v := ?_) (some 52) [6] rfl rfl (by kernel_rfl) (by kernel_rfl) (by kernel_rfl) (by kernel_rfl) (by kernel_rfl) (by kernel_rfl) (fun _ _ _ h => h) (Or.inl ⟨by rfl, ?_⟩) hHeld ?_
      rotate_left
      · intro w' hSw
        have b4 := (B6.out.fr hSw (fun h => h)).cell 4
        go_simp
        first | done | with_reducible rfl
      try simp only [Go.Act.put, List.setIfInBounds_toArray, List.set_cons_zero, List.set_cons_succ]
      refine anyZ_read (i := 4) (v := ?_) (some 53) [6] rfl rfl (by kernel_rfl) (by kernel_rfl) (by kernel_rfl) (by kernel_rfl) (by kernel_rfl) (by kernel_rfl) (fun _ _ _ h => h) (Or.inl ⟨by rfl, ?_⟩) hHeld ?_
      rotate_left
      · intro w' hSw
        have t0 := (T6.out.fr hSw (fun h => h)).cell 0; have t1 := (T6.out.fr hSw (fun h => h)).cell 1
        go_simp
        first | done | with_reducible rfl
      try simp only [Go.Act.put, List.setIfInBounds_toArray, List.set_cons_zero, List.set_cons_succ]
      refine anyZ_pure (i := 5) (v := ?_) (some 54) rfl rfl (by kernel_rfl) (by kernel_rfl) (by kernel_rfl) (by kernel_rfl) (fun _ _ _ h => h) (Or.inl ⟨by rfl, ?_⟩) (fun _ => hHeld) ?_
      rotate_left
      · intro w' _
        go_simp
        first | done | with_reducible rfl
      try simp only [Go.Act.put, List.setIfInBounds_toArray, List.set_cons_zero, List.set_cons_succ]
      refine anyZ_ready (rs := [6]) (by kernel_rfl) (by simp) ?_
      refine AllZ.last rfl (by kernel_rfl) (fun K hK => ?_) AllZ.nil
      obtain ⟨w2, hrun, hm2, hf2⟩ := HPU.out _ hHeld
      go_simp
      have HM2 := Lib.hid hm2
      have HF2 := Lib.hid ((hHeld.mono (T := fun k => k = bu) (fun _ _ h => h.elim)).trans hf2 (fun _ _ h => h))
      clear hm2 hf2 hrun
      refine hK.out _ _ ?_
      clear hK K
      try change anyZ _ _ _ _ _ _ _ _ (Go.Act.put _ none _) _
      try simp only [Go.Act.put, List.setIfInBounds_toArray, List.set_cons_zero, List.set_cons_succ]
      refine anyZ_done (by kernel_rfl) ?_ _
      clear HPU
      have HM7 := HM2
      have B7 := Lib.hid (B6.out.fr HF2.out HNE.out.2.2.1.symm)
      have K7 := Lib.hid (K6.out.fr HF2.out HNE.out.2.2.2.2.2)
      have T7 := Lib.hid (T6.out.fr HF2.out HGT.out.2.2.2.1)
      have MO7 := Lib.hid (MO6.out.fr HF2.out HNE.out.2.2.2.1)
      have HPO : Hid (∀ w', Fr (fun _ => False) w2 w' → ∃ w8, (Instr.mapUpdate 114 (.map (some bo)) (.int .i64 ((b.count : Int) + 1)) (.agg #[.int .i64 t1, .int .i64 t2, .int .i64 k])).run Tryd.prog w' = .ok () w8 ∧ MV w8 3 bo ((Do.del (.int .i64 r)).put (.int .i64 ((b.count : Int) + 1)) (.held (stV ⟨t1, t2, k⟩))) ∧ Fr (fun x => x = bo) w' w8) := Lib.hid (fun w' hf =>
        (MO7.out.fr hf (fun h => h)).update kInt tOpen HSZ.out.2.2 (I64.key ⟨by omega, by omega⟩) (val := stV ⟨t1, t2, k⟩))
      go_wp2_with fail
      refine wp_region_Z [12] ((fun w' => Fr (fun _ => False) w2 w')) (by kernel_rfl) ((Fr.refl _ _).drew) (fun hHeld => ?_)
      refine anyZ_pure (i := 0) (v := ?_) (some 55) rfl rfl (by kernel_rfl) (by kernel_rfl) (by kernel_rfl) (by kernel_rfl) (fun _ _ _ h => h) (Or.inl ⟨by rfl, ?_⟩) (fun _ => hHeld) ?_
      rotate_left
      · intro w' _
        go_simp
        first | done | with_reducible rfl
      try simp only [Go.Act.put, List.setIfInBounds_toArray, List.set_cons_zero, List.set_cons_succ]
      refine anyZ_pure (i := 1) (v := ?_) (some 56) rfl rfl (by kernel_rfl) (by kernel_rfl) (by kernel_rfl) (by kernel_rfl) (fun _ _ _ h => h) (Or.inl ⟨by rfl, ?_⟩) (fun _ => hHeld) ?_
      rotate_left
      · intro w' _
        go_simp
        first | done | with_reducible rfl
      try simp only [Go.Act.put, List.setIfInBounds_toArray, List.set_cons_zero, List.set_cons_succ]
      refine anyZ_pure (i := 2) (v := ?_) (some 57) rfl rfl (by kernel_rfl) (by kernel_rfl) (by kernel_rfl) (by kernel_rfl) (fun _ _ _ h => h) (Or.inl ⟨by rfl, ?_⟩) (fun _ => hHeld) ?_
      rotate_left
      · intro w' _
        go_simp
        first | done | with_reducible rfl
      try simp only [Go.Act.put, List.setIfInBounds_toArray, List.set_cons_zero, List.set_cons_succ]
      refine anyZ_read (i := 3) (v := ?_) (some 58) [12] rfl rfl (by kernel_rfl) (by kernel_rfl) (by kernel_rfl) (by kernel_rfl) (by kernel_rfl) (by kernel_rfl) (fun _ _ _ h => h) (Or.inl ⟨by rfl, ?_⟩) hHeld ?_
      rotate_left
      · intro w' hSw
        have b3 := (B7.out.fr hSw (fun h => h)).cell 3
        go_simp
        first | done | with_reducible rfl
      try simp only [Go.Act.put, List.setIfInBounds_toArray, List.set_cons_zero, List.set_cons_succ]
      refine anyZ_pure (i := 4) (v := ?_) (some 59) rfl rfl (by kernel_rfl) (by kernel_rfl) (by kernel_rfl) (by kernel_rfl) (fun _ _ _ h => h) (Or.inl ⟨by rfl, ?_⟩) (fun _ => hHeld) ?_
      rotate_left
      · intro w' _
        go_simp
        first | done | with_reducible rfl
      try simp only [Go.Act.put, List.setIfInBounds_toArray, List.set_cons_zero, List.set_cons_succ]
      refine anyZ_pure (i := 5) (v := ?_) (some 60) rfl rfl (by kernel_rfl) (by kernel_rfl) (by kernel_rfl) (by kernel_rfl) (fun _ _ _ h => h) (Or.inl ⟨by rfl, ?_⟩) (fun _ => hHeld) ?_
      rotate_left
      · intro w' _
        go_simp
        first | done | with_reducible rfl
      try simp only [Go.Act.put, List.setIfInBounds_toArray, List.set_cons_zero, List.set_cons_succ]
      refine anyZ_pure (i := 6) (v := ?_) (some 61) rfl rfl (by kernel_rfl) (by kernel_rfl) (by kernel_rfl) (by kernel_rfl) (fun _ _ _ h => h) (Or.inl ⟨by rfl, ?_⟩) (fun _ => hHeld) ?_
      rotate_left
      · intro w' _
        go_simp
        first | done | with_reducible rfl
      try simp only [Go.Act.put, List.setIfInBounds_toArray, List.set_cons_zero, List.set_cons_succ]
      refine anyZ_read (i := 7) (v := ?_) (some 62) [12] rfl rfl (by kernel_rfl) (by kernel_rfl) (by kernel_rfl) (by kernel_rfl) (by kernel_rfl) (by kernel_rfl) (fun _ _ _ h => h) (Or.inl ⟨by rfl, ?_⟩) hHeld ?_
      rotate_left
      · intro w' hSw
        have b0 := (B7.out.fr hSw (fun h => h)).cell 0
        go_simp
        first | done | with_reducible rfl
      try simp only [Go.Act.put, List.setIfInBounds_toArray, List.set_cons_zero, List.set_cons_succ]
      refine anyZ_read (i := 8) (v := ?_) (some 63) [11, 12] rfl rfl (by kernel_rfl) (by kernel_rfl) (by kernel_rfl) (by kernel_rfl) (by kernel_rfl) (by kernel_rfl) (fun _ _ _ h => h) (Or.inl ⟨by rfl, ?_⟩) hHeld ?_
      rotate_left
      · intro w' hSw
        have t0 := (T7.out.fr hSw (fun h => h)).cell 0; have t1 := (T7.out.fr hSw (fun h => h)).cell 1
        go_simp
        first | done | with_reducible rfl
      try simp only [Go.Act.put, List.setIfInBounds_toArray, List.set_cons_zero, List.set_cons_succ]
      refine anyZ_pure (i := 9) (v := ?_) (some 64) rfl rfl (by kernel_rfl) (by kernel_rfl) (by kernel_rfl) (by kernel_rfl) (fun _ _ _ h => h) (Or.inl ⟨by rfl, ?_⟩) (fun _ => hHeld) ?_
      rotate_left
      · intro w' _
        go_simp
        first | done | with_reducible rfl
      try simp only [Go.Act.put, List.setIfInBounds_toArray, List.set_cons_zero, List.set_cons_succ]
      refine anyZ_read (i := 10) (v := ?_) (some 65) [11, 12] rfl rfl (by kernel_rfl) (by kernel_rfl) (by kernel_rfl) (by kernel_rfl) (by kernel_rfl) (by kernel_rfl) (fun _ _ _ h => h) (Or.inl ⟨by rfl, ?_⟩) hHeld ?_
      rotate_left
      · intro w' hSw
        have k0 := (K7.out.fr hSw (fun h => h)).cell 0
        go_simp
        first | done | with_reducible rfl
      try simp only [Go.Act.put, List.setIfInBounds_toArray, List.set_cons_zero, List.set_cons_succ]
      refine anyZ_pure (i := 11) (v := ?_) (some 66) rfl rfl (by kernel_rfl) (by kernel_rfl) (by kernel_rfl) (by kernel_rfl) (fun _ _ _ h => h) (Or.inl ⟨by rfl, ?_⟩) (fun _ => hHeld) ?_
      rotate_left
      · intro w' _
        go_simp
        first | done | with_reducible rfl
      try simp only [Go.Act.put, List.setIfInBounds_toArray, List.set_cons_zero, List.set_cons_succ]
      refine anyZ_ready (rs := [12]) (by kernel_rfl) (by simp) ?_
      refine AllZ.last rfl (by kernel_rfl) (fun K hK => ?_) AllZ.nil
      obtain ⟨w3, hrun, hm3, hf3⟩ := HPO.out _ hHeld
      go_simp
      have HM3 := Lib.hid hm3
      have HF3 := Lib.hid ((hHeld.mono (T := fun k => k = bo) (fun _ _ h => h.elim)).trans hf3 (fun _ _ h => h))
      clear hm3 hf3 hrun
      refine hK.out _ _ ?_
      clear hK K
      try change anyZ _ _ _ _ _ _ _ _ (Go.Act.put _ none _) _
      try simp only [Go.Act.put, List.setIfInBounds_toArray, List.set_cons_zero, List.set_cons_succ]
      refine anyZ_done (by kernel_rfl) ?_ _

      clear HPO
      have FEND : Hid (Fr (BS g bo bu) w w3) := Lib.hid (((F4.out.trans F6.out (fun x hx e => by have := HGT.out.2.2.2.2; have e' : x = gt := e; omega)).trans HF2.out (fun _ _ e => .inr (.inr e))).trans HF3.out (fun _ _ e => .inr (.inl e)))
      have BEND := Lib.hid (B7.out.fr HF3.out HNE.out.2.1.symm)
      have MUEND := Lib.hid (HM2.out.fr HF3.out HNE.out.2.2.2.1.symm)
      go_wp2
      refine bodyPost_end (results_none rfl _ _ _) rfl ⟨rfl, HFIN.out _ _ _ BEND.out HM3.out MUEND.out ?_ ?_, FEND.out⟩
      · rw [if_pos HO.out]
      · rw [if_pos HO.out]
  · have HO : Hid (¬ opensK k = true) := Lib.hid (fun h => ho ((opens_of k).1 h))
    have T7 := T4
    have B7 := B4
    have K7 := K4
    have d2 : (k == 2) = false := by simp; omega
    have d7 : (k == 7) = false := by simp; omega
    have d12 : (k == 12) = false := by simp; omega
    have d17 : (k == 17) = false := by simp; omega
    clear ho CO T4 B4 K4
    by_cases h38 : k = 3 ∨ k = 8
    · have H38 := Lib.hid h38
      rcases h38 with hk | hk
      all_goals
        first | (have d3 : (k == 3) = true := by (rw [hk]; rfl)) | (have d3 : (k == 3) = false := by (rw [hk]; rfl))
        first | (have d8 : (k == 8) = true := by (rw [hk]; rfl)) | (have d8 : (k == 8) = false := by (rw [hk]; rfl))
        clear hk
        have HPO : Hid (∀ w', Fr (fun _ => False) w1 w' → ∃ w8, (Instr.mapUpdate 114 (.map (some bo)) (.int .i64 ((b.count : Int) + 1)) (.agg #[.int .i64 tk, .int .i64 ti, .int .i64 k])).run Tryd.prog w' = .ok () w8 ∧ MV w8 3 bo ((Do.del (.int .i64 r)).put (.int .i64 ((b.count : Int) + 1)) (.held (stV ⟨tk, ti, k⟩))) ∧ Fr (fun x => x = bo) w' w8) := Lib.hid (fun w' hf =>
          (HM1.out.fr hf (fun h => h)).update kInt tOpen HSZ.out.2.2 (I64.key ⟨by omega, by omega⟩) (val := stV ⟨tk, ti, k⟩))
        go_wp2_with fail
        clear k0 d2 d7 d12 d17 d3 d8
        refine wp_region_Z [12] ((fun w' => Fr (fun _ => False) w1 w')) (by kernel_rfl) ((Fr.refl _ _).drew) (fun hHeld => ?_)
        refine anyZ_pure (i := 0) (v := ?_) (some 55) rfl rfl (by kernel_rfl) (by kernel_rfl) (by kernel_rfl) (by kernel_rfl) (fun _ _ _ h => h) (Or.inl ⟨by rfl, ?_⟩) (fun _ => hHeld) ?_
        rotate_left
        · intro w' _
          go_simp
          first | done | with_reducible rfl
        try simp only [Go.Act.put, List.setIfInBounds_toArray, List.set_cons_zero, List.set_cons_succ]
        refine anyZ_pure (i := 1) (v := ?_) (some 56) rfl rfl (by kernel_rfl) (by kernel_rfl) (by kernel_rfl) (by kernel_rfl) (fun _ _ _ h => h) (Or.inl ⟨by rfl, ?_⟩) (fun _ => hHeld) ?_
        rotate_left
        · intro w' _
          go_simp
          first | done | with_reducible rfl
        try simp only [Go.Act.put, List.setIfInBounds_toArray, List.set_cons_zero, List.set_cons_succ]
        refine anyZ_pure (i := 2) (v := ?_) (some 57) rfl rfl (by kernel_rfl) (by kernel_rfl) (by kernel_rfl) (by kernel_rfl) (fun _ _ _ h => h) (Or.inl ⟨by rfl, ?_⟩) (fun _ => hHeld) ?_
        rotate_left
        · intro w' _
          go_simp
          first | done | with_reducible rfl
        try simp only [Go.Act.put, List.setIfInBounds_toArray, List.set_cons_zero, List.set_cons_succ]
        refine anyZ_read (i := 3) (v := ?_) (some 58) [12] rfl rfl (by kernel_rfl) (by kernel_rfl) (by kernel_rfl) (by kernel_rfl) (by kernel_rfl) (by kernel_rfl) (fun _ _ _ h => h) (Or.inl ⟨by rfl, ?_⟩) hHeld ?_
        rotate_left
        · intro w' hSw
          have b3 := (B7.out.fr hSw (fun h => h)).cell 3
          go_simp
          first | done | with_reducible rfl
        try simp only [Go.Act.put, List.setIfInBounds_toArray, List.set_cons_zero, List.set_cons_succ]
        refine anyZ_pure (i := 4) (v := ?_) (some 59) rfl rfl (by kernel_rfl) (by kernel_rfl) (by kernel_rfl) (by kernel_rfl) (fun _ _ _ h => h) (Or.inl ⟨by rfl, ?_⟩) (fun _ => hHeld) ?_
        rotate_left
        · intro w' _
          go_simp
          first | done | with_reducible rfl
        try simp only [Go.Act.put, List.setIfInBounds_toArray, List.set_cons_zero, List.set_cons_succ]
        refine anyZ_pure (i := 5) (v := ?_) (some 60) rfl rfl (by kernel_rfl) (by kernel_rfl) (by kernel_rfl) (by kernel_rfl) (fun _ _ _ h => h) (Or.inl ⟨by rfl, ?_⟩) (fun _ => hHeld) ?_
        rotate_left
        · intro w' _
          go_simp
          first | done | with_reducible rfl
        try simp only [Go.Act.put, List.setIfInBounds_toArray, List.set_cons_zero, List.set_cons_succ]
        refine anyZ_pure (i := 6) (v := ?_) (some 61) rfl rfl (by kernel_rfl) (by kernel_rfl) (by kernel_rfl) (by kernel_rfl) (fun _ _ _ h => h) (Or.inl ⟨by rfl, ?_⟩) (fun _ => hHeld) ?_
        rotate_left
        · intro w' _
          go_simp
          first | done | with_reducible rfl
        try simp only [Go.Act.put, List.setIfInBounds_toArray, List.set_cons_zero, List.set_cons_succ]
        refine anyZ_read (i := 7) (v := ?_) (some 62) [12] rfl rfl (by kernel_rfl) (by kernel_rfl) (by kernel_rfl) (by kernel_rfl) (by kernel_rfl) (by kernel_rfl) (fun _ _ _ h => h) (Or.inl ⟨by rfl, ?_⟩) hHeld ?_
        rotate_left
        · intro w' hSw
          have b0 := (B7.out.fr hSw (fun h => h)).cell 0
          go_simp
          first | done | with_reducible rfl
        try simp only [Go.Act.put, List.setIfInBounds_toArray, List.set_cons_zero, List.set_cons_succ]
        refine anyZ_read (i := 8) (v := ?_) (some 63) [11, 12] rfl rfl (by kernel_rfl) (by kernel_rfl) (by kernel_rfl) (by kernel_rfl) (by kernel_rfl) (by kernel_rfl) (fun _ _ _ h => h) (Or.inl ⟨by rfl, ?_⟩) hHeld ?_
        rotate_left
        · intro w' hSw
          have t0 := (T7.out.fr hSw (fun h => h)).cell 0; have t1 := (T7.out.fr hSw (fun h => h)).cell 1
          go_simp
          first | done | with_reducible rfl
        try simp only [Go.Act.put, List.setIfInBounds_toArray, List.set_cons_zero, List.set_cons_succ]
        refine anyZ_pure (i := 9) (v := ?_) (some 64) rfl rfl (by kernel_rfl) (by kernel_rfl) (by kernel_rfl) (by kernel_rfl) (fun _ _ _ h => h) (Or.inl ⟨by rfl, ?_⟩) (fun _ => hHeld) ?_
        rotate_left
        · intro w' _
          go_simp
          first | done | with_reducible rfl
        try simp only [Go.Act.put, List.setIfInBounds_toArray, List.set_cons_zero, List.set_cons_succ]
        refine anyZ_read (i := 10) (v := ?_) (some 65) [11, 12] rfl rfl (by kernel_rfl) (by kernel_rfl) (by kernel_rfl) (by kernel_rfl) (by kernel_rfl) (by kernel_rfl) (fun _ _ _ h => h) (Or.inl ⟨by rfl, ?_⟩) hHeld ?_
        rotate_left
        · intro w' hSw
          have k0 := (K7.out.fr hSw (fun h => h)).cell 0
          go_simp
          first | done | with_reducible rfl
        try simp only [Go.Act.put, List.setIfInBounds_toArray, List.set_cons_zero, List.set_cons_succ]
        refine anyZ_pure (i := 11) (v := ?_) (some 66) rfl rfl (by kernel_rfl) (by kernel_rfl) (by kernel_rfl) (by kernel_rfl) (fun _ _ _ h => h) (Or.inl ⟨by rfl, ?_⟩) (fun _ => hHeld) ?_
        rotate_left
        · intro w' _
          go_simp
          first | done | with_reducible rfl
        try simp only [Go.Act.put, List.setIfInBounds_toArray, List.set_cons_zero, List.set_cons_succ]
        refine anyZ_ready (rs := [12]) (by kernel_rfl) (by simp) ?_
        refine AllZ.last rfl (by kernel_rfl) (fun K hK => ?_) AllZ.nil
        obtain ⟨w3, hrun, hm3, hf3⟩ := HPO.out _ hHeld
        go_simp
        have HM3 := Lib.hid hm3
        have HF3 := Lib.hid ((hHeld.mono (T := fun k => k = bo) (fun _ _ h => h.elim)).trans hf3 (fun _ _ h => h))
        clear hm3 hf3 hrun
        refine hK.out _ _ ?_
        clear hK K
        try change anyZ _ _ _ _ _ _ _ _ (Go.Act.put _ none _) _
        try simp only [Go.Act.put, List.setIfInBounds_toArray, List.set_cons_zero, List.set_cons_succ]
        refine anyZ_done (by kernel_rfl) ?_ _

        clear HPO
        have FEND : Hid (Fr (BS g bo bu) w w3) := Lib.hid (F4.out.trans HF3.out (fun _ _ e => .inr (.inl e)))
        have BEND := Lib.hid (B7.out.fr HF3.out HNE.out.2.1.symm)
        have MUEND := Lib.hid (MU4.out.fr HF3.out HNE.out.2.2.2.1.symm)
        go_wp2
        refine bodyPost_end (results_none rfl _ _ _) rfl ⟨rfl, HFIN.out _ _ _ BEND.out HM3.out MUEND.out ?_ ?_, FEND.out⟩
        · rw [if_neg HO.out, if_pos H38.out]
        · rw [if_neg HO.out, if_pos H38.out]
    · have H38 := Lib.hid h38
      have d3 : (k == 3) = false := by simp; omega
      have d8 : (k == 8) = false := by simp; omega
      have HDU : Hid (∀ w', Fr (fun _ => False) w1 w' → ∃ w8, (Builtin.delete_ #[115, 145] 0 #[.map (some bu), .agg #[.int .i64 tk, .int .i64 ti]]).run Tryd.prog w' = .ok (.tuple #[]) w8 ∧ MV w8 145 bu (Du.del (th tk ti)) ∧ Fr (fun x => x = bu) w' w8) := Lib.hid (fun w' hf =>
        (MU4.out.fr hf (fun h => h)).delete kThg tUsed (th_of HI.out.2.2.1 HI.out.2.2.2.1) 0)
      clear h38
      go_wp2_with fail
      clear k0 d2 d7 d12 d17 d3 d8
      refine wp_region_Z [5] ((fun w' => Fr (fun _ => False) w1 w')) (by kernel_rfl) ((Fr.refl _ _).drew) (fun hHeld => ?_)
      refine anyZ_pure (i := 0) (v := ?_) (some 67) rfl rfl (by kernel_rfl) (by kernel_rfl) (by kernel_rfl) (by kernel_rfl) (fun _ _ _ h => h) (Or.inl ⟨by rfl, ?_⟩) (fun _ => hHeld) ?_
      rotate_left
      · intro w' _
        go_simp
        first | done | with_reducible rfl
      try simp only [Go.Act.put, List.setIfInBounds_toArray, List.set_cons_zero, List.set_cons_succ]
      refine anyZ_pure (i := 1) (v := ?_) (some 68) rfl rfl (by kernel_rfl) (by kernel_rfl) (by kernel_rfl) (by kernel_rfl) (fun _ _ _ h => h) (Or.inl ⟨by rfl, ?_⟩) (fun _ => hHeld) ?_
      rotate_left
      · intro w' _
        go_simp
        first | done | with_reducible rfl
      try simp only [Go.Act.put, List.setIfInBounds_toArray, List.set_cons_zero, List.set_cons_succ]
      refine anyZ_pure (i := 2) (v := ?_) (some 69) rfl rfl (by kernel_rfl) (by kernel_rfl) (by kernel_rfl) (by kernel_rfl) (fun _ _ _ h => h) (Or.inl ⟨by rfl, ?_⟩) (fun _ => hHeld) ?_
      rotate_left
      · intro w' _
        go_simp
        first | done | with_reducible rfl
      try simp only [Go.Act.put, List.setIfInBounds_toArray, List.set_cons_zero, List.set_cons_succ]
      refine anyZ_read (i := 3) (v := ?_) (some 70) [5] rfl rfl (by kernel_rfl) (by kernel_rfl) (by kernel_rfl) (by kernel_rfl) (by kernel_rfl) (by kernel_rfl) (fun _ _ _ h => h) (Or.inl ⟨by rfl, ?_⟩) hHeld ?_
      rotate_left
      · intro w' hSw
        have b4 := (B7.out.fr hSw (fun h => h)).cell 4
        go_simp
        first | done | with_reducible rfl
      try simp only [Go.Act.put, List.setIfInBounds_toArray, List.set_cons_zero, List.set_cons_succ]
      refine anyZ_read (i := 4) (v := ?_) (some 71) [5] rfl rfl (by kernel_rfl) (by kernel_rfl) (by kernel_rfl) (by kernel_rfl) (by kernel_rfl) (by kernel_rfl) (fun _ _ _ h => h) (Or.inl ⟨by rfl, ?_⟩) hHeld ?_
      rotate_left
      · intro w' hSw
        have t0 := (T7.out.fr hSw (fun h => h)).cell 0; have t1 := (T7.out.fr hSw (fun h => h)).cell 1
        go_simp
        first | done | with_reducible rfl
      try simp only [Go.Act.put, List.setIfInBounds_toArray, List.set_cons_zero, List.set_cons_succ]
      refine anyZ_ready (rs := [5]) (by kernel_rfl) (by simp) ?_
      refine AllZ.last rfl (by kernel_rfl) (fun K hK => ?_) AllZ.nil
      obtain ⟨w3, hrun, hm3, hf3⟩ := HDU.out _ hHeld
      go_simp
      have HM3 := Lib.hid hm3
      have HF3 := Lib.hid ((hHeld.mono (T := fun k => k = bu) (fun _ _ h => h.elim)).trans hf3 (fun _ _ h => h))
      clear hm3 hf3 hrun
      refine hK.out _ _ ?_
      clear hK K
      try change anyZ _ _ _ _ _ _ _ _ (Go.Act.put _ none _) _
      try simp only [Go.Act.put, List.setIfInBounds_toArray, List.set_cons_zero, List.set_cons_succ]
      refine anyZ_done (by kernel_rfl) ?_ _

      clear HDU
      have FEND : Hid (Fr (BS g bo bu) w w3) := Lib.hid (F4.out.trans HF3.out (fun _ _ e => .inr (.inr e)))
      have BEND := Lib.hid (B7.out.fr HF3.out HNE.out.2.2.1.symm)
      have MOEND := Lib.hid (HM1.out.fr HF3.out HNE.out.2.2.2.1)
      go_wp2
      refine bodyPost_end (results_none rfl _ _ _) rfl ⟨rfl, HFIN.out _ _ _ BEND.out MOEND.out HM3.out ?_ ?_, FEND.out⟩
      · rw [if_neg HO.out, if_neg H38.out]
      · rw [if_neg HO.out, if_neg H38.out]
end Go.Proofs.YtkinbcmnfpkncaaDoor
