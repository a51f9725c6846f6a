/- slices.Delete of one packet. -/
import Derived.Test.YtmlckocgahfnkaaNj
namespace Go.Proofs.Ytmlckocgahfnkaa
open Go.RowKit

theorem stepOf_append_run {P : Program} {ops : Array Oper} {o : Oper} {a : Go.Act} {w : World} {K' : Go.Act → World → Prop} {Q : Exit → Go.Act → World → Prop} {E : Prop} (hgd : o.guard = none) (s x : Operand) (t t' : TypeId)
    (ho : o.op = .call { callee := .builtin .append, args := #[s, x], argTypes := #[t, t'] }) (v u : Value) (hs : a.eval s = v) (hx : a.eval x = u) {v' : Value} {w' : World} (hr : (Builtin.append_ #[t, t'] o.type #[v, u]).run P w = .ok v' w') (hK : K' (a.put o.dst v') w') :
    if Region.wanted o (yielded ops a.tmps) = true then Oper.wp P o a w K' Q else E := by
  rw [if_pos (by simp [Region.wanted, hgd])]
  unfold Oper.wp execOp
  simp only [ho, resolve, invoke, builtin, Sem.run_bind, Sem.run_pure, Result.andThen_ok, List.map_toArray, List.map_cons, List.map_nil, hs, hx, hr]
  exact hK

theorem cut_row {cur : Array Value} {off k : Nat} {cs zs : List Value} (hc : ∀ j, j < cs.length → cur[off + j]? = cs[j]?) (hl : cs.length = (k + 1) * 4) {i : Nat} (hi : i ≤ k) (hfit : off + (k + 1) * 4 ≤ cur.size) :
    ∀ j, j < (cs.take (i * 4) ++ cs.drop ((i + 1) * 4)).length → (lay (lay cur (off + i * 4) (cs.drop ((i + 1) * 4))) (off + k * 4) zs)[off + j]? = (cs.take (i * 4) ++ cs.drop ((i + 1) * 4))[j]? := by
  intro j hj
  have hi4 : i * 4 ≤ k * 4 := Nat.mul_le_mul_right _ hi
  have e1 : (cs.take (i * 4)).length = i * 4 := by rw [List.length_take]; omega
  have e2 : (cs.drop ((i + 1) * 4)).length = k * 4 - i * 4 := by rw [List.length_drop]; omega
  simp only [List.length_append, e1, e2] at hj
  rw [lay_out _ _ _ _ (.inl (by omega))]
  by_cases h0 : j < i * 4
  · rw [lay_out _ _ _ _ (.inl (by omega)), hc j (by omega), List.getElem?_append_left (by omega), List.getElem?_take, if_pos h0]
  · rw [List.getElem?_append_right (by omega), e1, show off + j = off + i * 4 + (j - i * 4) by omega, lay_in _ _ _ _ (by omega) (by omega)]
theorem zero4 : (Builtin.zeroCells (Value.agg #[.int .i64 0, .int .i64 0, .int .i64 0, .nilFunc]).cells 1).toList = [.int .i64 0, .int .i64 0, .int .i64 0, .nilFunc] := by
  have e : List.range 4 = [0, 1, 2, 3] := by decide
  simp [Builtin.zeroCells, Value.cells, e]

set_option maxRecDepth 100000 in
set_option maxHeartbeats 4000000 in
theorem delete_last (b off i : Nat) (cs : List Value) (w : World) (h : Row w 67 4 (.slice (some ⟨b, off, none⟩) (i + 1) (i + 1)) (i + 1) cs) (h1 : ∀ u ∈ cs, u.oneCell' = true) (hn : i ≤ 1048576) :
    Calls Try.prog 47 #[.slice (some ⟨b, off, none⟩) (i + 1) (i + 1), .int .i64 (i : Int), .int .i64 ((i : Int) + 1)] w fun e w' =>
      e = .returned (.slice (some ⟨b, off, none⟩) i (i + 1)) ∧ Row w' 67 4 (.slice (some ⟨b, off, none⟩) i (i + 1)) i (cs.take (i * 4) ++ cs.drop ((i + 1) * 4)) ∧ Fr (fun x => x = b) w w' := by
  obtain ⟨hl, hh⟩ := h
  rcases hh with ⟨e, _⟩ | ⟨b', off', cap, cur, e, hb, hnc, hcm, hsz, hc⟩
  · cases e
  injection e with e1 _ e3
  injection e1 with e1
  injection e1 with e1 e4
  subst e1 e4
  subst e3
  unfold maxLen at hcm
  have hii : (i : Int) ≤ (i : Int) + 1 := by omega
  have hcm' : ((i + 1) : Int) ≤ 9223372036854775807 := by omega
  have hi0 : (0 : Int) ≤ (i : Int) := by omega
  have hk0 : (0 : Int) ≤ (i : Int) := by omega
  have hik : (i : Int) ≤ (i : Int) := by omega
  have hic : i ≤ (i + 1) := by omega
  have hkc : (i : Int) + 1 ≤ ((i + 1) : Int) := by omega
  have hne : ((i : Int) == (i : Int) + 1) = false := by rw [beq_eq_false_iff_ne]; omega
  have hne2 : ¬ ((i : Int) = (i : Int) + 1) := by omega
  have hb0 : (0 : Int) ≤ (i : Int) + 1 := by omega
  have htn : ((i : Int) + 1).toNat = i + 1 := by omega
  have htk : ((i : Int) + 1).toNat = i + 1 := by omega
  have hck2 : ¬ (i + 1 = i) := by omega
  have hi4 : i * 4 ≤ i * 4 := Nat.le_refl _
  have hroom4 : (i + 1) * 4 ≤ (i + 1) * 4 := Nat.mul_le_mul_right _ hnc
  have hd : (cs.drop ((i + 1) * 4)).length = 0 := by rw [List.length_drop, hl]; omega
  have ht : (cs.take (i * 4)).length = i * 4 := by rw [List.length_take, hl]; omega
  obtain ⟨i0, hi0', hz0, hzs, hzb⟩ := info_parts Try.teP.info
  have hb1 : Bk w.drew b 67 cur := hb.drew
  have hsl : Sl w.drew 4 (.slice (some ⟨b, off, none⟩) 0 0) 0 (cs.drop ((i + 1) * 4)) := by
    rw [List.eq_nil_of_length_eq_zero (l := cs.drop ((i + 1) * 4)) (by omega)]
    exact Sl.none
  have hap : ∀ ty, (Builtin.append_ #[57, 57] ty #[.slice (some ⟨b, off, none⟩) i (i + 1), .slice (some ⟨b, off, none⟩) 0 0]).run Try.prog w.drew = .ok (.slice (some ⟨b, off, none⟩) i (i + 1)) (w.drew.setCells b (off + i * 4) (cs.drop ((i + 1) * 4))) := fun ty => by
    have h2 := hsl.src (P := Try.prog) (tx := 57) Try.underlying57 (fun u hu => h1 u (List.mem_of_mem_drop hu))
    have h3 := run_append_room_src (P := Try.prog) w.drew 57 57 ty 67 i0 Try.underlying57 hi0' b off i (i + 1) _ 0 _ (by rw [hzs]; exact h2) (by omega) (fun j hj => hb1.there (by rw [hzs]; omega)) (fun j hj => hb1.frozen _)
    rw [hzs] at h3
    exact h3
  have hb2 := hb1.setCells (cs.drop ((i + 1) * 4)) (off + i * 4)
  have hcl : ∀ ty dc, (Builtin.clear_ #[57] ty #[.slice (some ⟨b, off + i * 4, none⟩) 1 dc]).run Try.prog (w.drew.setCells b (off + i * 4) (cs.drop ((i + 1) * 4))) = .ok (.tuple #[]) ((w.drew.setCells b (off + i * 4) (cs.drop ((i + 1) * 4))).setCells b (off + i * 4) [.int .i64 0, .int .i64 0, .int .i64 0, .nilFunc]) := fun ty dc => by
    have hz : (zeroValue 67).run Try.prog (w.drew.setCells b (off + i * 4) (cs.drop ((i + 1) * 4))) = .ok (.agg #[.int .i64 0, .int .i64 0, .int .i64 0, .nilFunc]) (w.drew.setCells b (off + i * 4) (cs.drop ((i + 1) * 4))) := by simp [go_sem]
    have hst := run_storeCells_cells (P := Try.prog) b (off + i * 4) [.int .i64 0, .int .i64 0, .int .i64 0, .nilFunc] 0 (w.drew.setCells b (off + i * 4) (cs.drop ((i + 1) * 4))) (fun j hj => hb2.there (by rw [lay_size]; simp at hj; omega)) (fun j hj => hb2.frozen _) (by intro v hv; simp at hv; rcases hv with rfl | rfl <;> rfl)
    simp only [Nat.add_zero] at hst
    simp [Builtin.clear_, run_underlying Try.underlying57, hz, zero4, hst]
  have HB2 := Lib.hid hb2
  have HC := Lib.hid hc
  have HD := Lib.hid (And.intro hd (And.intro ht hl))
  have HSZ := Lib.hid hsz
  clear hb hb1 hb2 hc hsl hd ht hl hz0 hzs hzb hi0' hsz hi4 hroom4
  go_enter Try.func47, Try.ntmps47
  go_wp2_with fail
  refine wp_region_Z [6] (fun w' => Fr (fun _ => False) w w') (by kernel_rfl) ((Fr.refl _ _).drew) (fun hHeld => ?_)
  refine anyZ_pure (i := 0) (v := ?_) (some 20) rfl rfl (by kernel_rfl) (by kernel_rfl) (by kernel_rfl) (by kernel_rfl) (fun _ _ _ h => h) (Or.inl ⟨by rfl, ?_⟩) (fun _ => hHeld) ?_
  rotate_left
  · intro w' _
    go_simp
    first | done | with_reducible rfl
  try simp only [Go.Act.put, List.setIfInBounds_toArray, List.set_cons_zero, List.set_cons_succ]
  refine anyZ_pure (i := 1) (v := ?_) (some 21) rfl rfl (by kernel_rfl) (by kernel_rfl) (by kernel_rfl) (by kernel_rfl) (fun _ _ _ h => h) (Or.inl ⟨by rfl, ?_⟩) (fun _ => hHeld) ?_
  rotate_left
  · intro w' _
    go_simp
    first | done | with_reducible rfl
  try simp only [Go.Act.put, List.setIfInBounds_toArray, List.set_cons_zero, List.set_cons_succ]
  refine anyZ_pure (i := 2) (v := ?_) (some 22) rfl rfl (by kernel_rfl) (by kernel_rfl) (by kernel_rfl) (by kernel_rfl) (fun _ _ _ h => h) (Or.inl ⟨by rfl, ?_⟩) (fun _ => hHeld) ?_
  rotate_left
  · intro w' _
    go_simp
    first | done | with_reducible rfl
  try simp only [Go.Act.put, List.setIfInBounds_toArray, List.set_cons_zero, List.set_cons_succ]
  refine anyZ_pure (i := 3) (v := ?_) (some 23) rfl rfl (by kernel_rfl) (by kernel_rfl) (by kernel_rfl) (by kernel_rfl) (fun _ _ _ h => h) (Or.inl ⟨by rfl, ?_⟩) (fun _ => hHeld) ?_
  rotate_left
  · intro w' _
    go_simp
    first | done | with_reducible rfl
  try simp only [Go.Act.put, List.setIfInBounds_toArray, List.set_cons_zero, List.set_cons_succ]
  refine anyZ_pure (i := 4) (v := ?_) (some 24) rfl rfl (by kernel_rfl) (by kernel_rfl) (by kernel_rfl) (by kernel_rfl) (fun _ _ _ h => h) (Or.inl ⟨by rfl, ?_⟩) (fun _ => hHeld) ?_
  rotate_left
  · intro w' _
    go_simp
    first | done | with_reducible rfl
  try simp only [Go.Act.put, List.setIfInBounds_toArray, List.set_cons_zero, List.set_cons_succ]
  refine anyZ_pure (i := 5) (v := ?_) (some 25) rfl rfl (by kernel_rfl) (by kernel_rfl) (by kernel_rfl) (by kernel_rfl) (fun _ _ _ h => h) (Or.inl ⟨by rfl, ?_⟩) (fun _ => hHeld) ?_
  rotate_left
  · intro w' _
    go_simp
    first | done | with_reducible rfl
  try simp only [Go.Act.put, List.setIfInBounds_toArray, List.set_cons_zero, List.set_cons_succ]
  refine anyZ_ready (rs := [6]) (by kernel_rfl) (by simp) ?_
  refine AllZ.last rfl (by kernel_rfl) (fun K hK => ?_) AllZ.nil
  refine stepOf_append_run rfl (.tmp 22) (.tmp 25) _ _ rfl _ _ rfl rfl (hap _) ?_
  refine hK.out _ _ ?_
  clear hK K
  try change anyZ _ _ _ _ _ _ _ _ (Go.Act.put _ (some 26) _) _
  try simp only [Go.Act.put, List.setIfInBounds_toArray, List.set_cons_zero, List.set_cons_succ]
  refine anyZ_pure (i := 7) (v := ?_) (some 0) rfl rfl (by kernel_rfl) (by kernel_rfl) (by kernel_rfl) (by kernel_rfl) (fun _ _ _ h => h) (Or.inl ⟨by rfl, ?_⟩) (notYet (by kernel_rfl)) ?_
  rotate_left
  · intro w' _
    go_simp
    first | done | with_reducible rfl
  try simp only [Go.Act.put, List.setIfInBounds_toArray, List.set_cons_zero, List.set_cons_succ]
  refine anyZ_done (by kernel_rfl) ?_ _
  clear hHeld
  go_wp2
  go_ret
  refine ⟨rfl, ⟨?_, .inr ⟨b, off, (i + 1), _, rfl, HB2.out.setCells _ _, by omega, by unfold maxLen; omega, by rw [lay_size, lay_size]; exact HSZ.out, cut_row HC.out HD.out.2.2 (Nat.le_refl i) (by have := HSZ.out; omega)⟩⟩, Fr.setCells _ _ (Fr.setCells _ _ (Fr.refl _ _).drew (fun _ => rfl)) (fun _ => rfl)⟩
  simp only [List.length_append, HD.out.1, HD.out.2.1]
  omega

set_option maxRecDepth 100000 in
set_option maxHeartbeats 4000000 in
theorem delete_more (b off k c i : Nat) (cs : List Value) (w : World) (h : Row w 67 4 (.slice (some ⟨b, off, none⟩) (k + 1) c) (k + 1) cs) (hi : i ≤ k) (h1 : ∀ u ∈ cs, u.oneCell' = true) (hn : k ≤ 1048576) (hck : ¬ (c = i + 1)) :
    Calls Try.prog 47 #[.slice (some ⟨b, off, none⟩) (k + 1) c, .int .i64 (i : Int), .int .i64 ((i : Int) + 1)] w fun e w' =>
      e = .returned (.slice (some ⟨b, off, none⟩) k c) ∧ Row w' 67 4 (.slice (some ⟨b, off, none⟩) k c) k (cs.take (i * 4) ++ cs.drop ((i + 1) * 4)) ∧ Fr (fun x => x = b) w w' := by
  obtain ⟨hl, hh⟩ := h
  rcases hh with ⟨e, _⟩ | ⟨b', off', cap, cur, e, hb, hnc, hcm, hsz, hc⟩
  · cases e
  injection e with e1 _ e3
  injection e1 with e1
  injection e1 with e1 e4
  subst e1 e4 e3
  unfold maxLen at hcm
  have hii : (i : Int) ≤ (i : Int) + 1 := by omega
  have hcm' : (c : Int) ≤ 9223372036854775807 := by omega
  have hi0 : (0 : Int) ≤ (i : Int) := by omega
  have hk0 : (0 : Int) ≤ (k : Int) := by omega
  have hik : (i : Int) ≤ (k : Int) := by omega
  have hic : i ≤ c := by omega
  have hkc : (k : Int) + 1 ≤ (c : Int) := by omega
  have hne : ((i : Int) == (i : Int) + 1) = false := by rw [beq_eq_false_iff_ne]; omega
  have hne2 : ¬ ((i : Int) = (i : Int) + 1) := by omega
  have hb0 : (0 : Int) ≤ (i : Int) + 1 := by omega
  have htn : ((i : Int) + 1).toNat = i + 1 := by omega
  have htk : ((k : Int) + 1).toNat = k + 1 := by omega
  have hck2 : ¬ (c = k) := by omega
  have hci : ¬ (c = i) := by omega
  have hi4 : i * 4 ≤ k * 4 := Nat.mul_le_mul_right _ hi
  have hroom4 : (k + 1) * 4 ≤ c * 4 := Nat.mul_le_mul_right _ hnc
  have hd : (cs.drop ((i + 1) * 4)).length = (k - i) * 4 := by rw [List.length_drop, hl]; omega
  have ht : (cs.take (i * 4)).length = i * 4 := by rw [List.length_take, hl]; omega
  obtain ⟨i0, hi0', hz0, hzs, hzb⟩ := info_parts Try.teP.info
  have hb1 : Bk w.drew b 67 cur := hb.drew
  have hsl : Sl w.drew 4 (.slice (some ⟨b, off + (i + 1) * 4, none⟩) (k - i) (c - (i + 1))) (k - i) (cs.drop ((i + 1) * 4)) := by
    refine Sl.at rfl hd (fun j u hu => ?_)
    rw [List.getElem?_drop] at hu
    rw [hb1.cell, Nat.add_assoc, hc _ (List.getElem?_eq_some_iff.1 hu).1, hu]
  have hap : ∀ ty, (Builtin.append_ #[57, 57] ty #[.slice (some ⟨b, off, none⟩) i c, .slice (some ⟨b, off + (i + 1) * 4, none⟩) (k - i) (c - (i + 1))]).run Try.prog w.drew = .ok (.slice (some ⟨b, off, none⟩) k c) (w.drew.setCells b (off + i * 4) (cs.drop ((i + 1) * 4))) := fun ty => by
    have h2 := hsl.src (P := Try.prog) (tx := 57) Try.underlying57 (fun u hu => h1 u (List.mem_of_mem_drop hu))
    have h3 := run_append_room_src (P := Try.prog) w.drew 57 57 ty 67 i0 Try.underlying57 hi0' b off i c _ (k - i) _ (by rw [hzs]; exact h2) (by omega) (fun j hj => hb1.there (by rw [hzs]; omega)) (fun j hj => hb1.frozen _)
    rw [hzs, show i + (k - i) = k by omega] at h3
    exact h3
  have hb2 := hb1.setCells (cs.drop ((i + 1) * 4)) (off + i * 4)
  have hcl : ∀ ty dc, (Builtin.clear_ #[57] ty #[.slice (some ⟨b, off + k * 4, none⟩) 1 dc]).run Try.prog (w.drew.setCells b (off + i * 4) (cs.drop ((i + 1) * 4))) = .ok (.tuple #[]) ((w.drew.setCells b (off + i * 4) (cs.drop ((i + 1) * 4))).setCells b (off + k * 4) [.int .i64 0, .int .i64 0, .int .i64 0, .nilFunc]) := fun ty dc => by
    have hz : (zeroValue 67).run Try.prog (w.drew.setCells b (off + i * 4) (cs.drop ((i + 1) * 4))) = .ok (.agg #[.int .i64 0, .int .i64 0, .int .i64 0, .nilFunc]) (w.drew.setCells b (off + i * 4) (cs.drop ((i + 1) * 4))) := by simp [go_sem]
    have hst := run_storeCells_cells (P := Try.prog) b (off + k * 4) [.int .i64 0, .int .i64 0, .int .i64 0, .nilFunc] 0 (w.drew.setCells b (off + i * 4) (cs.drop ((i + 1) * 4))) (fun j hj => hb2.there (by rw [lay_size]; simp at hj; omega)) (fun j hj => hb2.frozen _) (by intro v hv; simp at hv; rcases hv with rfl | rfl <;> rfl)
    simp only [Nat.add_zero] at hst
    simp [Builtin.clear_, run_underlying Try.underlying57, hz, zero4, hst]
  have HB2 := Lib.hid hb2
  have HC := Lib.hid hc
  have HD := Lib.hid (And.intro hd (And.intro ht hl))
  have HSZ := Lib.hid hsz
  clear hb hb1 hb2 hc hsl hd ht hl hz0 hzs hzb hi0' hsz hi4 hroom4
  go_enter Try.func47, Try.ntmps47
  go_wp2_with fail
  refine wp_region_Z [6] (fun w' => Fr (fun _ => False) w w') (by kernel_rfl) ((Fr.refl _ _).drew) (fun hHeld => ?_)
  refine anyZ_pure (i := 0) (v := ?_) (some 20) rfl rfl (by kernel_rfl) (by kernel_rfl) (by kernel_rfl) (by kernel_rfl) (fun _ _ _ h => h) (Or.inl ⟨by rfl, ?_⟩) (fun _ => hHeld) ?_
  rotate_left
  · intro w' _
    go_simp
    first | done | with_reducible rfl
  try simp only [Go.Act.put, List.setIfInBounds_toArray, List.set_cons_zero, List.set_cons_succ]
  refine anyZ_pure (i := 1) (v := ?_) (some 21) rfl rfl (by kernel_rfl) (by kernel_rfl) (by kernel_rfl) (by kernel_rfl) (fun _ _ _ h => h) (Or.inl ⟨by rfl, ?_⟩) (fun _ => hHeld) ?_
  rotate_left
  · intro w' _
    go_simp
    first | done | with_reducible rfl
  try simp only [Go.Act.put, List.setIfInBounds_toArray, List.set_cons_zero, List.set_cons_succ]
  refine anyZ_pure (i := 2) (v := ?_) (some 22) rfl rfl (by kernel_rfl) (by kernel_rfl) (by kernel_rfl) (by kernel_rfl) (fun _ _ _ h => h) (Or.inl ⟨by rfl, ?_⟩) (fun _ => hHeld) ?_
  rotate_left
  · intro w' _
    go_simp
    first | done | with_reducible rfl
  try simp only [Go.Act.put, List.setIfInBounds_toArray, List.set_cons_zero, List.set_cons_succ]
  refine anyZ_pure (i := 3) (v := ?_) (some 23) rfl rfl (by kernel_rfl) (by kernel_rfl) (by kernel_rfl) (by kernel_rfl) (fun _ _ _ h => h) (Or.inl ⟨by rfl, ?_⟩) (fun _ => hHeld) ?_
  rotate_left
  · intro w' _
    go_simp
    first | done | with_reducible rfl
  try simp only [Go.Act.put, List.setIfInBounds_toArray, List.set_cons_zero, List.set_cons_succ]
  refine anyZ_pure (i := 4) (v := ?_) (some 24) rfl rfl (by kernel_rfl) (by kernel_rfl) (by kernel_rfl) (by kernel_rfl) (fun _ _ _ h => h) (Or.inl ⟨by rfl, ?_⟩) (fun _ => hHeld) ?_
  rotate_left
  · intro w' _
    go_simp
    first | done | with_reducible rfl
  try simp only [Go.Act.put, List.setIfInBounds_toArray, List.set_cons_zero, List.set_cons_succ]
  refine anyZ_pure (i := 5) (v := ?_) (some 25) rfl rfl (by kernel_rfl) (by kernel_rfl) (by kernel_rfl) (by kernel_rfl) (fun _ _ _ h => h) (Or.inl ⟨by rfl, ?_⟩) (fun _ => hHeld) ?_
  rotate_left
  · intro w' _
    go_simp
    first | done | with_reducible rfl
  try simp only [Go.Act.put, List.setIfInBounds_toArray, List.set_cons_zero, List.set_cons_succ]
  refine anyZ_ready (rs := [6]) (by kernel_rfl) (by simp) ?_
  refine AllZ.last rfl (by kernel_rfl) (fun K hK => ?_) AllZ.nil
  refine stepOf_append_run rfl (.tmp 22) (.tmp 25) _ _ rfl _ _ rfl rfl (hap _) ?_
  refine hK.out _ _ ?_
  clear hK K
  try change anyZ _ _ _ _ _ _ _ _ (Go.Act.put _ (some 26) _) _
  try simp only [Go.Act.put, List.setIfInBounds_toArray, List.set_cons_zero, List.set_cons_succ]
  refine anyZ_pure (i := 7) (v := ?_) (some 0) rfl rfl (by kernel_rfl) (by kernel_rfl) (by kernel_rfl) (by kernel_rfl) (fun _ _ _ h => h) (Or.inl ⟨by rfl, ?_⟩) (notYet (by kernel_rfl)) ?_
  rotate_left
  · intro w' _
    go_simp
    first | done | with_reducible rfl
  try simp only [Go.Act.put, List.setIfInBounds_toArray, List.set_cons_zero, List.set_cons_succ]
  refine anyZ_done (by kernel_rfl) ?_ _
  clear hHeld
  go_wp2
  go_ret
  refine ⟨rfl, ⟨?_, .inr ⟨b, off, c, _, rfl, HB2.out.setCells _ _, by omega, by unfold maxLen; omega, by rw [lay_size, lay_size]; exact HSZ.out, cut_row HC.out HD.out.2.2 hi (by have := HSZ.out; omega)⟩⟩, Fr.setCells _ _ (Fr.setCells _ _ (Fr.refl _ _).drew (fun _ => rfl)) (fun _ => rfl)⟩
  simp only [List.length_append, HD.out.1, HD.out.2.1]
  omega

theorem delete_any (b off k c i : Nat) (cs : List Value) (w : World) (h : Row w 67 4 (.slice (some ⟨b, off, none⟩) (k + 1) c) (k + 1) cs) (hi : i ≤ k) (h1 : ∀ u ∈ cs, u.oneCell' = true) (hn : k ≤ 1048576) :
    Calls Try.prog 47 #[.slice (some ⟨b, off, none⟩) (k + 1) c, .int .i64 (i : Int), .int .i64 ((i : Int) + 1)] w fun e w' =>
      e = .returned (.slice (some ⟨b, off, none⟩) k c) ∧ Row w' 67 4 (.slice (some ⟨b, off, none⟩) k c) k (cs.take (i * 4) ++ cs.drop ((i + 1) * 4)) ∧ Fr (fun x => x = b) w w' := by
  by_cases e : c = i + 1
  · obtain rfl : k = i := by
      obtain ⟨A, c', e1, e2, _⟩ := h.form
      injection e1 with _ _ e1
      omega
    subst e
    exact delete_last b off k cs w h h1 hn
  · exact delete_more b off k c i cs w h hi h1 hn e
end Go.Proofs.Ytmlckocgahfnkaa
