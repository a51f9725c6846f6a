/- slices.Insert of one packet: what is behind it moves up in place, or a new row is made; at the end it is an append. -/
import Derived.Test.YtmlckocgahfnkaaNg
import Derived.Lib.Overlaps
import Derived.Laws.Externs
import Derived.Shelf.RegionOpenPlain
namespace Go.Proofs.Ytmlckocgahfnkaa
open Go.RowKit

theorem Bk.shape {w : World} {g : Nat} {t : TypeId} {cs : Array Value} (h : Bk w g t cs) : w.shape? g = some (t, cs.size) := by
  unfold Bk at h; unfold World.shape?; rw [h]
theorem lay_row {cur : Array Value} {off n : Nat} {cs : List Value} (hc : ∀ j, j < cs.length → cur[off + j]? = cs[j]?) (hl : cs.length = n * 4) {i : Nat} (hi : i ≤ n) {xs : List Value} (hx : xs.length = 4) (hfit : off + (n + 1) * 4 ≤ cur.size) :
    ∀ j, j < (cs.take (i * 4) ++ (xs ++ cs.drop (i * 4))).length → (lay (lay cur (off + (i + 1) * 4) (cs.drop (i * 4))) (off + i * 4) xs)[off + j]? = (cs.take (i * 4) ++ (xs ++ cs.drop (i * 4)))[j]? := by
  intro j hj
  have hi4 : i * 4 ≤ n * 4 := Nat.mul_le_mul_right _ hi
  have e1 : (cs.take (i * 4)).length = i * 4 := by rw [List.length_take]; omega
  have e2 : (cs.drop (i * 4)).length = n * 4 - i * 4 := by rw [List.length_drop]; omega
  simp only [List.length_append, e1, e2, hx] at hj
  by_cases h0 : j < i * 4
  · rw [lay_out _ _ _ _ (.inl (by omega)), lay_out _ _ _ _ (.inl (by omega)), hc j (by omega), List.getElem?_append_left (by omega), List.getElem?_take, if_pos h0]
  · by_cases h1 : j < i * 4 + 4
    · rw [List.getElem?_append_right (by omega), List.getElem?_append_left (by omega), e1]
      rw [show off + j = off + i * 4 + (j - i * 4) by omega, lay_in _ _ _ _ (by omega) (by rw [lay_size]; omega)]
    · rw [lay_out _ _ _ _ (.inr (by omega)), List.getElem?_append_right (by omega), List.getElem?_append_right (by omega), e1, hx]
      rw [show off + j = off + (i + 1) * 4 + (j - i * 4 - 4) by omega, lay_in _ _ _ _ (by omega) (by omega)]

set_option maxRecDepth 100000 in
set_option maxHeartbeats 4000000 in
theorem insert_end (b off n c xb : Nat) (cs xs : List Value) (w : World) (h : Row w 67 4 (.slice (some ⟨b, off, none⟩) n c) n cs) (hx : xs.length = 4) (hxs : ∀ j u, xs[j]? = some u → w.cell? ⟨xb, 0 + j, none⟩ = some u) (h1 : ∀ u ∈ xs, u.oneCell' = true) (hn : n ≤ 1048576) :
    Calls Try.prog 37 #[.slice (some ⟨b, off, none⟩) n c, .int .i64 (n : Int), .slice (some ⟨xb, 0, none⟩) 1 1] w fun e w' =>
      ∃ A' c', e = .returned (.slice A' (n + 1) c') ∧ Row w' 67 4 (.slice A' (n + 1) c') (n + 1) (cs ++ xs) ∧ Fr (fun k => k = b) w w' ∧ Moved w (.slice (some ⟨b, off, none⟩) n c) (.slice A' (n + 1) c') := by
  have hsl : Sl w 4 (.slice (some ⟨xb, 0, none⟩) 1 1) 1 xs := Sl.at rfl (by omega) hxs
  have hn0 : (0 : Int) ≤ (n : Int) := by omega
  obtain ⟨A0, c0, e0, hnc, hcm, _⟩ := h.form
  injection e0 with eA _ e0
  subst eA e0
  unfold maxLen at hcm
  have hcm' : (c : Int) ≤ 9223372036854775807 := by omega
  by_cases hcn : c = n
  · go_enter Try.func37, Try.ntmps37
    go_wp2_with (at_builtin; (refine wpList_appendR Try.teP rfl (.tmp 23) (.tmp 24) rfl (.slice (some ⟨b, off, none⟩) n c) n cs rfl h _ 1 xs rfl hsl h1 (by unfold maxLen; omega) (by omega) ?_; intro A' c' w' hr hf hm; have HR := Lib.hid hr; have HF := Lib.hid hf; have HM := Lib.hid hm; clear hr hf hm))
    go_ret
    exact ⟨A', c', rfl, HR.out, HF.out.mono (fun x _ e => by have : b = x := by simpa [Value.ownBlock] using e
                                                             exact this.symm), HM.out⟩
  · have hcn' : ¬ (c = n) := hcn
    go_enter Try.func37, Try.ntmps37
    go_wp2_with (at_builtin; (refine wpList_appendR Try.teP rfl (.tmp 23) (.tmp 24) rfl (.slice (some ⟨b, off, none⟩) n c) n cs rfl h _ 1 xs rfl hsl h1 (by unfold maxLen; omega) (by omega) ?_; intro A' c' w' hr hf hm; have HR := Lib.hid hr; have HF := Lib.hid hf; have HM := Lib.hid hm; clear hr hf hm))
    go_ret
    exact ⟨A', c', rfl, HR.out, HF.out.mono (fun x _ e => by have : b = x := by simpa [Value.ownBlock] using e
                                                             exact this.symm), HM.out⟩

set_option maxRecDepth 100000 in
set_option maxHeartbeats 4000000 in
theorem insert_shift (b off n c i xb : Nat) (cs xs : List Value) (w : World) (h : Row w 67 4 (.slice (some ⟨b, off, none⟩) n c) n cs) (hi : i < n) (hx : xs.length = 4) (hxb : xb ≠ b) (hxk : Bk w xb 67 xs.toArray) (h1 : ∀ u ∈ cs, u.oneCell' = true) (h2 : ∀ u ∈ xs, u.oneCell' = true) (hn : n ≤ 1048576) (hroom : n + 1 ≤ c) :
    Calls Try.prog 37 #[.slice (some ⟨b, off, none⟩) n c, .int .i64 (i : Int), .slice (some ⟨xb, 0, none⟩) 1 1] w fun e w' =>
      e = .returned (.slice (some ⟨b, off, none⟩) (n + 1) c) ∧ Row w' 67 4 (.slice (some ⟨b, off, none⟩) (n + 1) c) (n + 1) (cs.take (i * 4) ++ (xs ++ cs.drop (i * 4))) ∧ Fr (fun k => k = b) w w' := by
  obtain ⟨hl, hh⟩ := h
  rcases hh with ⟨e, _⟩ | ⟨b', off', cap, cur, e, hb, hnc, hcm, hsz, hc⟩
  · cases e
  injection e with e1 _ e3
  injection e1 with e1
  injection e1 with e1 e4
  subst e1 e4 e3
  unfold maxLen at hcm
  have hcm' : (c : Int) ≤ 9223372036854775807 := by omega
  have hn0 : (0 : Int) ≤ (n : Int) := by omega
  have hi0 : (0 : Int) ≤ (i : Int) := by omega
  have hz2 : ¬ ((i : Int) = (n : Int)) := by omega
  have hz3 : decide ((c : Int) < (n : Int) + 1) = false := by simp; omega
  have htn : ((i : Int) + 1).toNat = i + 1 := by omega
  have htm : ((n : Int) + 1).toNat = n + 1 := by omega
  have hin : (i : Int) ≤ (n : Int) := by omega
  have hin1 : (i : Int) ≤ (n : Int) + 1 := by omega
  have hw1 : IntKind.i64.wrap ((i : Int) + 1) = (i : Int) + 1 := by rw [IntKind.wrap_i64]; omega
  have hb0 : (0 : Int) ≤ (i : Int) + 1 := by omega
  have hb2 : ¬ (c = i + 1) := by omega
  have hb4 : ¬ (c = i) := by omega
  have mixed : Try.prog.follows .mixedOrders = true := by kernel_rfl
  have hov : ∀ lb cb, (callFunc 45 #[.slice (some ⟨xb, 0, none⟩) 1 1, .slice (some ⟨b, off + (i + 1) * 4, none⟩) lb cb]).run Try.prog w = .ok (.value (.bool false)) w := fun lb cb => by
    rw [run_callFunc_extern Try.func45 (by kernel_rfl) (by kernel_rfl) (by kernel_rfl) (e := Extern.SlicesOverlaps.overlaps #[57, 57] #[4]) (by kernel_rfl),
      Lib.run_overlaps_apart w 57 4 67 Try.underlying57 4 (fun w => by kernel_rfl) ⟨xb, 0, none⟩ ⟨b, off + (i + 1) * 4, none⟩ 1 1 lb cb hxb 67 67 4 cur.size (by have := hxk.shape; simpa [hx] using this) hb.shape (by omega) (hxk.frozen 0) (hxk.frozen _)]
    rfl
  have hi4 : i * 4 ≤ n * 4 := Nat.mul_le_mul_right _ (by omega)
  have hroom4 : (n + 1) * 4 ≤ c * 4 := Nat.mul_le_mul_right _ hroom
  have hd : (cs.drop (i * 4)).length = (n - i) * 4 := by rw [List.length_drop, hl]; omega
  have hcut : ∀ (W : World), Bk W b 67 cur → ∀ j u, (cs.drop (i * 4))[j]? = some u → W.cell? ⟨b, off + i * 4 + j, none⟩ = some u := fun W hW j u hu => by
    rw [List.getElem?_drop] at hu
    rw [hW.cell, Nat.add_assoc, hc _ (List.getElem?_eq_some_iff.1 hu).1, hu]
  have hb1 : Bk w.drew b 67 cur := hb.drew
  have hb2' := hb1.setCells (cs.drop (i * 4)) (off + (i + 1) * 4)
  have hxk2 : Bk (w.drew.setCells b (off + (i + 1) * 4) (cs.drop (i * 4))) xb 67 xs.toArray := hxk.drew.fr (Fr.setCells (g := b) (S := fun k => k = b) _ _ (Fr.refl _ _) (fun _ => rfl)) hxb
  have hcp2 : ∀ ty dc sc, (Builtin.copy_ #[57, 57] ty #[.slice (some ⟨b, off + i * 4, none⟩) (n + 1 - i) dc, .slice (some ⟨xb, 0, none⟩) 1 sc]).run Try.prog (w.drew.setCells b (off + (i + 1) * 4) (cs.drop (i * 4))) = .ok (goInt 1) ((w.drew.setCells b (off + (i + 1) * 4) (cs.drop (i * 4))).setCells b (off + i * 4) xs) := fun ty dc sc =>
    run_copyR Try.teP ty hb2' (m := 1) (by simp only [Nat.min_def]; split <;> omega) (by omega) (fun _ => ⟨xb, 0, rfl, fun j u hu => by rw [Nat.zero_add, hxk2.cell]; simpa using hu⟩) h2 (by rw [lay_size]; omega)
  have HB := Lib.hid hb
  have HB1 := Lib.hid hb1
  have HB2 := Lib.hid hb2'
  have HXK := Lib.hid hxk2
  have HC := Lib.hid hc
  clear hb hb1 hb2' hxk hxk2 hc
  go_enter Try.func37, Try.ntmps37
  go_wp2_with (simp only [hov])
  refine wp_region_Z [8] (fun w' => Fr (fun _ => False) w w') (by kernel_rfl) ((Fr.refl _ _).drew) (fun hHeld => ?_)
  refine anyZ_pure (i := 0) (v := ?_) (some 69) rfl rfl (by kernel_rfl) (by kernel_rfl) (by kernel_rfl) (by kernel_rfl) (fun _ _ _ h => h) (Or.inl ⟨by rfl, ?_⟩) (fun _ => hHeld) ?_
  rotate_left
  · intro w' _
    go_simp
    first | done | with_reducible rfl
  try simp only [Go.Act.put, List.setIfInBounds_toArray, List.set_cons_zero, List.set_cons_succ]
  refine anyZ_pure (i := 1) (v := ?_) (some 70) rfl rfl (by kernel_rfl) (by kernel_rfl) (by kernel_rfl) (by kernel_rfl) (fun _ _ _ h => h) (Or.inl ⟨by rfl, ?_⟩) (fun _ => hHeld) ?_
  rotate_left
  · intro w' _
    go_simp
    first | done | with_reducible rfl
  try simp only [Go.Act.put, List.setIfInBounds_toArray, List.set_cons_zero, List.set_cons_succ]
  refine anyZ_pure (i := 2) (v := ?_) (some 71) rfl rfl (by kernel_rfl) (by kernel_rfl) (by kernel_rfl) (by kernel_rfl) (fun _ _ _ h => h) (Or.inl ⟨by rfl, ?_⟩) (fun _ => hHeld) ?_
  rotate_left
  · intro w' _
    go_simp
    first | done | with_reducible rfl
  try simp only [Go.Act.put, List.setIfInBounds_toArray, List.set_cons_zero, List.set_cons_succ]
  refine anyZ_pure (i := 3) (v := ?_) (some 72) rfl rfl (by kernel_rfl) (by kernel_rfl) (by kernel_rfl) (by kernel_rfl) (fun _ _ _ h => h) (Or.inl ⟨by rfl, ?_⟩) (fun _ => hHeld) ?_
  rotate_left
  · intro w' _
    go_simp
    first | done | with_reducible rfl
  try simp only [Go.Act.put, List.setIfInBounds_toArray, List.set_cons_zero, List.set_cons_succ]
  refine anyZ_pure (i := 4) (v := ?_) (some 73) rfl rfl (by kernel_rfl) (by kernel_rfl) (by kernel_rfl) (by kernel_rfl) (fun _ _ _ h => h) (Or.inl ⟨by rfl, ?_⟩) (fun _ => hHeld) ?_
  rotate_left
  · intro w' _
    go_simp
    first | done | with_reducible rfl
  try simp only [Go.Act.put, List.setIfInBounds_toArray, List.set_cons_zero, List.set_cons_succ]
  refine anyZ_pure (i := 5) (v := ?_) (some 74) rfl rfl (by kernel_rfl) (by kernel_rfl) (by kernel_rfl) (by kernel_rfl) (fun _ _ _ h => h) (Or.inl ⟨by rfl, ?_⟩) (fun _ => hHeld) ?_
  rotate_left
  · intro w' _
    go_simp
    first | done | with_reducible rfl
  try simp only [Go.Act.put, List.setIfInBounds_toArray, List.set_cons_zero, List.set_cons_succ]
  refine anyZ_pure (i := 6) (v := ?_) (some 75) rfl rfl (by kernel_rfl) (by kernel_rfl) (by kernel_rfl) (by kernel_rfl) (fun _ _ _ h => h) (Or.inl ⟨by rfl, ?_⟩) (fun _ => hHeld) ?_
  rotate_left
  · intro w' _
    go_simp
    first | done | with_reducible rfl
  try simp only [Go.Act.put, List.setIfInBounds_toArray, List.set_cons_zero, List.set_cons_succ]
  refine anyZ_pure (i := 7) (v := ?_) (some 76) rfl rfl (by kernel_rfl) (by kernel_rfl) (by kernel_rfl) (by kernel_rfl) (fun _ _ _ h => h) (Or.inl ⟨by rfl, ?_⟩) (fun _ => hHeld) ?_
  rotate_left
  · intro w' _
    go_simp
    first | done | with_reducible rfl
  try simp only [Go.Act.put, List.setIfInBounds_toArray, List.set_cons_zero, List.set_cons_succ]
  refine anyZ_ready (rs := [8]) (by kernel_rfl) (by simp) ?_
  refine AllZ.last rfl (by kernel_rfl) (fun K hK => ?_) AllZ.nil
  refine stepOf_copyR Try.teP rfl (.tmp 73) (.tmp 76) rfl HB1.out rfl (m := n - i) rfl (cs.drop (i * 4)) (by simp only [Nat.min_def]; split <;> omega) hd (fun _ => ⟨b, off + i * 4, rfl, hcut _ HB1.out⟩) (fun u hu => h1 u (List.mem_of_mem_drop hu)) (by omega) ?_
  refine hK.out _ _ ?_
  clear hK K
  try change anyZ _ _ _ _ _ _ _ _ (Go.Act.put _ (some 77) _) _
  try simp only [Go.Act.put, List.setIfInBounds_toArray, List.set_cons_zero, List.set_cons_succ]
  refine anyZ_done (by kernel_rfl) ?_ _
  clear hHeld
  go_wp2
  go_ret
  have fr2 : Fr (fun k => k = b) w ((w.drew.setCells b (off + (i + 1) * 4) (cs.drop (i * 4))).setCells b (off + i * 4) xs) := Fr.setCells _ _ (Fr.setCells _ _ (Fr.refl _ _).drew (fun _ => rfl)) (fun _ => rfl)
  refine ⟨rfl, ⟨?_, .inr ⟨b, off, c, _, rfl, HB2.out.setCells xs _, hroom, by unfold maxLen; omega, by rw [lay_size, lay_size]; exact hsz, lay_row HC.out hl (by omega) hx (by omega)⟩⟩, fr2⟩
  simp only [List.length_append, List.length_take, hd, hx, hl]
  omega

set_option maxRecDepth 100000 in
set_option maxHeartbeats 4000000 in
theorem insert_grow (b off n c i xb : Nat) (cs xs : List Value) (w : World) (h : Row w 67 4 (.slice (some ⟨b, off, none⟩) n c) n cs) (hi : i < n) (hx : xs.length = 4) (hxk : Bk w xb 67 xs.toArray) (h1 : ∀ u ∈ cs, u.oneCell' = true) (h2 : ∀ u ∈ xs, u.oneCell' = true) (hn : n ≤ 1048576) (hroom : c < n + 1) :
    Calls Try.prog 37 #[.slice (some ⟨b, off, none⟩) n c, .int .i64 (i : Int), .slice (some ⟨xb, 0, none⟩) 1 1] w fun e w' =>
      ∃ g c', e = .returned (.slice (some ⟨g, 0, none⟩) (n + 1) c') ∧ Row w' 67 4 (.slice (some ⟨g, 0, none⟩) (n + 1) c') (n + 1) (cs.take (i * 4) ++ (xs ++ cs.drop (i * 4))) ∧ Fr (fun _ => False) w w' ∧ w.heap.size ≤ g := by
  have hcell : ∀ j u, cs[j]? = some u → w.cell? ⟨b, off + j, none⟩ = some u := fun j u hu => h.cell hu
  obtain ⟨A0, c0, e0, hnc, hcm, _⟩ := h.form
  injection e0 with eA _ e0
  subst eA e0
  have hl := h.1
  clear h
  obtain rfl : c = n := by omega
  unfold maxLen at hcm
  have hcm' : (c : Int) ≤ 9223372036854775807 := by omega
  have hn0 : (0 : Int) ≤ (c : Int) := by omega
  have hi0 : (0 : Int) ≤ (i : Int) := by omega
  have hz2 : ¬ ((i : Int) = (c : Int)) := by omega
  have hz3 : (c : Int) < (c : Int) + 1 := by omega
  have htn : ((i : Int) + 1).toNat = i + 1 := by omega
  have hin : (i : Int) ≤ (c : Int) := by omega
  have hin1 : (i : Int) ≤ (c : Int) + 1 := by omega
  have hw1 : IntKind.i64.wrap ((i : Int) + 1) = (i : Int) + 1 := by rw [IntKind.wrap_i64]; omega
  have hb0 : (0 : Int) ≤ (i : Int) + 1 := by omega
  have hb4 : ¬ (c = i) := by omega
  have hi4 : i * 4 ≤ c * 4 := Nat.mul_le_mul_right _ (by omega)
  have hd : (cs.drop (i * 4)).length = (c - i) * 4 := by rw [List.length_drop, hl]; omega
  have ht : (cs.take (i * 4)).length = i * 4 := by rw [List.length_take, hl]; omega
  obtain ⟨i0, hi0', hz0, hzs, hzb⟩ := info_parts Try.teP.info
  obtain ⟨G, hG⟩ : ∃ G, grownCap w (c + 1) c 67 = G := ⟨_, rfl⟩
  have hGge : c + 1 ≤ G := by rw [← hG]; exact grownCap_ge w _ _ _
  have hGle : G ≤ maxLen := by rw [← hG]; exact grownCap_le_maxLen w _ _ _ (by unfold maxLen; omega)
  obtain ⟨g, hg⟩ : ∃ g, w.heap.size = g := ⟨_, rfl⟩
  have hap : ∃ W1 cur, (∀ ty, (Builtin.append_ #[57, 3] ty #[.slice (some ⟨b, off, none⟩) i c, .int .i64 ((c : Int) + 1 - (i : Int))]).run Try.prog w = .ok (.slice (some ⟨g, 0, none⟩) (c + 1) G) W1) ∧ Bk W1 g 67 cur ∧ Fr (fun _ => False) w W1 ∧ cur.size = G * 4 ∧ ∀ j, j < i * 4 → cur[j]? = cs[j]? := by
    have hold : (Builtin.firstCells i0.size i (.slice (some ⟨b, off, none⟩) i c)).run Try.prog w.drew = .ok (cs.take (i * 4)).toArray w.drew := by
      rw [hzs]
      exact run_firstCells_some w.drew 4 i ⟨b, off, none⟩ i c (cs.take (i * 4)) ht (fun j v hj => by
        rw [add_at]
        rw [List.getElem?_take] at hj
        split at hj
        · exact hcell j v hj
        · cases hj)
    have hh := fun ty => Lib.run_append_grow_zeros (P := Try.prog) w 57 3 ty 67 i0 _ .i64 .i64 Try.underlying57 Try.underlying3 hi0' hz0 (some ⟨b, off, none⟩) i c (cs.take (i * 4)) hold (c + 1 - i) (by omega) (by omega) (by omega) (by omega) (by rw [hzb]; omega) (by
      rw [hzb, show i + (c + 1 - i) = c + 1 by omega]
      exact growslice_fits (by omega) (by omega))
    rw [show i + (c + 1 - i) = c + 1 by omega, hG, hg] at hh
    obtain ⟨ROW, hROW⟩ : ∃ ROW : Array Value, ROW = (cs.take (i * 4)).toArray ++ Builtin.zeroCells (Value.agg #[.int .i64 0, .int .i64 0, .int .i64 0, .nilFunc]).cells (c + 1 - i) ++ Builtin.zeroCells (Value.agg #[.int .i64 0, .int .i64 0, .int .i64 0, .nilFunc]).cells (G - (c + 1)) := ⟨_, rfl⟩
    rw [← hROW] at hh
    refine ⟨w.drew.alloc (.cells ROW 67), ROW, fun ty => ?_, ?_, (Fr.refl _ _).drew.alloc _, ?_, ?_⟩
    · rw [show (c : Int) + 1 - (i : Int) = ((c + 1 - i : Nat) : Int) by omega]
      exact hh ty
    · have := Bk.new w.drew 67 ROW
      rw [show w.drew.heap.size = g from hg] at this
      exact this
    · rw [hROW]
      simp only [Array.size_append, List.size_toArray, size_zeroCells, ht, Try.teP.zs]
      omega
    · intro j hj
      rw [hROW, Array.append_assoc, Array.getElem?_append_left (by simpa [ht] using hj)]
      simp [hj]
  obtain ⟨W1, cur, hrz, hb1, f1, hcs, hcc⟩ := hap
  have hgs := hb1.lt
  have hx1 : Bk W1 xb 67 xs.toArray := hxk.fr f1 (fun h => h)
  have hG1 : ¬ (G = i) := by omega
  have hG2 : ¬ (G = i + 1) := by omega
  unfold maxLen at hGle
  have hG63 : (G : Int) ≤ 9223372036854775807 := by omega
  have hcp1 : ∀ ty dc sc, (Builtin.copy_ #[57, 57] ty #[.slice (some ⟨g, i * 4, none⟩) (c + 1 - i) dc, .slice (some ⟨xb, 0, none⟩) 1 sc]).run Try.prog W1 = .ok (goInt 1) (W1.setCells g (i * 4) xs) := fun ty dc sc =>
    run_copyR Try.teP ty hb1 (m := 1) (by simp only [Nat.min_def]; split <;> omega) (by omega) (fun _ => ⟨xb, 0, rfl, fun j u hu => by rw [Nat.zero_add, hx1.cell]; simpa using hu⟩) h2 (by omega)
  have hb2 := hb1.setCells xs (i * 4)
  have f2 : Fr (fun k => k = g) W1 (W1.setCells g (i * 4) xs) := Fr.setCells _ _ (Fr.refl _ _) (fun _ => rfl)
  have hbw : b < w.heap.size := World.block_lt_of_cell? w ⟨b, off + 0, none⟩ (hcell 0 _ (List.getElem?_eq_getElem (by omega)))
  have hcut : ∀ j u, (cs.drop (i * 4))[j]? = some u → (W1.setCells g (i * 4) xs).cell? ⟨b, off + i * 4 + j, none⟩ = some u := fun j u hu => by
    rw [List.getElem?_drop] at hu
    rw [f2.cell (p := ⟨b, off + i * 4 + j, none⟩) (Nat.lt_of_lt_of_le hbw f1.size) (by show ¬ b = g; omega), f1.cell (p := ⟨b, off + i * 4 + j, none⟩) hbw (fun h => h), Nat.add_assoc]
    exact hcell _ u hu
  have hfin : ∀ j, j < (cs.take (i * 4) ++ (xs ++ cs.drop (i * 4))).length → (lay (lay cur (i * 4) xs) ((i + 1) * 4) (cs.drop (i * 4)))[0 + j]? = (cs.take (i * 4) ++ (xs ++ cs.drop (i * 4)))[j]? := by
    intro j hj
    simp only [List.length_append, ht, hd, hx] at hj
    rw [Nat.zero_add]
    by_cases h0 : j < i * 4
    · rw [lay_out _ _ _ _ (.inl (by omega)), lay_out _ _ _ _ (.inl (by omega)), hcc j h0, List.getElem?_append_left (by omega), List.getElem?_take, if_pos h0]
    · by_cases h1 : j < i * 4 + 4
      · rw [lay_out _ _ _ _ (.inl (by omega)), List.getElem?_append_right (by omega), List.getElem?_append_left (by omega), ht]
        conv => lhs; rw [show j = i * 4 + (j - i * 4) by omega]
        rw [lay_in _ _ _ _ (by omega) (by omega)]
      · rw [List.getElem?_append_right (by omega), List.getElem?_append_right (by omega), ht, hx]
        conv => lhs; rw [show j = (i + 1) * 4 + (j - i * 4 - 4) by omega]
        rw [lay_in _ _ _ _ (by omega) (by rw [lay_size]; omega)]
  have HF1 := Lib.hid f1
  have HF2 := Lib.hid f2
  have HB2 := Lib.hid hb2
  have HFIN := Lib.hid hfin
  have HCUT := Lib.hid hcut
  have HCS := Lib.hid hcs
  have HG := Lib.hid (show w.heap.size ≤ g by omega)
  have HD := Lib.hid (And.intro hd (And.intro ht hl))
  clear hcc hb1 hx1 f1 f2 hb2 hfin hcut hcs hgs hcell hxk hg hG hz0 hzs hzb hi0' hbw hd ht hl
  generalize hW2 : W1.setCells g (i * 4) xs = W2 at *
  clear hW2
  go_enter Try.func37, Try.ntmps37
  go_wp2_with (at_builtin; refine Lib.wpList_append_run _ rfl _ _ _ _ rfl _ _ rfl rfl _ _ (hrz _) ?_)
  refine wp_region_Z [8] (fun w' => Fr (fun _ => False) W2 w') (by kernel_rfl) ((Fr.refl _ _).drew) (fun hHeld => ?_)
  refine anyZ_pure (i := 0) (v := ?_) (some 46) rfl rfl (by kernel_rfl) (by kernel_rfl) (by kernel_rfl) (by kernel_rfl) (fun _ _ _ h => h) (Or.inl ⟨by rfl, ?_⟩) (fun _ => hHeld) ?_
  rotate_left
  · intro w' _
    go_simp
    first | done | with_reducible rfl
  try simp only [Go.Act.put, List.setIfInBounds_toArray, List.set_cons_zero, List.set_cons_succ]
  refine anyZ_pure (i := 1) (v := ?_) (some 47) rfl rfl (by kernel_rfl) (by kernel_rfl) (by kernel_rfl) (by kernel_rfl) (fun _ _ _ h => h) (Or.inl ⟨by rfl, ?_⟩) (fun _ => hHeld) ?_
  rotate_left
  · intro w' _
    go_simp
    first | done | with_reducible rfl
  try simp only [Go.Act.put, List.setIfInBounds_toArray, List.set_cons_zero, List.set_cons_succ]
  refine anyZ_pure (i := 2) (v := ?_) (some 48) rfl rfl (by kernel_rfl) (by kernel_rfl) (by kernel_rfl) (by kernel_rfl) (fun _ _ _ h => h) (Or.inl ⟨by rfl, ?_⟩) (fun _ => hHeld) ?_
  rotate_left
  · intro w' _
    go_simp
    first | done | with_reducible rfl
  try simp only [Go.Act.put, List.setIfInBounds_toArray, List.set_cons_zero, List.set_cons_succ]
  refine anyZ_pure (i := 3) (v := ?_) (some 49) rfl rfl (by kernel_rfl) (by kernel_rfl) (by kernel_rfl) (by kernel_rfl) (fun _ _ _ h => h) (Or.inl ⟨by rfl, ?_⟩) (fun _ => hHeld) ?_
  rotate_left
  · intro w' _
    go_simp
    first | done | with_reducible rfl
  try simp only [Go.Act.put, List.setIfInBounds_toArray, List.set_cons_zero, List.set_cons_succ]
  refine anyZ_pure (i := 4) (v := ?_) (some 50) rfl rfl (by kernel_rfl) (by kernel_rfl) (by kernel_rfl) (by kernel_rfl) (fun _ _ _ h => h) (Or.inl ⟨by rfl, ?_⟩) (fun _ => hHeld) ?_
  rotate_left
  · intro w' _
    go_simp
    first | done | with_reducible rfl
  try simp only [Go.Act.put, List.setIfInBounds_toArray, List.set_cons_zero, List.set_cons_succ]
  refine anyZ_pure (i := 5) (v := ?_) (some 51) rfl rfl (by kernel_rfl) (by kernel_rfl) (by kernel_rfl) (by kernel_rfl) (fun _ _ _ h => h) (Or.inl ⟨by rfl, ?_⟩) (fun _ => hHeld) ?_
  rotate_left
  · intro w' _
    go_simp
    first | done | with_reducible rfl
  try simp only [Go.Act.put, List.setIfInBounds_toArray, List.set_cons_zero, List.set_cons_succ]
  refine anyZ_pure (i := 6) (v := ?_) (some 52) rfl rfl (by kernel_rfl) (by kernel_rfl) (by kernel_rfl) (by kernel_rfl) (fun _ _ _ h => h) (Or.inl ⟨by rfl, ?_⟩) (fun _ => hHeld) ?_
  rotate_left
  · intro w' _
    go_simp
    first | done | with_reducible rfl
  try simp only [Go.Act.put, List.setIfInBounds_toArray, List.set_cons_zero, List.set_cons_succ]
  refine anyZ_pure (i := 7) (v := ?_) (some 53) rfl rfl (by kernel_rfl) (by kernel_rfl) (by kernel_rfl) (by kernel_rfl) (fun _ _ _ h => h) (Or.inl ⟨by rfl, ?_⟩) (fun _ => hHeld) ?_
  rotate_left
  · intro w' _
    go_simp
    first | done | with_reducible rfl
  try simp only [Go.Act.put, List.setIfInBounds_toArray, List.set_cons_zero, List.set_cons_succ]
  refine anyZ_ready (rs := [8]) (by kernel_rfl) (by simp) ?_
  refine AllZ.last rfl (by kernel_rfl) (fun K hK => ?_) AllZ.nil
  refine stepOf_copyR Try.teP rfl (.tmp 50) (.tmp 53) rfl HB2.out.drew rfl (m := c - i) rfl (cs.drop (i * 4)) (by simp only [Nat.min_def]; split <;> omega) HD.out.1 (fun _ => ⟨b, off + i * 4, rfl, fun j u hu => HCUT.out j u hu⟩) (fun u hu => h1 u (List.mem_of_mem_drop hu)) (by rw [lay_size, HCS.out]; omega) ?_
  refine hK.out _ _ ?_
  clear hK K
  try change anyZ _ _ _ _ _ _ _ _ (Go.Act.put _ (some 54) _) _
  try simp only [Go.Act.put, List.setIfInBounds_toArray, List.set_cons_zero, List.set_cons_succ]
  refine anyZ_done (by kernel_rfl) ?_ _
  clear hHeld
  go_wp2
  go_ret
  have f3 : Fr (fun k => k = g) W2.drew (W2.drew.setCells g ((i + 1) * 4) (cs.drop (i * 4))) := Fr.setCells _ _ (Fr.refl _ _) (fun _ => rfl)
  have hsize : (lay cur (i * 4) xs).size = G * 4 := by rw [lay_size]; exact HCS.out
  refine ⟨g, G, rfl, ⟨?_, .inr ⟨g, 0, G, _, rfl, HB2.out.drew.setCells _ _, hGge, by unfold maxLen; omega, by rw [lay_size, hsize]; omega, HFIN.out⟩⟩, ((HF1.out.trans HF2.out (fun x hx e => by have := HG.out; omega)).drew).trans f3 (fun x hx e => by have := HG.out; omega), HG.out⟩
  simp only [List.length_append, HD.out.1, HD.out.2.1, hx]
  omega
end Go.Proofs.Ytmlckocgahfnkaa
