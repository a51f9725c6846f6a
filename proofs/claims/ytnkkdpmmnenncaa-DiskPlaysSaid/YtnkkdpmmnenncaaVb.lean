/- The reference keeps one write. -/
import Derived.Test.YtnkkdpmmnenncaaVa
namespace Go.Proofs.Ytnkkdpmmnenncaa
open Go.RowKit Go.Maps

theorem splice_snoc {L cs : List UInt8} {off i : Nat} (h : off + cs.length ≤ L.length) (hi : i < cs.length) : (splice L off (cs.take i)).set (off + i) (cs.getD i 0) = splice L off (cs.take (i + 1)) := by
  have e : cs.getD i 0 = cs[i] := by simp [List.getD, hi]
  have l1 : (cs.take i).length = i := by simp; omega
  have l2 : (cs.take (i + 1)).length = i + 1 := by simp; omega
  rw [e]
  apply List.ext_getElem?
  intro p
  by_cases hp : p = off + i
  · subst hp
    rw [List.getElem?_set_self (by rw [length_splice _ _ _ (by rw [l1]; omega)]; omega), splice_at _ _ _ (by rw [l2]; omega), l2, if_pos (by omega), Nat.add_sub_cancel_left, List.getElem?_take_of_lt (by omega), List.getElem?_eq_getElem hi]
  · rw [List.getElem?_set_ne (Ne.symm hp), splice_at _ _ _ (by rw [l1]; omega), splice_at _ _ _ (by rw [l2]; omega), l1, l2]
    by_cases h1 : off ≤ p ∧ p < off + i
    · rw [if_pos h1, if_pos (by omega), List.getElem?_take_of_lt (by omega), List.getElem?_take_of_lt (by omega)]
    · rw [if_neg h1, if_neg (by omega)]
theorem splice_nil (L : List UInt8) (off : Nat) (h : off ≤ L.length) : splice L off [] = L := by
  apply List.ext_getElem?
  intro p
  rw [splice_at _ _ _ (by simpa using h), if_neg (by simp)]
theorem Rd8.cell0 {w : World} {b : Nat} {xs : List UInt8} (h : Rd8 w (some ⟨b, 0, none⟩) xs) {i : Nat} (hi : i < xs.length) : w.cell? ⟨b, i, none⟩ = some (.int .u8 ((xs.getD i 0).toNat : Int)) := by
  obtain ⟨b', o, e, hc⟩ := h.at_ hi
  injection e with e; injection e with e1 e2; subst e1; subst e2
  rw [Nat.zero_add] at hc; exact hc

set_option maxRecDepth 100000 in
set_option maxHeartbeats 4000000 in
theorem refKeep_any {w : World} {g bb sz M x b c : Nat} {cs : Array Value} {kept bs : List UInt8} (hb : Bk w g 47 cs) (h1 : cs[1]? = some (.int .i64 (sz : Int))) (h2 : cs[2]? = some (.slice (some ⟨bb, 0, none⟩) M M))
    (hk : Bk w bb 5 (kept.map B8).toArray) (hM : kept.length = M) (hx : (x + 1) * sz ≤ M) (hMb : M ≤ 16777216) (hr : Rd8 w (some ⟨b, 0, none⟩) bs) (hn : bs.length = sz) (hbl : b < w.heap.size) (hne : b ≠ bb) (hgb : bb ≠ g) (hx2 : x ≤ 16384) (hs1 : 1 ≤ sz) :
    Calls Try.prog 37 #[.pointer (some ⟨g, 0, none⟩), .agg #[.int .i64 (x : Int), .slice (some ⟨b, 0, none⟩) sz c]] w fun e w' => e = .returned (.tuple #[]) ∧ Bk w' bb 5 ((put1 sz kept (x, bs)).map B8).toArray ∧ Fr (fun k => k = bb) w w' := by
  obtain ⟨W, hW⟩ : ∃ W, w.alloc (.cells #[.int .i64 (x : Int), .slice (some ⟨b, 0, none⟩) sz c] 71) = W := ⟨_, rfl⟩
  obtain ⟨gp, hgp⟩ : ∃ gp, w.heap.size = gp := ⟨_, rfl⟩
  have fW : Fr (fun _ => False) w W := by rw [← hW]; exact (Fr.refl _ _).alloc _
  have bP : Bk W gp 71 #[.int .i64 (x : Int), .slice (some ⟨b, 0, none⟩) sz c] := by rw [← hW, ← hgp]; exact Bk.new _ _ _
  have hpb : gp ≠ bb := by have := hk.lt; omega
  have CL0 := Lib.hid (fun i (hi : i < sz) w' (hf : Fr (fun k => k = bb) W w') => (And.intro (show w'.cell? ⟨g, 2, none⟩ = some (.slice (some ⟨bb, 0, none⟩) M M) from (((hb.fr fW (fun h => h)).fr hf (Ne.symm hgb)).cell 2).trans h2)
    (And.intro (show w'.cell? ⟨g, 1, none⟩ = some (.int .i64 (sz : Int)) from (((hb.fr fW (fun h => h)).fr hf (Ne.symm hgb)).cell 1).trans h1)
    (And.intro (show w'.cell? ⟨gp, 0, none⟩ = some (.int .i64 (x : Int)) from (bP.fr hf hpb).cell 0)
    (And.intro (show w'.cell? ⟨gp, 1, none⟩ = some (.slice (some ⟨b, 0, none⟩) sz c) from (bP.fr hf hpb).cell 1)
    (show w'.cell? ⟨b, i, none⟩ = some (.int .u8 ((bs.getD i 0).toNat : Int)) from ((hr.fr fW (fun _ _ _ h => h)).fr hf (fun ad e _ h => by injection e with e; subst e; exact hne h)).cell0 (by rw [hn]; exact hi)))))))
  have hxe : (x + 1) * sz = x * sz + sz := by rw [Nat.add_mul]; omega
  obtain ⟨y, hy⟩ : ∃ y, x * sz = y := ⟨_, rfl⟩
  have hyM : y + sz ≤ M := by omega
  have BK0 : Bk W bb 5 ((splice kept y (bs.take 0)).map B8).toArray := by
    rw [List.take_zero, splice_nil _ _ (by omega)]; exact hk.fr fW (fun h => h)
  have SET := Lib.hid (fun i (hi : i < sz) => splice_snoc (L := kept) (cs := bs) (off := y) (i := i) (by omega) (by omega))
  have FIN : Hid (splice kept y (bs.take sz) = put1 sz kept (x, bs)) := Lib.hid (by unfold put1; rw [← hn, List.take_length, hn, hy])
  have LEN := Lib.hid (fun i => show (splice kept y (bs.take i)).length = M by rw [length_splice _ _ _ (by rw [List.length_take]; omega), hM])
  have HB := Lib.hid BK0
  have HG := Lib.hid hgp
  have HW := Lib.hid hW
  have HFW := Lib.hid fW
  have HYI : Hid ((x : Int) * (sz : Int) = (y : Int)) := Lib.hid (by rw [← Int.natCast_mul, hy])
  have hs0 : (sz : Int) ≤ 16777216 := by omega
  have hx0 : (x : Int) ≤ 16384 := by omega
  have hM0 : (M : Int) ≤ 16777216 := by omega
  clear fW bP hpb hb h1 h2 hk hM hr hn hx hxe BK0 hbl
  go_enter Try.func37, Try.ntmps37
  go_wp2_with fail
  clear hW hgp
  go_loopw [4] (fun i wr => ∃ k : Nat, k ≤ sz ∧ i = .int .i64 k ∧ Bk wr bb 5 ((splice kept y (bs.take k)).map B8).toArray ∧ Fr (fun k => k = bb) W wr) (fun i _ => sz - (intOf i).toNat)
  case atStart => exact ⟨0, Nat.zero_le _, rfl, HB.out, Fr.refl _ _⟩
  case round =>
    obtain ⟨k, hk, rfl, hbk, hf⟩ := hrel
    have HBK := Lib.hid hbk
    have HF := Lib.hid hf
    have q2 : wr.cell? ⟨g, 1, none⟩ = some (.int .i64 (sz : Int)) := (CL0.out 0 hs1 wr HF.out).2.1
    clear hbk hf HB
    by_cases hlt : k < sz
    · have CL := Lib.hid (fun w' (h : Fr (fun k => k = bb) wr w') => CL0.out k hlt w' (HF.out.trans h (fun _ _ h => h)))
      obtain ⟨z, hz⟩ : ∃ z : Nat, z = y + k := ⟨_, rfl⟩
      have WR : Hid (IntKind.i64.wrap ((x : Int) * (sz : Int)) = (y : Int) ∧ IntKind.i64.wrap ((y : Int) + (k : Int)) = (z : Int)) := Lib.hid ⟨by rw [HYI.out, IntWalk.i64_in _ (by omega)], by rw [IntWalk.i64_in _ (by omega)]; omega⟩
      have hll := LEN.out k
      have k1 : ∃ u, wr.cell? ⟨bb, z, none⟩ = some (.int .u8 u) := ⟨_, Loc.cell HBK.out z (by rw [hll]; omega)⟩
      obtain ⟨u, k1⟩ := k1
      have k2 : wr.frozen? ⟨bb, z, none⟩ = false := HBK.out.frozen z
      have ST : Hid (Bk (wr.drew.setCell ⟨bb, z, none⟩ (.int .u8 ((bs.getD k 0).toNat : Int))) bb 5 ((splice kept y (bs.take (k + 1))).map B8).toArray) := Lib.hid (by
        have := Loc.set (w := wr.drew) (show Loc wr.drew bb _ from HBK.out) z (bs.getD k 0)
        rw [hz, SET.out k hlt] at this
        rw [hz]; exact this)
      have hzM : (z : Int) < (M : Int) := by omega
      have hk0 : (0 : Int) ≤ (k : Int) := by omega
      have hk1 : (k : Int) < (sz : Int) := by omega
      clear hz hll HBK
      generalize bs.getD k 0 = v at *
      go_wp2_with fail
      refine wp_region_held_drew (S := fun w' => Fr (fun k => k = bb) wr w') (by kernel_rfl) ((Fr.refl _ _).drew) (fun hHeld => ?_)
      refine wpAnyH_takeD (i := 0) (v := ?_) (some 13) rfl rfl (by kernel_rfl) (by kernel_rfl) (by kernel_rfl) (fun _ _ _ h => h) (Or.inl ⟨by rfl, ?_⟩) (by assumption) ?_
      rotate_left
      · intro w' hSw
        go_simp
        first | done | with_reducible rfl
      try simp only [Go.Act.put, List.setIfInBounds_toArray, List.set_cons_zero, List.set_cons_succ]
      refine wpAnyH_takeD (i := 1) (v := ?_) (some 14) rfl rfl (by kernel_rfl) (by kernel_rfl) (by kernel_rfl) (fun _ _ _ h => h) (Or.inl ⟨by rfl, ?_⟩) (by assumption) ?_
      rotate_left
      · intro w' hSw
        go_simp
        first | done | with_reducible rfl
      try simp only [Go.Act.put, List.setIfInBounds_toArray, List.set_cons_zero, List.set_cons_succ]
      refine wpAnyH_takeD (i := 2) (v := ?_) (some 15) rfl rfl (by kernel_rfl) (by kernel_rfl) (by kernel_rfl) (fun _ _ _ h => h) (Or.inl ⟨by rfl, ?_⟩) (by assumption) ?_
      rotate_left
      · intro w' hSw
        go_simp
        first | done | with_reducible rfl
      try simp only [Go.Act.put, List.setIfInBounds_toArray, List.set_cons_zero, List.set_cons_succ]
      refine wpAnyH_takeD (i := 3) (v := ?_) (some 16) rfl rfl (by kernel_rfl) (by kernel_rfl) (by kernel_rfl) (fun _ _ _ h => h) (Or.inl ⟨by rfl, ?_⟩) (by assumption) ?_
      rotate_left
      · intro w' hSw
        obtain ⟨q1, q2, q3, q4, q5⟩ := CL.out w' hSw
        go_simp
        first | done | with_reducible rfl
      try simp only [Go.Act.put, List.setIfInBounds_toArray, List.set_cons_zero, List.set_cons_succ]
      refine wpAnyH_takeD (i := 4) (v := ?_) (some 17) rfl rfl (by kernel_rfl) (by kernel_rfl) (by kernel_rfl) (fun _ _ _ h => h) (Or.inl ⟨by rfl, ?_⟩) (by assumption) ?_
      rotate_left
      · intro w' hSw
        go_simp
        first | done | with_reducible rfl
      try simp only [Go.Act.put, List.setIfInBounds_toArray, List.set_cons_zero, List.set_cons_succ]
      refine wpAnyH_takeD (i := 5) (v := ?_) (some 18) rfl rfl (by kernel_rfl) (by kernel_rfl) (by kernel_rfl) (fun _ _ _ h => h) (Or.inl ⟨by rfl, ?_⟩) (by assumption) ?_
      rotate_left
      · intro w' hSw
        obtain ⟨q1, q2, q3, q4, q5⟩ := CL.out w' hSw
        go_simp
        first | done | with_reducible rfl
      try simp only [Go.Act.put, List.setIfInBounds_toArray, List.set_cons_zero, List.set_cons_succ]
      refine wpAnyH_takeD (i := 6) (v := ?_) (some 19) rfl rfl (by kernel_rfl) (by kernel_rfl) (by kernel_rfl) (fun _ _ _ h => h) (Or.inl ⟨by rfl, ?_⟩) (by assumption) ?_
      rotate_left
      · intro w' hSw
        go_simp
        first | done | with_reducible rfl
      try simp only [Go.Act.put, List.setIfInBounds_toArray, List.set_cons_zero, List.set_cons_succ]
      refine wpAnyH_takeD (i := 7) (v := ?_) (some 20) rfl rfl (by kernel_rfl) (by kernel_rfl) (by kernel_rfl) (fun _ _ _ h => h) (Or.inl ⟨by rfl, ?_⟩) (by assumption) ?_
      rotate_left
      · intro w' hSw
        go_simp
        first | done | with_reducible rfl
      try simp only [Go.Act.put, List.setIfInBounds_toArray, List.set_cons_zero, List.set_cons_succ]
      refine wpAnyH_takeD (i := 8) (v := ?_) (some 21) rfl rfl (by kernel_rfl) (by kernel_rfl) (by kernel_rfl) (fun _ _ _ h => h) (Or.inl ⟨by rfl, ?_⟩) (by assumption) ?_
      rotate_left
      · intro w' hSw
        go_simp
        first | done | with_reducible rfl
      try simp only [Go.Act.put, List.setIfInBounds_toArray, List.set_cons_zero, List.set_cons_succ]
      refine wpAnyH_takeD (i := 9) (v := ?_) (some 22) rfl rfl (by kernel_rfl) (by kernel_rfl) (by kernel_rfl) (fun _ _ _ h => h) (Or.inl ⟨by rfl, ?_⟩) (by assumption) ?_
      rotate_left
      · intro w' hSw
        obtain ⟨q1, q2, q3, q4, q5⟩ := CL.out w' hSw
        go_simp
        first | done | with_reducible rfl
      try simp only [Go.Act.put, List.setIfInBounds_toArray, List.set_cons_zero, List.set_cons_succ]
      refine wpAnyH_takeD (i := 10) (v := ?_) (some 23) rfl rfl (by kernel_rfl) (by kernel_rfl) (by kernel_rfl) (fun _ _ _ h => h) (Or.inl ⟨by rfl, ?_⟩) (by assumption) ?_
      rotate_left
      · intro w' hSw
        have s1 := WR.out.1
        go_simp
        first | done | with_reducible rfl
      try simp only [Go.Act.put, List.setIfInBounds_toArray, List.set_cons_zero, List.set_cons_succ]
      refine wpAnyH_takeD (i := 11) (v := ?_) (some 24) rfl rfl (by kernel_rfl) (by kernel_rfl) (by kernel_rfl) (fun _ _ _ h => h) (Or.inl ⟨by rfl, ?_⟩) (by assumption) ?_
      rotate_left
      · intro w' hSw
        go_simp
        first | done | with_reducible rfl
      try simp only [Go.Act.put, List.setIfInBounds_toArray, List.set_cons_zero, List.set_cons_succ]
      refine wpAnyH_takeD (i := 12) (v := ?_) (some 25) rfl rfl (by kernel_rfl) (by kernel_rfl) (by kernel_rfl) (fun _ _ _ h => h) (Or.inl ⟨by rfl, ?_⟩) (by assumption) ?_
      rotate_left
      · intro w' hSw
        have s1 := WR.out.2
        go_simp
        first | done | with_reducible rfl
      try simp only [Go.Act.put, List.setIfInBounds_toArray, List.set_cons_zero, List.set_cons_succ]
      refine wpAnyH_takeD (i := 13) (v := ?_) (some 26) rfl rfl (by kernel_rfl) (by kernel_rfl) (by kernel_rfl) (fun _ _ _ h => h) (Or.inl ⟨by rfl, ?_⟩) (by assumption) ?_
      rotate_left
      · intro w' hSw
        go_simp
        first | done | with_reducible rfl
      try simp only [Go.Act.put, List.setIfInBounds_toArray, List.set_cons_zero, List.set_cons_succ]
      refine wpAnyH_takeD (i := 14) (v := ?_) (some 27) rfl rfl (by kernel_rfl) (by kernel_rfl) (by kernel_rfl) (fun _ _ _ h => h) (Or.inl ⟨by rfl, ?_⟩) (by assumption) ?_
      rotate_left
      · intro w' hSw
        obtain ⟨q1, q2, q3, q4, q5⟩ := CL.out w' hSw
        go_simp
        first | done | with_reducible rfl
      try simp only [Go.Act.put, List.setIfInBounds_toArray, List.set_cons_zero, List.set_cons_succ]
      refine wpAnyH_takeD (i := 15) (v := ?_) (some 28) rfl rfl (by kernel_rfl) (by kernel_rfl) (by kernel_rfl) (fun _ _ _ h => h) (Or.inl ⟨by rfl, ?_⟩) (by assumption) ?_
      rotate_left
      · intro w' hSw
        go_simp
        first | done | with_reducible rfl
      try simp only [Go.Act.put, List.setIfInBounds_toArray, List.set_cons_zero, List.set_cons_succ]
      refine wpAnyH_takeD (i := 16) (v := ?_) (some 29) rfl rfl (by kernel_rfl) (by kernel_rfl) (by kernel_rfl) (fun _ _ _ h => h) (Or.inl ⟨by rfl, ?_⟩) (by assumption) ?_
      rotate_left
      · intro w' hSw
        go_simp
        first | done | with_reducible rfl
      try simp only [Go.Act.put, List.setIfInBounds_toArray, List.set_cons_zero, List.set_cons_succ]
      refine wpAnyH_takeD (i := 17) (v := ?_) (some 30) rfl rfl (by kernel_rfl) (by kernel_rfl) (by kernel_rfl) (fun _ _ _ h => h) (Or.inl ⟨by rfl, ?_⟩) (by assumption) ?_
      rotate_left
      · intro w' hSw
        obtain ⟨q1, q2, q3, q4, q5⟩ := CL.out w' hSw
        go_simp
        first | done | with_reducible rfl
      try simp only [Go.Act.put, List.setIfInBounds_toArray, List.set_cons_zero, List.set_cons_succ]
      refine wpAnyH_takeD (i := 18) (v := ?_) (some 31) rfl rfl (by kernel_rfl) (by kernel_rfl) (by kernel_rfl) (fun _ _ _ h => h) (Or.inl ⟨by rfl, ?_⟩) (by assumption) ?_
      rotate_left
      · intro w' hSw
        go_simp
        first | done | with_reducible rfl
      try simp only [Go.Act.put, List.setIfInBounds_toArray, List.set_cons_zero, List.set_cons_succ]
      refine wpAnyH_ready (rs := [19]) (by kernel_rfl) (by simp) ?_
      refine AllReadyH.cons rfl (fun K hK => ?_) AllReadyH.nil
      go_simp
      refine hK.out _ _ (hHeld.setCell (fun _ => rfl) _) (fun hHeld => ?_)
      clear hK K
      try change wpAnyH _ _ _ _ _ _ _ (Go.Act.put _ none _) _
      try simp only [Go.Act.put, List.setIfInBounds_toArray, List.set_cons_zero, List.set_cons_succ]
      refine wpAnyH_done (by kernel_rfl) ?_ _
      have HF2 := Lib.hid (HF.out.trans hHeld (fun _ _ h => h))
      clear k1 k2 CL WR
      go_wp2
      go_roundw
      case rel => exact ⟨k + 1, by omega, by go_num, ST.out, HF2.out⟩
      case measure => simp [intOf]; omega
    · obtain rfl : k = sz := by omega
      go_wp2
      go_end0
      refine ⟨rfl, by rw [← FIN.out]; exact HBK.out, (HFW.out.mono (fun _ _ h => h.elim)).trans HF.out (fun _ _ h => h)⟩
end Go.Proofs.Ytnkkdpmmnenncaa
