/- The reference's clock: Due. -/
import Derived.Test.YtholaofgdahcbaaWr
namespace Go.Proofs.Ytholaofgdahcbaa
open Go.RowKit

def slLen : Value → Nat | .slice _ n _ => n | _ => 0
theorem OwnI.len {w : World} {v : Value} {xs : List Int} (h : OwnI w v xs) : slLen v = xs.length := by
  rcases h.form with ⟨rfl, rfl⟩ | ⟨g, cap, cur, rfl, _⟩ <;> rfl
theorem take_fst {l : List (Int × Int)} {i : Nat} {x : Int × Int} {r : List (Int × Int)} (h : l.drop i = x :: r) : (l.take (i + 1)).map Prod.fst = (l.take i).map Prod.fst ++ [x.1] ∧ l.drop (i + 1) = r ∧ l.getD i default = x ∧ i < l.length := by
  have hi : i < l.length := by
    rcases Nat.lt_or_ge i l.length with h1 | h1
    · exact h1
    · rw [List.drop_eq_nil_of_le h1] at h; cases h
  have hx : l[i] = x := by
    have := List.drop_eq_getElem_cons hi
    rw [h] at this
    injection this with e _
    exact e.symm
  have hr : l.drop (i + 1) = r := by
    have := List.drop_eq_getElem_cons hi
    rw [h] at this
    injection this with _ e
    exact e.symm
  refine ⟨?_, hr, by simp [List.getD, hi, hx], hi⟩
  rw [List.take_add_one]
  simp [hi, hx]
theorem OwnI.off {w : World} {v : Value} {xs : List Int} {g : Nat} {now : Int} {LV : Value} {l : List (Int × Int)} (h : OwnI w v xs) (hr : RC w g now LV l) : ∀ x, RB g LV x → ¬ v.ownBlock = some x := fun x hx e => by
  rcases hx with rfl | hx
  · exact h.ne hr.blk (by decide) e
  · obtain ⟨cur, hb⟩ := hr.row.bk hx
    exact h.ne hb (by decide) e

set_option maxRecDepth 100000 in
set_option maxHeartbeats 4000000 in
theorem rdue_any (g : Nat) (now : Int) (LV : Value) (l : List (Int × Int)) (w : World) (h : RC w g now LV l) (hq : l.length ≤ 1000000) :
    Calls Try.prog 14 #[.pointer (some ⟨g, 0, none⟩)] w fun e w' => ∃ v i LV', e = .returned v ∧ OwnI w' v ((l.take i).map Prod.fst) ∧ (∀ k, v.ownBlock = some k → w.heap.size ≤ k) ∧ i ≤ l.length ∧ (∀ j, j < i → (l.getD j default).2 ≤ now) ∧ (i = l.length ∨ now < (l.getD i default).2) ∧ RC w' g now LV' (l.drop i) ∧ Fr (fun k => k = g) w w' ∧ (LV' = LV ∨ ∀ x, LV'.ownBlock = some x → w.heap.size ≤ x) := by
  have H := Lib.hid h
  have HQ := Lib.hid hq
  obtain ⟨N, hN⟩ : ∃ N, l.length = N := ⟨_, rfl⟩
  have HNN := Lib.hid hN
  clear h hq hN
  go_enter Try.func14, Try.ntmps14
  go_wp2
  go_loopw [3] (fun u wr => ∃ (i : Nat) (LVi v : Value), u = v ∧ i ≤ N ∧ Hid (OwnI wr v ((l.take i).map Prod.fst)) ∧ Hid (∀ k, v.ownBlock = some k → w.heap.size ≤ k) ∧ Hid (∀ j, j < i → (l.getD j default).2 ≤ now) ∧ Hid (RC wr g now LVi (l.drop i)) ∧ Hid (Fr (fun k => k = g) w wr) ∧ Hid (LVi = LV ∨ ∀ x, LVi.ownBlock = some x → w.heap.size ≤ x)) (fun u _ => N - slLen u)
  case atStart => exact ⟨0, LV, _, rfl, Nat.zero_le _, Lib.hid (OwnI.nil _), Lib.hid (fun k hk => by simp [Value.ownBlock] at hk), Lib.hid (fun j hj => by omega), H, Lib.hid (Fr.refl _ _), Lib.hid (.inl rfl)⟩
  case round =>
    obtain ⟨i, LVi, v, rfl, hi, HOW0, HFR, HJ, HRC0, HFW, HLV⟩ := hrel
    have hrc := HRC0.out
    rcases hdr : l.drop i with _ | ⟨x, r⟩
    · have hie : i = l.length := by
        have := congrArg List.length hdr
        simp at this
        have := HNN.out; omega
      rw [hdr] at hrc
      obtain ⟨A, c, hLV, hlc, hcm, _⟩ := hrc.row.form
      have HC := Lib.hid (fun w' (hf : Fr (fun _ => False) wr w') => show w'.cell? ⟨g, 1, none⟩ = some (.slice A 0 c) ∧ w'.cell? ⟨g, 0, none⟩ = some (.int .i64 now) ∧ True from ⟨by have := (hrc.fr0 hf).blk.cell 1; rw [hLV] at this; exact this, (hrc.fr0 hf).blk.cell 0, trivial⟩)
      have HIE := Lib.hid hie
      clear hrc hLV hlc hcm hdr hie
      go_wp2_with fail
      refine wp_region_Z [] (fun w' => Fr (fun _ => False) wr w') (by kernel_rfl) ((Fr.refl _ _).drew) (fun hHeld => ?_)
      refine anyZ_pure (i := 0) (v := ?_) (some 4) rfl rfl (by kernel_rfl) (by kernel_rfl) (by kernel_rfl) (by kernel_rfl) (fun _ _ _ h => h) (Or.inl ⟨by rfl, ?_⟩) (fun _ => hHeld) ?_
      rotate_left
      · intro w' _
        go_simp
        first | done | with_reducible rfl
      try simp only [Go.Act.put, List.setIfInBounds_toArray, List.set_cons_zero, List.set_cons_succ]
      refine anyZ_pure (i := 1) (v := ?_) (some 5) rfl rfl (by kernel_rfl) (by kernel_rfl) (by kernel_rfl) (by kernel_rfl) (fun _ _ _ h => h) (Or.inl ⟨by rfl, ?_⟩) (fun _ => hHeld) ?_
      rotate_left
      · intro w' _
        go_simp
        first | done | with_reducible rfl
      try simp only [Go.Act.put, List.setIfInBounds_toArray, List.set_cons_zero, List.set_cons_succ]
      refine anyZ_pure (i := 2) (v := ?_) (some 6) rfl rfl (by kernel_rfl) (by kernel_rfl) (by kernel_rfl) (by kernel_rfl) (fun _ _ _ h => h) (Or.inl ⟨by rfl, ?_⟩) (fun _ => hHeld) ?_
      rotate_left
      · intro w' _
        go_simp
        first | done | with_reducible rfl
      try simp only [Go.Act.put, List.setIfInBounds_toArray, List.set_cons_zero, List.set_cons_succ]
      refine anyZ_read (i := 3) (v := ?_) (some 7) [4, 5, 6, 7, 8, 9, 10, 11, 12, 13, 14, 15, 16, 17, 18, 19] rfl rfl (by kernel_rfl) (by kernel_rfl) (by kernel_rfl) (by kernel_rfl) (by kernel_rfl) (by kernel_rfl) (fun _ _ _ h => h) (Or.inl ⟨by rfl, ?_⟩) hHeld ?_
      rotate_left
      · intro w' hSw
        obtain ⟨q0, q1, q2⟩ := HC.out w' hSw
        go_simp
        first | done | with_reducible rfl
      try simp only [Go.Act.put, List.setIfInBounds_toArray, List.set_cons_zero, List.set_cons_succ]
      refine anyZ_pure (i := 4) (v := ?_) (some 8) rfl rfl (by kernel_rfl) (by kernel_rfl) (by kernel_rfl) (by kernel_rfl) (fun _ _ _ h => h) (Or.inl ⟨by rfl, ?_⟩) (fun _ => hHeld) ?_
      rotate_left
      · intro w' _
        go_simp
        first | done | with_reducible rfl
      try simp only [Go.Act.put, List.setIfInBounds_toArray, List.set_cons_zero, List.set_cons_succ]
      refine anyZ_pure (i := 5) (v := ?_) (some 9) rfl rfl (by kernel_rfl) (by kernel_rfl) (by kernel_rfl) (by kernel_rfl) (fun _ _ _ h => h) (Or.inl ⟨by rfl, ?_⟩) (fun _ => hHeld) ?_
      rotate_left
      · intro w' _
        go_simp
        first | done | with_reducible rfl
      try simp only [Go.Act.put, List.setIfInBounds_toArray, List.set_cons_zero, List.set_cons_succ]
      refine anyZ_pure (i := 6) (v := ?_) (some 10) rfl rfl (by kernel_rfl) (by kernel_rfl) (by kernel_rfl) (by kernel_rfl) (fun _ _ _ h => h) (Or.inl ⟨by rfl, ?_⟩) (fun _ => hHeld) ?_
      rotate_left
      · intro w' _
        go_simp
        first | done | with_reducible rfl
      try simp only [Go.Act.put, List.setIfInBounds_toArray, List.set_cons_zero, List.set_cons_succ]
      refine anyZ_pure (i := 7) (v := undef) (some 11) rfl rfl (by kernel_rfl) (by kernel_rfl) (by kernel_rfl) (by kernel_rfl) (fun _ _ _ h => h) (Or.inr ⟨by rfl, rfl⟩) (fun _ => hHeld) ?_
      try simp only [Go.Act.put, List.setIfInBounds_toArray, List.set_cons_zero, List.set_cons_succ]
      refine anyZ_pure (i := 8) (v := undef) (some 12) rfl rfl (by kernel_rfl) (by kernel_rfl) (by kernel_rfl) (by kernel_rfl) (fun _ _ _ h => h) (Or.inr ⟨by rfl, rfl⟩) (fun _ => hHeld) ?_
      try simp only [Go.Act.put, List.setIfInBounds_toArray, List.set_cons_zero, List.set_cons_succ]
      refine anyZ_pure (i := 9) (v := undef) (some 13) rfl rfl (by kernel_rfl) (by kernel_rfl) (by kernel_rfl) (by kernel_rfl) (fun _ _ _ h => h) (Or.inr ⟨by rfl, rfl⟩) (fun _ => hHeld) ?_
      try simp only [Go.Act.put, List.setIfInBounds_toArray, List.set_cons_zero, List.set_cons_succ]
      refine anyZ_pure (i := 10) (v := undef) (some 14) rfl rfl (by kernel_rfl) (by kernel_rfl) (by kernel_rfl) (by kernel_rfl) (fun _ _ _ h => h) (Or.inr ⟨by rfl, rfl⟩) (fun _ => hHeld) ?_
      try simp only [Go.Act.put, List.setIfInBounds_toArray, List.set_cons_zero, List.set_cons_succ]
      refine anyZ_pure (i := 11) (v := undef) (some 15) rfl rfl (by kernel_rfl) (by kernel_rfl) (by kernel_rfl) (by kernel_rfl) (fun _ _ _ h => h) (Or.inr ⟨by rfl, rfl⟩) (fun _ => hHeld) ?_
      try simp only [Go.Act.put, List.setIfInBounds_toArray, List.set_cons_zero, List.set_cons_succ]
      refine anyZ_pure (i := 12) (v := undef) (some 16) rfl rfl (by kernel_rfl) (by kernel_rfl) (by kernel_rfl) (by kernel_rfl) (fun _ _ _ h => h) (Or.inr ⟨by rfl, rfl⟩) (fun _ => hHeld) ?_
      try simp only [Go.Act.put, List.setIfInBounds_toArray, List.set_cons_zero, List.set_cons_succ]
      refine anyZ_pure (i := 13) (v := undef) (some 17) rfl rfl (by kernel_rfl) (by kernel_rfl) (by kernel_rfl) (by kernel_rfl) (fun _ _ _ h => h) (Or.inr ⟨by rfl, rfl⟩) (fun _ => hHeld) ?_
      try simp only [Go.Act.put, List.setIfInBounds_toArray, List.set_cons_zero, List.set_cons_succ]
      refine anyZ_pure (i := 14) (v := undef) (some 18) rfl rfl (by kernel_rfl) (by kernel_rfl) (by kernel_rfl) (by kernel_rfl) (fun _ _ _ h => h) (Or.inr ⟨by rfl, rfl⟩) (fun _ => hHeld) ?_
      try simp only [Go.Act.put, List.setIfInBounds_toArray, List.set_cons_zero, List.set_cons_succ]
      refine anyZ_pure (i := 15) (v := undef) (some 19) rfl rfl (by kernel_rfl) (by kernel_rfl) (by kernel_rfl) (by kernel_rfl) (fun _ _ _ h => h) (Or.inr ⟨by rfl, rfl⟩) (fun _ => hHeld) ?_
      try simp only [Go.Act.put, List.setIfInBounds_toArray, List.set_cons_zero, List.set_cons_succ]
      refine anyZ_pure (i := 16) (v := undef) (some 20) rfl rfl (by kernel_rfl) (by kernel_rfl) (by kernel_rfl) (by kernel_rfl) (fun _ _ _ h => h) (Or.inr ⟨by rfl, rfl⟩) (fun _ => hHeld) ?_
      try simp only [Go.Act.put, List.setIfInBounds_toArray, List.set_cons_zero, List.set_cons_succ]
      refine anyZ_pure (i := 17) (v := undef) (some 21) rfl rfl (by kernel_rfl) (by kernel_rfl) (by kernel_rfl) (by kernel_rfl) (fun _ _ _ h => h) (Or.inr ⟨by rfl, rfl⟩) (fun _ => hHeld) ?_
      try simp only [Go.Act.put, List.setIfInBounds_toArray, List.set_cons_zero, List.set_cons_succ]
      refine anyZ_pure (i := 18) (v := undef) (some 22) rfl rfl (by kernel_rfl) (by kernel_rfl) (by kernel_rfl) (by kernel_rfl) (fun _ _ _ h => h) (Or.inr ⟨by rfl, rfl⟩) (fun _ => hHeld) ?_
      try simp only [Go.Act.put, List.setIfInBounds_toArray, List.set_cons_zero, List.set_cons_succ]
      refine anyZ_pure (i := 19) (v := ?_) (some 23) rfl rfl (by kernel_rfl) (by kernel_rfl) (by kernel_rfl) (by kernel_rfl) (fun _ _ _ h => h) (Or.inl ⟨by rfl, ?_⟩) (fun _ => hHeld) ?_
      rotate_left
      · intro w' _
        go_simp
        first | done | with_reducible rfl
      try simp only [Go.Act.put, List.setIfInBounds_toArray, List.set_cons_zero, List.set_cons_succ]
      refine anyZ_done (by kernel_rfl) ?_ _
      have HT := Lib.hid hHeld
      clear hHeld
      go_wp2
      go_ret
      exact ⟨_, i, LVi, rfl, HOW0.out.fr HT.out (fun _ _ h => h), HFR.out, by have := HIE.out; omega, HJ.out, .inl HIE.out, HRC0.out.fr0 HT.out, HFW.out.trans (HT.out.mono (fun _ _ h => h.elim)) (fun _ _ e => e), HLV.out⟩
    · obtain ⟨t1, t2, t3, t4⟩ := take_fst hdr
      obtain ⟨ys, hys⟩ : ∃ ys, (l.take i).map Prod.fst = ys := ⟨_, rfl⟩
      have HYS := Lib.hid hys
      have hyl : ys.length = i := by rw [← hys]; simp; omega
      rw [hys] at HOW0 t1
      have HTK := Lib.hid (And.intro t1 (And.intro t2 t3))
      rw [hdr] at hrc
      obtain ⟨A, c, hLV, hlc, hcm, hA⟩ := hrc.row.form
      obtain ⟨b, off, rfl⟩ := hA (by simp)
      obtain ⟨n, hn⟩ : ∃ n, (x :: r).length = n := ⟨_, rfl⟩
      subst hLV
      have HRC1 := Lib.hid hrc
      have HN := Lib.hid hn
      have HC := Lib.hid (fun w' (hf : Fr (fun _ => False) wr w') => show w'.cell? ⟨g, 1, none⟩ = some (.slice (some ⟨b, off, none⟩) n c) ∧ w'.cell? ⟨g, 0, none⟩ = some (.int .i64 now) ∧ w'.cell? ⟨b, off, none⟩ = some (.int .i64 x.1) ∧ w'.cell? ⟨b, off + 1, none⟩ = some (.int .i64 x.2) from by
        have h1 := hrc.fr0 hf
        have h2 := h1.cell (i := 0) (by simp)
        rw [Nat.zero_mul, Nat.add_zero] at h2
        exact ⟨by have := h1.blk.cell 1; rw [hn] at this; exact this, h1.blk.cell 0, h2⟩)
      have hn0 : (0 : Int) < (n : Int) := by rw [← hn]; simp only [List.length_cons]; omega
      have hn0n : 0 < n := by omega
      have HNR2 := Lib.hid (show r.length + 1 = n from by rw [← hn]; rfl)
      have HTL := Lib.hid (show ys.length = i ∧ i < N ∧ N ≤ 1000000 from ⟨hyl, by have := HNN.out; omega, by have := HNN.out; have := HQ.out; omega⟩)
      unfold maxLen at hcm
      rw [hn] at hlc
      have hnc : (n : Int) ≤ (c : Int) := by omega
      have hcm' : (c : Int) ≤ 9223372036854775807 := by omega
      have hnN : n ≤ 1000000 := by
        have h1 := HNN.out
        have h2 := HQ.out
        have h3 := congrArg List.length hdr
        rw [hn, List.length_drop] at h3
        omega
      by_cases hle : x.2 ≤ now
      · have HJ2 := Lib.hid (show ∀ j, j < i + 1 → (l.getD j default).2 ≤ now from fun j hj => by
          by_cases e : j = i
          · subst e; rw [t3]; exact hle
          · exact HJ.out j (by omega))
        have HOW := HOW0
        clear t1 t2 t3 t4 hdr hrc hn hA hys hyl HJ hcm
        go_wp2_with fail
        refine wp_region_Z [] (fun w' => Fr (fun _ => False) wr w') (by kernel_rfl) ((Fr.refl _ _).drew) (fun hHeld => ?_)
        refine anyZ_pure (i := 0) (v := ?_) (some 4) rfl rfl (by kernel_rfl) (by kernel_rfl) (by kernel_rfl) (by kernel_rfl) (fun _ _ _ h => h) (Or.inl ⟨by rfl, ?_⟩) (fun _ => hHeld) ?_
        rotate_left
        · intro w' _
          go_simp
          first | done | with_reducible rfl
        try simp only [Go.Act.put, List.setIfInBounds_toArray, List.set_cons_zero, List.set_cons_succ]
        refine anyZ_pure (i := 1) (v := ?_) (some 5) rfl rfl (by kernel_rfl) (by kernel_rfl) (by kernel_rfl) (by kernel_rfl) (fun _ _ _ h => h) (Or.inl ⟨by rfl, ?_⟩) (fun _ => hHeld) ?_
        rotate_left
        · intro w' _
          go_simp
          first | done | with_reducible rfl
        try simp only [Go.Act.put, List.setIfInBounds_toArray, List.set_cons_zero, List.set_cons_succ]
        refine anyZ_pure (i := 2) (v := ?_) (some 6) rfl rfl (by kernel_rfl) (by kernel_rfl) (by kernel_rfl) (by kernel_rfl) (fun _ _ _ h => h) (Or.inl ⟨by rfl, ?_⟩) (fun _ => hHeld) ?_
        rotate_left
        · intro w' _
          go_simp
          first | done | with_reducible rfl
        try simp only [Go.Act.put, List.setIfInBounds_toArray, List.set_cons_zero, List.set_cons_succ]
        refine anyZ_read (i := 3) (v := ?_) (some 7) [4, 5, 6, 7, 8, 9, 10, 11, 12, 13, 14, 15, 16, 17, 18, 19] rfl rfl (by kernel_rfl) (by kernel_rfl) (by kernel_rfl) (by kernel_rfl) (by kernel_rfl) (by kernel_rfl) (fun _ _ _ h => h) (Or.inl ⟨by rfl, ?_⟩) hHeld ?_
        rotate_left
        · intro w' hSw
          obtain ⟨q0, q1, q2⟩ := HC.out w' hSw
          go_simp
          first | done | with_reducible rfl
        try simp only [Go.Act.put, List.setIfInBounds_toArray, List.set_cons_zero, List.set_cons_succ]
        refine anyZ_pure (i := 4) (v := ?_) (some 8) rfl rfl (by kernel_rfl) (by kernel_rfl) (by kernel_rfl) (by kernel_rfl) (fun _ _ _ h => h) (Or.inl ⟨by rfl, ?_⟩) (fun _ => hHeld) ?_
        rotate_left
        · intro w' _
          go_simp
          first | done | with_reducible rfl
        try simp only [Go.Act.put, List.setIfInBounds_toArray, List.set_cons_zero, List.set_cons_succ]
        refine anyZ_pure (i := 5) (v := ?_) (some 9) rfl rfl (by kernel_rfl) (by kernel_rfl) (by kernel_rfl) (by kernel_rfl) (fun _ _ _ h => h) (Or.inl ⟨by rfl, ?_⟩) (fun _ => hHeld) ?_
        rotate_left
        · intro w' _
          go_simp
          first | done | with_reducible rfl
        try simp only [Go.Act.put, List.setIfInBounds_toArray, List.set_cons_zero, List.set_cons_succ]
        refine anyZ_pure (i := 6) (v := ?_) (some 10) rfl rfl (by kernel_rfl) (by kernel_rfl) (by kernel_rfl) (by kernel_rfl) (fun _ _ _ h => h) (Or.inl ⟨by rfl, ?_⟩) (fun _ => hHeld) ?_
        rotate_left
        · intro w' _
          go_simp
          first | done | with_reducible rfl
        try simp only [Go.Act.put, List.setIfInBounds_toArray, List.set_cons_zero, List.set_cons_succ]
        refine anyZ_pure (i := 7) (v := ?_) (some 11) rfl rfl (by kernel_rfl) (by kernel_rfl) (by kernel_rfl) (by kernel_rfl) (fun _ _ _ h => h) (Or.inl ⟨by rfl, ?_⟩) (fun _ => hHeld) ?_
        rotate_left
        · intro w' _
          go_simp
          first | done | with_reducible rfl
        try simp only [Go.Act.put, List.setIfInBounds_toArray, List.set_cons_zero, List.set_cons_succ]
        refine anyZ_pure (i := 8) (v := ?_) (some 12) rfl rfl (by kernel_rfl) (by kernel_rfl) (by kernel_rfl) (by kernel_rfl) (fun _ _ _ h => h) (Or.inl ⟨by rfl, ?_⟩) (fun _ => hHeld) ?_
        rotate_left
        · intro w' _
          go_simp
          first | done | with_reducible rfl
        try simp only [Go.Act.put, List.setIfInBounds_toArray, List.set_cons_zero, List.set_cons_succ]
        refine anyZ_pure (i := 9) (v := ?_) (some 13) rfl rfl (by kernel_rfl) (by kernel_rfl) (by kernel_rfl) (by kernel_rfl) (fun _ _ _ h => h) (Or.inl ⟨by rfl, ?_⟩) (fun _ => hHeld) ?_
        rotate_left
        · intro w' _
          go_simp
          first | done | with_reducible rfl
        try simp only [Go.Act.put, List.setIfInBounds_toArray, List.set_cons_zero, List.set_cons_succ]
        refine anyZ_read (i := 10) (v := ?_) (some 14) [11, 12, 13, 18, 19] rfl rfl (by kernel_rfl) (by kernel_rfl) (by kernel_rfl) (by kernel_rfl) (by kernel_rfl) (by kernel_rfl) (fun _ _ _ h => h) (Or.inl ⟨by rfl, ?_⟩) hHeld ?_
        rotate_left
        · intro w' hSw
          obtain ⟨q0, q1, q2⟩ := HC.out w' hSw
          go_simp
          first | done | with_reducible rfl
        try simp only [Go.Act.put, List.setIfInBounds_toArray, List.set_cons_zero, List.set_cons_succ]
        refine anyZ_pure (i := 11) (v := ?_) (some 15) rfl rfl (by kernel_rfl) (by kernel_rfl) (by kernel_rfl) (by kernel_rfl) (fun _ _ _ h => h) (Or.inl ⟨by rfl, ?_⟩) (fun _ => hHeld) ?_
        rotate_left
        · intro w' _
          go_simp
          first | done | with_reducible rfl
        try simp only [Go.Act.put, List.setIfInBounds_toArray, List.set_cons_zero, List.set_cons_succ]
        refine anyZ_pure (i := 12) (v := ?_) (some 16) rfl rfl (by kernel_rfl) (by kernel_rfl) (by kernel_rfl) (by kernel_rfl) (fun _ _ _ h => h) (Or.inl ⟨by rfl, ?_⟩) (fun _ => hHeld) ?_
        rotate_left
        · intro w' _
          go_simp
          first | done | with_reducible rfl
        try simp only [Go.Act.put, List.setIfInBounds_toArray, List.set_cons_zero, List.set_cons_succ]
        refine anyZ_read (i := 13) (v := ?_) (some 17) [18, 19] rfl rfl (by kernel_rfl) (by kernel_rfl) (by kernel_rfl) (by kernel_rfl) (by kernel_rfl) (by kernel_rfl) (fun _ _ _ h => h) (Or.inl ⟨by rfl, ?_⟩) hHeld ?_
        rotate_left
        · intro w' hSw
          obtain ⟨q0, q1, q2⟩ := HC.out w' hSw
          go_simp
          first | done | with_reducible rfl
        try simp only [Go.Act.put, List.setIfInBounds_toArray, List.set_cons_zero, List.set_cons_succ]
        refine anyZ_pure (i := 14) (v := ?_) (some 18) rfl rfl (by kernel_rfl) (by kernel_rfl) (by kernel_rfl) (by kernel_rfl) (fun _ _ _ h => h) (Or.inl ⟨by rfl, ?_⟩) (fun _ => hHeld) ?_
        rotate_left
        · intro w' _
          go_simp
          first | done | with_reducible rfl
        try simp only [Go.Act.put, List.setIfInBounds_toArray, List.set_cons_zero, List.set_cons_succ]
        refine anyZ_pure (i := 15) (v := ?_) (some 19) rfl rfl (by kernel_rfl) (by kernel_rfl) (by kernel_rfl) (by kernel_rfl) (fun _ _ _ h => h) (Or.inl ⟨by rfl, ?_⟩) (fun _ => hHeld) ?_
        rotate_left
        · intro w' _
          go_simp
          first | done | with_reducible rfl
        try simp only [Go.Act.put, List.setIfInBounds_toArray, List.set_cons_zero, List.set_cons_succ]
        refine anyZ_pure (i := 16) (v := ?_) (some 20) rfl rfl (by kernel_rfl) (by kernel_rfl) (by kernel_rfl) (by kernel_rfl) (fun _ _ _ h => h) (Or.inl ⟨by rfl, ?_⟩) (fun _ => hHeld) ?_
        rotate_left
        · intro w' _
          go_simp
          first | done | with_reducible rfl
        try simp only [Go.Act.put, List.setIfInBounds_toArray, List.set_cons_zero, List.set_cons_succ]
        refine anyZ_read (i := 17) (v := ?_) (some 21) [18, 19] rfl rfl (by kernel_rfl) (by kernel_rfl) (by kernel_rfl) (by kernel_rfl) (by kernel_rfl) (by kernel_rfl) (fun _ _ _ h => h) (Or.inl ⟨by rfl, ?_⟩) hHeld ?_
        rotate_left
        · intro w' hSw
          obtain ⟨q0, q1, q2⟩ := HC.out w' hSw
          go_simp
          first | done | with_reducible rfl
        try simp only [Go.Act.put, List.setIfInBounds_toArray, List.set_cons_zero, List.set_cons_succ]
        refine anyZ_pure (i := 18) (v := ?_) (some 22) rfl rfl (by kernel_rfl) (by kernel_rfl) (by kernel_rfl) (by kernel_rfl) (fun _ _ _ h => h) (Or.inl ⟨by rfl, ?_⟩) (fun _ => hHeld) ?_
        rotate_left
        · intro w' _
          go_simp
          first | done | with_reducible rfl
        try simp only [Go.Act.put, List.setIfInBounds_toArray, List.set_cons_zero, List.set_cons_succ]
        refine anyZ_pure (i := 19) (v := ?_) (some 23) rfl rfl (by kernel_rfl) (by kernel_rfl) (by kernel_rfl) (by kernel_rfl) (fun _ _ _ h => h) (Or.inl ⟨by rfl, ?_⟩) (fun _ => hHeld) ?_
        rotate_left
        · intro w' _
          go_simp
          first | done | with_reducible rfl
        try simp only [Go.Act.put, List.setIfInBounds_toArray, List.set_cons_zero, List.set_cons_succ]
        refine anyZ_done (by kernel_rfl) ?_ _
        have HT := Lib.hid hHeld
        clear hHeld
        generalize wr.drew = wt at *
        obtain ⟨q0, q1, q2, q3⟩ := HC.out _ HT.out
        have HOWT := Lib.hid (HOW.out.fr HT.out (fun _ _ h => h))
        have HRCT := Lib.hid (HRC1.out.fr0 HT.out)
        clear q1 q3 HC
        by_cases hc1 : c = 1
        · subst hc1
          obtain rfl : n = 1 := by omega
          have HS2 := Lib.hid (show ∀ W, Sl W 2 (.slice (some ⟨b, off, none⟩) 0 0) 0 (apc r) from fun W => by
            have : r = [] := List.eq_nil_of_length_eq_zero (by have := HNR2.out; omega)
            rw [this]; exact Sl.none)
          go_wp2_with (first
            | (at_builtin; (refine wpList_appendI _ rfl (.tmp 24) (.tmp 32) rfl _ ys rfl x.1 HOWT.out rfl (by have := HTL.out; omega) ?_; intro g1 cp w2 ho1 hf2 hm2; have HO2 := Lib.hid ho1; have HF2 := Lib.hid hf2; have HM2 := Lib.hid hm2; have HR2 := Lib.hid (HRCT.out.fr hf2 (HOWT.out.off HRCT.out)); have HNR := Lib.hid (NewA.fresh w2); have HCL := Lib.hid (fun w' (hf : Fr (fun _ => False) w2 w') => show w'.cell? ⟨g, 1, none⟩ = some (.slice (some ⟨b, off, none⟩) 1 1) from by have := (HR2.out.fr0 hf).blk.cell 1; rw [HN.out] at this; exact this); have q9 := HCL.out _ HNR.out.fr; clear ho1 hf2 hm2))
            | (at_builtin; (refine wpList_appendR Try.teA rfl (.tmp 35) (.tmp 40) rfl _ 0 [] rfl HNR.out.row _ 0 (apc r) rfl (HS2.out _) (apc_one _) (by unfold maxLen; omega) (by omega) ?_; intro A8 c8 w8 hr8 hf8 hm8; have N8 := Lib.hid (HNR.out.step hr8 hf8 hm8); have q8 := HCL.out w8 N8.out.fr; have z1 := (HR2.out.blk.fr N8.out.fr (fun h => h)).frozen 1; clear hr8 hf8 hm8)))
          have n8 := N8.out
          rw [List.nil_append] at n8
          have HR := Lib.hid (HR2.out.relist (l' := r) (by have := HNR2.out; omega) n8)
          have hno := HO2.out.off HR2.out
          have HO3 := Lib.hid (fun v => (HO2.out.fr n8.fr (fun _ _ h => h)).fr (fr_set1 (w := w8) (g := g) 1 v) (fun k hk e => hno k (.inl e) hk))
          have HNE := Lib.hid n8.new
          clear n8 hno
          go_roundw
          case rel => exact ⟨i + 1, _, _, rfl, by have := HTL.out; omega, Lib.hid (by rw [HTK.out.1]; exact HO3.out _), Lib.hid (fun k hk => by
              rcases HM2.out with e | ⟨y, e, hy⟩
              · exact HFR.out k (e.symm.trans hk)
              · rw [e] at hk; injection hk with hk; have h1 := HT.out.size; have h2 := HFW.out.size; omega), HJ2, Lib.hid (by rw [HTK.out.2.1]; exact HR.out.1), Lib.hid (((HFW.out.trans HT.out (fun _ _ h => h.elim)).trans HF2.out (fun y hy e => by have := HFR.out y e; omega)).trans HR.out.2.1 (fun _ _ e => e)), Lib.hid (.inr (fun y hy => by
              have := HNE.out y hy; have h2 := HF2.out.size; have h3 := HFW.out.size; have h4 := HT.out.size; omega))⟩
          case measure => rw [HOW0.out.len]; simp only [slLen]; have := HTL.out; omega
        · have hc1z : (1 : Int) ≤ (c : Int) := by omega
          have hn1z : (1 : Int) ≤ (n : Int) := by omega
          have HS2 := Lib.hid (fun (w2 W : World) (hr : RC w2 g now (.slice (some ⟨b, off, none⟩) (x :: r).length c) (x :: r)) (hf : Fr (fun _ => False) w2 W) => show Sl W 2 (.slice (some ⟨b, off + 2, none⟩) (n - 1) (c - 1)) (n - 1) (apc r) from by
            have := aDrop (l := x :: r) (hr.row.fr0 hf) (k := 1) (c' := c - 1) (by simp)
            rw [HN.out] at this; exact this)
          go_wp2_with (first
            | (at_builtin; (refine wpList_appendI _ rfl (.tmp 24) (.tmp 32) rfl _ ys rfl x.1 HOWT.out rfl (by have := HTL.out; omega) ?_; intro g1 cp w2 ho1 hf2 hm2; have HO2 := Lib.hid ho1; have HF2 := Lib.hid hf2; have HM2 := Lib.hid hm2; have HR2 := Lib.hid (HRCT.out.fr hf2 (HOWT.out.off HRCT.out)); have HNR := Lib.hid (NewA.fresh w2); have HCL := Lib.hid (fun w' (hf : Fr (fun _ => False) w2 w') => show w'.cell? ⟨g, 1, none⟩ = some (.slice (some ⟨b, off, none⟩) n c) from by have := (HR2.out.fr0 hf).blk.cell 1; rw [HN.out] at this; exact this); have q9 := HCL.out _ HNR.out.fr; clear ho1 hf2 hm2))
            | (at_builtin; (refine wpList_appendR Try.teA rfl (.tmp 35) (.tmp 40) rfl _ 0 [] rfl HNR.out.row _ (n - 1) (apc r) rfl (HS2.out w2 _ HR2.out HNR.out.fr) (apc_one _) (by unfold maxLen; omega) (by omega) ?_; intro A8 c8 w8 hr8 hf8 hm8; have N8 := Lib.hid (HNR.out.step hr8 hf8 hm8); have q8 := HCL.out w8 N8.out.fr; have z1 := (HR2.out.blk.fr N8.out.fr (fun h => h)).frozen 1; clear hr8 hf8 hm8)))
          have n8 := N8.out
          rw [List.nil_append, Nat.zero_add] at n8
          have HR := Lib.hid (HR2.out.relist (l' := r) (by have := HNR2.out; omega) n8)
          have hno := HO2.out.off HR2.out
          have HO3 := Lib.hid (fun v => (HO2.out.fr n8.fr (fun _ _ h => h)).fr (fr_set1 (w := w8) (g := g) 1 v) (fun k hk e => hno k (.inl e) hk))
          have HNE := Lib.hid n8.new
          clear n8 hno
          go_roundw
          case rel => exact ⟨i + 1, _, _, rfl, by have := HTL.out; omega, Lib.hid (by rw [HTK.out.1]; exact HO3.out _), Lib.hid (fun k hk => by
              rcases HM2.out with e | ⟨y, e, hy⟩
              · exact HFR.out k (e.symm.trans hk)
              · rw [e] at hk; injection hk with hk; have h1 := HT.out.size; have h2 := HFW.out.size; omega), HJ2, Lib.hid (by rw [HTK.out.2.1]; exact HR.out.1), Lib.hid (((HFW.out.trans HT.out (fun _ _ h => h.elim)).trans HF2.out (fun y hy e => by have := HFR.out y e; omega)).trans HR.out.2.1 (fun _ _ e => e)), Lib.hid (.inr (fun y hy => by
              have := HNE.out y hy; have h2 := HF2.out.size; have h3 := HFW.out.size; have h4 := HT.out.size; omega))⟩
          case measure => rw [HOW0.out.len]; simp only [slLen]; have := HTL.out; omega
      · have HGT := Lib.hid (show now < (l.getD i default).2 from by rw [t3]; omega)
        have hled : decide (x.2 ≤ now) = false := decide_eq_false hle
        clear t1 t2 t3 t4 hdr hrc hn hA hys hyl hcm
        go_wp2_with fail
        refine wp_region_Z [] (fun w' => Fr (fun _ => False) wr w') (by kernel_rfl) ((Fr.refl _ _).drew) (fun hHeld => ?_)
        refine anyZ_pure (i := 0) (v := ?_) (some 4) rfl rfl (by kernel_rfl) (by kernel_rfl) (by kernel_rfl) (by kernel_rfl) (fun _ _ _ h => h) (Or.inl ⟨by rfl, ?_⟩) (fun _ => hHeld) ?_
        rotate_left
        · intro w' _
          go_simp
          first | done | with_reducible rfl
        try simp only [Go.Act.put, List.setIfInBounds_toArray, List.set_cons_zero, List.set_cons_succ]
        refine anyZ_pure (i := 1) (v := ?_) (some 5) rfl rfl (by kernel_rfl) (by kernel_rfl) (by kernel_rfl) (by kernel_rfl) (fun _ _ _ h => h) (Or.inl ⟨by rfl, ?_⟩) (fun _ => hHeld) ?_
        rotate_left
        · intro w' _
          go_simp
          first | done | with_reducible rfl
        try simp only [Go.Act.put, List.setIfInBounds_toArray, List.set_cons_zero, List.set_cons_succ]
        refine anyZ_pure (i := 2) (v := ?_) (some 6) rfl rfl (by kernel_rfl) (by kernel_rfl) (by kernel_rfl) (by kernel_rfl) (fun _ _ _ h => h) (Or.inl ⟨by rfl, ?_⟩) (fun _ => hHeld) ?_
        rotate_left
        · intro w' _
          go_simp
          first | done | with_reducible rfl
        try simp only [Go.Act.put, List.setIfInBounds_toArray, List.set_cons_zero, List.set_cons_succ]
        refine anyZ_read (i := 3) (v := ?_) (some 7) [4, 5, 6, 7, 8, 9, 10, 11, 12, 13, 14, 15, 16, 17, 18, 19] rfl rfl (by kernel_rfl) (by kernel_rfl) (by kernel_rfl) (by kernel_rfl) (by kernel_rfl) (by kernel_rfl) (fun _ _ _ h => h) (Or.inl ⟨by rfl, ?_⟩) hHeld ?_
        rotate_left
        · intro w' hSw
          obtain ⟨q0, q1, q2⟩ := HC.out w' hSw
          go_simp
          first | done | with_reducible rfl
        try simp only [Go.Act.put, List.setIfInBounds_toArray, List.set_cons_zero, List.set_cons_succ]
        refine anyZ_pure (i := 4) (v := ?_) (some 8) rfl rfl (by kernel_rfl) (by kernel_rfl) (by kernel_rfl) (by kernel_rfl) (fun _ _ _ h => h) (Or.inl ⟨by rfl, ?_⟩) (fun _ => hHeld) ?_
        rotate_left
        · intro w' _
          go_simp
          first | done | with_reducible rfl
        try simp only [Go.Act.put, List.setIfInBounds_toArray, List.set_cons_zero, List.set_cons_succ]
        refine anyZ_pure (i := 5) (v := ?_) (some 9) rfl rfl (by kernel_rfl) (by kernel_rfl) (by kernel_rfl) (by kernel_rfl) (fun _ _ _ h => h) (Or.inl ⟨by rfl, ?_⟩) (fun _ => hHeld) ?_
        rotate_left
        · intro w' _
          go_simp
          first | done | with_reducible rfl
        try simp only [Go.Act.put, List.setIfInBounds_toArray, List.set_cons_zero, List.set_cons_succ]
        refine anyZ_pure (i := 6) (v := ?_) (some 10) rfl rfl (by kernel_rfl) (by kernel_rfl) (by kernel_rfl) (by kernel_rfl) (fun _ _ _ h => h) (Or.inl ⟨by rfl, ?_⟩) (fun _ => hHeld) ?_
        rotate_left
        · intro w' _
          go_simp
          first | done | with_reducible rfl
        try simp only [Go.Act.put, List.setIfInBounds_toArray, List.set_cons_zero, List.set_cons_succ]
        refine anyZ_pure (i := 7) (v := ?_) (some 11) rfl rfl (by kernel_rfl) (by kernel_rfl) (by kernel_rfl) (by kernel_rfl) (fun _ _ _ h => h) (Or.inl ⟨by rfl, ?_⟩) (fun _ => hHeld) ?_
        rotate_left
        · intro w' _
          go_simp
          first | done | with_reducible rfl
        try simp only [Go.Act.put, List.setIfInBounds_toArray, List.set_cons_zero, List.set_cons_succ]
        refine anyZ_pure (i := 8) (v := ?_) (some 12) rfl rfl (by kernel_rfl) (by kernel_rfl) (by kernel_rfl) (by kernel_rfl) (fun _ _ _ h => h) (Or.inl ⟨by rfl, ?_⟩) (fun _ => hHeld) ?_
        rotate_left
        · intro w' _
          go_simp
          first | done | with_reducible rfl
        try simp only [Go.Act.put, List.setIfInBounds_toArray, List.set_cons_zero, List.set_cons_succ]
        refine anyZ_pure (i := 9) (v := ?_) (some 13) rfl rfl (by kernel_rfl) (by kernel_rfl) (by kernel_rfl) (by kernel_rfl) (fun _ _ _ h => h) (Or.inl ⟨by rfl, ?_⟩) (fun _ => hHeld) ?_
        rotate_left
        · intro w' _
          go_simp
          first | done | with_reducible rfl
        try simp only [Go.Act.put, List.setIfInBounds_toArray, List.set_cons_zero, List.set_cons_succ]
        refine anyZ_read (i := 10) (v := ?_) (some 14) [11, 12, 13, 18, 19] rfl rfl (by kernel_rfl) (by kernel_rfl) (by kernel_rfl) (by kernel_rfl) (by kernel_rfl) (by kernel_rfl) (fun _ _ _ h => h) (Or.inl ⟨by rfl, ?_⟩) hHeld ?_
        rotate_left
        · intro w' hSw
          obtain ⟨q0, q1, q2⟩ := HC.out w' hSw
          go_simp
          first | done | with_reducible rfl
        try simp only [Go.Act.put, List.setIfInBounds_toArray, List.set_cons_zero, List.set_cons_succ]
        refine anyZ_pure (i := 11) (v := ?_) (some 15) rfl rfl (by kernel_rfl) (by kernel_rfl) (by kernel_rfl) (by kernel_rfl) (fun _ _ _ h => h) (Or.inl ⟨by rfl, ?_⟩) (fun _ => hHeld) ?_
        rotate_left
        · intro w' _
          go_simp
          first | done | with_reducible rfl
        try simp only [Go.Act.put, List.setIfInBounds_toArray, List.set_cons_zero, List.set_cons_succ]
        refine anyZ_pure (i := 12) (v := ?_) (some 16) rfl rfl (by kernel_rfl) (by kernel_rfl) (by kernel_rfl) (by kernel_rfl) (fun _ _ _ h => h) (Or.inl ⟨by rfl, ?_⟩) (fun _ => hHeld) ?_
        rotate_left
        · intro w' _
          go_simp
          first | done | with_reducible rfl
        try simp only [Go.Act.put, List.setIfInBounds_toArray, List.set_cons_zero, List.set_cons_succ]
        refine anyZ_read (i := 13) (v := ?_) (some 17) [18, 19] rfl rfl (by kernel_rfl) (by kernel_rfl) (by kernel_rfl) (by kernel_rfl) (by kernel_rfl) (by kernel_rfl) (fun _ _ _ h => h) (Or.inl ⟨by rfl, ?_⟩) hHeld ?_
        rotate_left
        · intro w' hSw
          obtain ⟨q0, q1, q2⟩ := HC.out w' hSw
          go_simp
          first | done | with_reducible rfl
        try simp only [Go.Act.put, List.setIfInBounds_toArray, List.set_cons_zero, List.set_cons_succ]
        refine anyZ_pure (i := 14) (v := ?_) (some 18) rfl rfl (by kernel_rfl) (by kernel_rfl) (by kernel_rfl) (by kernel_rfl) (fun _ _ _ h => h) (Or.inl ⟨by rfl, ?_⟩) (fun _ => hHeld) ?_
        rotate_left
        · intro w' _
          go_simp
          first | done | with_reducible rfl
        try simp only [Go.Act.put, List.setIfInBounds_toArray, List.set_cons_zero, List.set_cons_succ]
        refine anyZ_pure (i := 15) (v := ?_) (some 19) rfl rfl (by kernel_rfl) (by kernel_rfl) (by kernel_rfl) (by kernel_rfl) (fun _ _ _ h => h) (Or.inl ⟨by rfl, ?_⟩) (fun _ => hHeld) ?_
        rotate_left
        · intro w' _
          go_simp
          first | done | with_reducible rfl
        try simp only [Go.Act.put, List.setIfInBounds_toArray, List.set_cons_zero, List.set_cons_succ]
        refine anyZ_pure (i := 16) (v := ?_) (some 20) rfl rfl (by kernel_rfl) (by kernel_rfl) (by kernel_rfl) (by kernel_rfl) (fun _ _ _ h => h) (Or.inl ⟨by rfl, ?_⟩) (fun _ => hHeld) ?_
        rotate_left
        · intro w' _
          go_simp
          first | done | with_reducible rfl
        try simp only [Go.Act.put, List.setIfInBounds_toArray, List.set_cons_zero, List.set_cons_succ]
        refine anyZ_read (i := 17) (v := ?_) (some 21) [18, 19] rfl rfl (by kernel_rfl) (by kernel_rfl) (by kernel_rfl) (by kernel_rfl) (by kernel_rfl) (by kernel_rfl) (fun _ _ _ h => h) (Or.inl ⟨by rfl, ?_⟩) hHeld ?_
        rotate_left
        · intro w' hSw
          obtain ⟨q0, q1, q2⟩ := HC.out w' hSw
          go_simp
          first | done | with_reducible rfl
        try simp only [Go.Act.put, List.setIfInBounds_toArray, List.set_cons_zero, List.set_cons_succ]
        refine anyZ_pure (i := 18) (v := ?_) (some 22) rfl rfl (by kernel_rfl) (by kernel_rfl) (by kernel_rfl) (by kernel_rfl) (fun _ _ _ h => h) (Or.inl ⟨by rfl, ?_⟩) (fun _ => hHeld) ?_
        rotate_left
        · intro w' _
          go_simp
          first | done | with_reducible rfl
        try simp only [Go.Act.put, List.setIfInBounds_toArray, List.set_cons_zero, List.set_cons_succ]
        refine anyZ_pure (i := 19) (v := ?_) (some 23) rfl rfl (by kernel_rfl) (by kernel_rfl) (by kernel_rfl) (by kernel_rfl) (fun _ _ _ h => h) (Or.inl ⟨by rfl, ?_⟩) (fun _ => hHeld) ?_
        rotate_left
        · intro w' _
          go_simp
          first | done | with_reducible rfl
        try simp only [Go.Act.put, List.setIfInBounds_toArray, List.set_cons_zero, List.set_cons_succ]
        refine anyZ_done (by kernel_rfl) ?_ _
        have HT := Lib.hid hHeld
        clear hHeld
        go_wp2
        go_ret
        exact ⟨_, i, _, rfl, by rw [HYS.out]; exact HOW0.out.fr HT.out (fun _ _ h => h), HFR.out, by have := HTL.out; have := HNN.out; omega, HJ.out, .inr HGT.out, HRC0.out.fr0 HT.out, HFW.out.trans (HT.out.mono (fun _ _ h => h.elim)) (fun _ _ e => e), HLV.out⟩
end Go.Proofs.Ytholaofgdahcbaa
