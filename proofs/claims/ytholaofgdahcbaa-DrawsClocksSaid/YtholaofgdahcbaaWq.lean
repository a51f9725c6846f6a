/- The reference's clock: Drop. -/
import Derived.Test.YtholaofgdahcbaaWp
namespace Go.Proofs.Ytholaofgdahcbaa
open Go.RowKit

theorem cut_filter {l : List (Int × Int)} {id : Int} {i : Nat} (hd : (l.map Prod.fst).Nodup) (hi : i < l.length) (he : (l.getD i default).1 = id) : l.take i ++ l.drop (i + 1) = l.filter (fun c => c.1 != id) := by
  induction l generalizing i with
  | nil => simp at hi
  | cons c r ih =>
    simp only [List.map_cons, List.nodup_cons] at hd
    cases i with
    | zero =>
      have : c.1 = id := by simpa using he
      have hr : r.filter (fun c => c.1 != id) = r := by
        rw [List.filter_eq_self]
        intro x hx
        have : x.1 ≠ id := fun e => hd.1 (by rw [this, ← e]; exact List.mem_map_of_mem hx)
        simpa using this
      simp [List.filter_cons, this, hr]
    | succ i =>
      have hne : c.1 ≠ id := fun e => hd.1 (by
        have hi' : i < r.length := by simpa using hi
        have h2 : r.getD i default = r[i] := by simp [List.getD, hi']
        have h1 : (r.getD i default).1 = id := by simpa [List.getD] using he
        rw [e, ← h1, h2]
        exact List.mem_map_of_mem (List.getElem_mem hi'))
      have := ih hd.2 (i := i) (by simpa using hi) (by simpa [List.getD] using he)
      simp [List.filter_cons, hne, this]
theorem any_at {l : List (Int × Int)} {id : Int} {i : Nat} (hi : i < l.length) (he : (l.getD i default).1 = id) : l.any (fun c => c.1 == id) = true := by
  rw [List.any_eq_true]
  refine ⟨l[i], List.getElem_mem hi, ?_⟩
  have : l.getD i default = l[i] := by simp [List.getD, hi]
  rw [this] at he
  simpa using he
theorem none_at {l : List (Int × Int)} {id : Int} (h : ∀ j, j < l.length → (l.getD j default).1 ≠ id) : l.any (fun c => c.1 == id) = false ∧ l.filter (fun c => c.1 != id) = l := by
  have h2 : ∀ c ∈ l, c.1 ≠ id := fun c hc => by
    obtain ⟨j, hj, rfl⟩ := List.mem_iff_getElem.1 hc
    have := h j hj
    have e : l.getD j default = l[j] := by simp [List.getD, hj]
    rwa [e] at this
  constructor
  · rw [List.any_eq_false]; intro c hc; simpa using h2 c hc
  · rw [List.filter_eq_self]; intro c hc; simpa using h2 c hc

set_option maxRecDepth 100000 in
set_option maxHeartbeats 4000000 in
theorem rdrop_any (g : Nat) (now id : Int) (LV : Value) (l : List (Int × Int)) (w : World) (h : RC w g now LV l) (hq : l.length ≤ 1000000) (hd : (l.map Prod.fst).Nodup) :
    Calls Try.prog 12 #[.pointer (some ⟨g, 0, none⟩), .int .i64 id] w fun e w' => e = .returned (.bool (l.any (fun c => c.1 == id))) ∧ ∃ LV', RTo w g LV w' now LV' (l.filter (fun c => c.1 != id)) := by
  obtain ⟨A, c, hLV, hlc, hcm, hA⟩ := h.row.form
  subst hLV
  obtain ⟨n, hn⟩ : ∃ n, l.length = n := ⟨_, rfl⟩
  have HCA := Lib.hid (fun w' (hf : Fr (fun _ => False) w w') => show w'.cell? ⟨g, 1, none⟩ = some (.slice A n c) from by rw [← hn]; exact (h.fr0 hf).blk.cell 1)
  have H := Lib.hid h
  have HA := Lib.hid hA
  have HN := Lib.hid hn
  have HND := Lib.hid hd
  unfold maxLen at hcm
  rw [hn] at hlc hq
  have hcm' : (c : Int) ≤ 9223372036854775807 := by omega
  have hnc : (n : Int) ≤ (c : Int) := by omega
  clear h hA hd hn hcm
  have c1 := HCA.out w (Fr.refl _ _)
  go_enter Try.func12, Try.ntmps12
  go_wp2
  go_loopw [5] (fun u wr => ∃ i : Nat, u = .int .i64 i ∧ i ≤ n ∧ wr = w ∧ Hid (∀ j, j < i → (l.getD j default).1 ≠ id)) (fun u _ => n - (intOf u).toNat)
  case atStart => exact ⟨0, rfl, Nat.zero_le _, rfl, Lib.hid (fun j hj => by omega)⟩
  case round =>
    obtain ⟨i, rfl, hi, rfl, HNO⟩ := hrel
    by_cases hlt : i < n
    · have hltz : (i : Int) < (n : Int) := by omega
      have hil : i < l.length := by rw [HN.out]; exact hlt
      obtain ⟨b, off, rfl⟩ := HA.out (by omega)
      have m0 := (H.out.cell hil).1
      have HIL := Lib.hid hil
      obtain ⟨x, hx⟩ : ∃ x, (l.getD i default).1 = x := ⟨_, rfl⟩
      rw [hx] at m0
      by_cases he : x = id
      · have hed : (x == id) = true := by simpa using he
        have HEQ := Lib.hid (show (l.getD i default).1 = id from hx.trans he)
        have HANY := Lib.hid (any_at hil HEQ.out)
        have HC := Lib.hid (fun w' (hf : Fr (fun _ => False) wr w') => HCA.out w' hf)
        have HS1 := Lib.hid (fun W (hf : Fr (fun _ => False) wr W) => aTake (l := l) (H.out.row.fr0 hf) (k := i) (by omega))
        clear hx he hil HNO
        by_cases hck : c = i + 1
        · obtain rfl : n = i + 1 := by omega
          subst hck
          have HS2 := Lib.hid (fun W => show Sl W 2 (.slice (some ⟨b, off, none⟩) 0 0) 0 (apc (l.drop (i + 1))) from by rw [List.drop_eq_nil_of_le (by have := HN.out; omega)]; exact Sl.none)
          have hi0 : (0 : Int) ≤ (i : Int) := by omega
          have hkc : (i : Int) ≤ (i : Int) + 1 := by omega
          have hb0 : (0 : Int) ≤ (i : Int) + 1 := by omega
          have hwr : IntKind.i64.wrap ((i : Int) + 1) = (i : Int) + 1 := by rw [IntKind.wrap_i64]; omega
          have htk : ((i : Int) + 1).toNat = i + 1 := by omega
          rw [show ((i + 1 : Nat) : Int) = (i : Int) + 1 from rfl] at *
          go_wp2_with fail
          clear m0 c1
          refine wp_region_Z [19] (fun w' => Fr (fun _ => False) wr w') (by kernel_rfl) ((Fr.refl _ _).drew) (fun hHeld => ?_)
          refine anyZ_pure (i := 0) (v := ?_) (some 25) rfl rfl (by kernel_rfl) (by kernel_rfl) (by kernel_rfl) (by kernel_rfl) (fun _ _ _ h => h) (Or.inl ⟨by rfl, ?_⟩) (fun _ => hHeld) ?_
          rotate_left
          · intro w' _
            go_simp
            first | done | with_reducible rfl
          try simp only [Go.Act.put, List.setIfInBounds_toArray, List.set_cons_zero, List.set_cons_succ]
          refine anyZ_pure (i := 2) (v := ?_) (some 27) rfl rfl (by kernel_rfl) (by kernel_rfl) (by kernel_rfl) (by kernel_rfl) (fun _ _ _ h => h) (Or.inl ⟨by rfl, ?_⟩) (fun _ => hHeld) ?_
          rotate_left
          · intro w' _
            go_simp
            first | done | with_reducible rfl
          try simp only [Go.Act.put, List.setIfInBounds_toArray, List.set_cons_zero, List.set_cons_succ]
          refine anyZ_pure (i := 3) (v := ?_) (some 28) rfl rfl (by kernel_rfl) (by kernel_rfl) (by kernel_rfl) (by kernel_rfl) (fun _ _ _ h => h) (Or.inl ⟨by rfl, ?_⟩) (fun _ => hHeld) ?_
          rotate_left
          · intro w' _
            go_simp
            first | done | with_reducible rfl
          try simp only [Go.Act.put, List.setIfInBounds_toArray, List.set_cons_zero, List.set_cons_succ]
          refine anyZ_pure (i := 4) (v := ?_) (some 29) rfl rfl (by kernel_rfl) (by kernel_rfl) (by kernel_rfl) (by kernel_rfl) (fun _ _ _ h => h) (Or.inl ⟨by rfl, ?_⟩) (fun _ => hHeld) ?_
          rotate_left
          · intro w' _
            go_simp
            first | done | with_reducible rfl
          try simp only [Go.Act.put, List.setIfInBounds_toArray, List.set_cons_zero, List.set_cons_succ]
          refine anyZ_read (i := 5) (v := ?_) (some 30) [7, 8, 16, 17, 18, 19] rfl rfl (by kernel_rfl) (by kernel_rfl) (by kernel_rfl) (by kernel_rfl) (by kernel_rfl) (by kernel_rfl) (fun _ _ _ h => h) (Or.inl ⟨by rfl, ?_⟩) hHeld ?_
          rotate_left
          · intro w' hSw
            have q1 := HC.out w' hSw
            go_simp
            first | done | with_reducible rfl
          try simp only [Go.Act.put, List.setIfInBounds_toArray, List.set_cons_zero, List.set_cons_succ]
          refine anyZ_pure (i := 6) (v := ?_) (some 31) rfl rfl (by kernel_rfl) (by kernel_rfl) (by kernel_rfl) (by kernel_rfl) (fun _ _ _ h => h) (Or.inl ⟨by rfl, ?_⟩) (fun _ => hHeld) ?_
          rotate_left
          · intro w' _
            go_simp
            first | done | with_reducible rfl
          try simp only [Go.Act.put, List.setIfInBounds_toArray, List.set_cons_zero, List.set_cons_succ]
          refine anyZ_pure (i := 7) (v := ?_) (some 32) rfl rfl (by kernel_rfl) (by kernel_rfl) (by kernel_rfl) (by kernel_rfl) (fun _ _ _ h => h) (Or.inl ⟨by rfl, ?_⟩) (fun _ => hHeld) ?_
          rotate_left
          · intro w' _
            go_simp
            first | done | with_reducible rfl
          try simp only [Go.Act.put, List.setIfInBounds_toArray, List.set_cons_zero, List.set_cons_succ]
          refine anyZ_pure (i := 9) (v := ?_) (some 34) rfl rfl (by kernel_rfl) (by kernel_rfl) (by kernel_rfl) (by kernel_rfl) (fun _ _ _ h => h) (Or.inl ⟨by rfl, ?_⟩) (fun _ => hHeld) ?_
          rotate_left
          · intro w' _
            go_simp
            first | done | with_reducible rfl
          try simp only [Go.Act.put, List.setIfInBounds_toArray, List.set_cons_zero, List.set_cons_succ]
          refine anyZ_pure (i := 10) (v := ?_) (some 35) rfl rfl (by kernel_rfl) (by kernel_rfl) (by kernel_rfl) (by kernel_rfl) (fun _ _ _ h => h) (Or.inl ⟨by rfl, ?_⟩) (fun _ => hHeld) ?_
          rotate_left
          · intro w' _
            go_simp
            first | done | with_reducible rfl
          try simp only [Go.Act.put, List.setIfInBounds_toArray, List.set_cons_zero, List.set_cons_succ]
          refine anyZ_pure (i := 11) (v := ?_) (some 36) rfl rfl (by kernel_rfl) (by kernel_rfl) (by kernel_rfl) (by kernel_rfl) (fun _ _ _ h => h) (Or.inl ⟨by rfl, ?_⟩) (fun _ => hHeld) ?_
          rotate_left
          · intro w' _
            go_simp
            first | done | with_reducible rfl
          try simp only [Go.Act.put, List.setIfInBounds_toArray, List.set_cons_zero, List.set_cons_succ]
          refine anyZ_read (i := 12) (v := ?_) (some 37) [15, 16, 17, 18, 19] rfl rfl (by kernel_rfl) (by kernel_rfl) (by kernel_rfl) (by kernel_rfl) (by kernel_rfl) (by kernel_rfl) (fun _ _ _ h => h) (Or.inl ⟨by rfl, ?_⟩) hHeld ?_
          rotate_left
          · intro w' hSw
            have q1 := HC.out w' hSw
            go_simp
            first | done | with_reducible rfl
          try simp only [Go.Act.put, List.setIfInBounds_toArray, List.set_cons_zero, List.set_cons_succ]
          refine anyZ_pure (i := 13) (v := ?_) (some 38) rfl rfl (by kernel_rfl) (by kernel_rfl) (by kernel_rfl) (by kernel_rfl) (fun _ _ _ h => h) (Or.inl ⟨by rfl, ?_⟩) (fun _ => hHeld) ?_
          rotate_left
          · intro w' _
            go_simp
            first | done | with_reducible rfl
          try simp only [Go.Act.put, List.setIfInBounds_toArray, List.set_cons_zero, List.set_cons_succ]
          refine anyZ_pure (i := 14) (v := ?_) (some 39) rfl rfl (by kernel_rfl) (by kernel_rfl) (by kernel_rfl) (by kernel_rfl) (fun _ _ _ h => h) (Or.inl ⟨by rfl, ?_⟩) (fun _ => hHeld) ?_
          rotate_left
          · intro w' _
            go_simp
            first | done | with_reducible rfl
          try simp only [Go.Act.put, List.setIfInBounds_toArray, List.set_cons_zero, List.set_cons_succ]
          refine anyZ_pure (i := 15) (v := ?_) (some 40) rfl rfl (by kernel_rfl) (by kernel_rfl) (by kernel_rfl) (by kernel_rfl) (fun _ _ _ h => h) (Or.inl ⟨by rfl, ?_⟩) (fun _ => hHeld) ?_
          rotate_left
          · intro w' _
            go_simp
            first | done | with_reducible rfl
          try simp only [Go.Act.put, List.setIfInBounds_toArray, List.set_cons_zero, List.set_cons_succ]
          refine anyZ_ready (rs := [1]) (by kernel_rfl) (by simp) ?_
          refine AllZ.step rfl (fun K hK => ?_) AllZ.nil
          go_simp
          refine hK.out _ _ (hHeld.alloc _) (fun hHeld => ?_)
          clear hK K
          try change anyZ _ _ _ _ _ _ _ _ (Go.Act.put _ (some 26) _) _
          try simp only [Go.Act.put, List.setIfInBounds_toArray, List.set_cons_zero, List.set_cons_succ]
          refine anyZ_ready (rs := [8]) (by kernel_rfl) (by simp) ?_
          refine AllZ.step rfl (fun K hK => ?_) AllZ.nil
          have hnr := NewA.fresh wr.drew
          refine stepOf_appendR Try.teA rfl (.tmp 26) (.tmp 32) rfl _ 0 [] rfl hnr.row (.slice (some ⟨b, off, none⟩) i (i + 1)) i (apc (l.take i)) rfl (HS1.out _ hHeld) (apc_one _) (by unfold maxLen; omega) (by omega) ?_
          intro A8 c8 w8 hr8 hf8 hm8
          have N8 := Lib.hid ((hnr.from (Fr.refl _ wr).drew).step hr8 hf8 hm8)
          clear hnr hr8 hf8 hm8
          simp only [Nat.zero_add, List.nil_append] at N8 ⊢
          refine hK.out _ _ (N8.out.fr) (fun hHeld => ?_)
          clear hK K
          try change anyZ _ _ _ _ _ _ _ _ (Go.Act.put _ (some 33) _) _
          try simp only [Go.Act.put, List.setIfInBounds_toArray, List.set_cons_zero, List.set_cons_succ]
          refine anyZ_ready (rs := [16]) (by kernel_rfl) (by simp) ?_
          refine AllZ.step rfl (fun K hK => ?_) AllZ.nil
          refine stepOf_appendR Try.teA rfl (.tmp 33) (.tmp 40) rfl _ i (apc (l.take i)) rfl N8.out.row _ 0 (apc (l.drop (i + 1))) rfl (HS2.out _) (apc_one _) (by unfold maxLen; omega) (by omega) ?_
          intro A9 c9 w9 hr9 hf9 hm9
          have n9 := N8.out.step hr9 hf9 hm9
          have N9 := Lib.hid n9
          have k2 : w9.cell? ⟨g, 1, none⟩ = some (.slice (some ⟨b, off, none⟩) (i + 1) (i + 1)) := HC.out w9 n9.fr
          have z2 : w9.frozen? ⟨g, 1, none⟩ = false := (H.out.blk.fr n9.fr (fun h => h)).frozen 1
          clear hr9 hf9 hm9 n9 HC
          refine hK.out _ _ (N9.out.fr) (fun hHeld => ?_)
          clear hK K
          try change anyZ _ _ _ _ _ _ _ _ (Go.Act.put _ (some 41) _) _
          try simp only [Go.Act.put, List.setIfInBounds_toArray, List.set_cons_zero, List.set_cons_succ]
          refine anyZ_pure (i := 17) (v := ?_) (some 42) rfl rfl (by kernel_rfl) (by kernel_rfl) (by kernel_rfl) (by kernel_rfl) (fun _ _ _ h => h) (Or.inl ⟨by rfl, ?_⟩) (fun _ => hHeld) ?_
          rotate_left
          · intro w' _
            go_simp
            first | done | with_reducible rfl
          try simp only [Go.Act.put, List.setIfInBounds_toArray, List.set_cons_zero, List.set_cons_succ]
          refine anyZ_pure (i := 18) (v := ?_) (some 43) rfl rfl (by kernel_rfl) (by kernel_rfl) (by kernel_rfl) (by kernel_rfl) (fun _ _ _ h => h) (Or.inl ⟨by rfl, ?_⟩) (fun _ => hHeld) ?_
          rotate_left
          · intro w' _
            go_simp
            first | done | with_reducible rfl
          try simp only [Go.Act.put, List.setIfInBounds_toArray, List.set_cons_zero, List.set_cons_succ]
          refine anyZ_ready (rs := [19]) (by kernel_rfl) (by simp) ?_
          refine AllZ.last rfl (by kernel_rfl) (fun K hK => ?_) AllZ.nil
          go_simp
          refine hK.out _ _ ?_
          clear hK K
          try change anyZ _ _ _ _ _ _ _ _ (Go.Act.put _ none _) _
          try simp only [Go.Act.put, List.setIfInBounds_toArray, List.set_cons_zero, List.set_cons_succ]
          refine anyZ_done (by kernel_rfl) ?_ _
          clear hHeld
          go_wp2
          try simp only [Exit.inBlock, Exit.then]
          go_ret
          have n9 := N9.out
          rw [← apc_append] at n9
          have hr := H.out.relist (n := i + 0) (l' := l.take i ++ l.drop (i + 1)) (by have := HN.out; simp; omega) n9
          rw [cut_filter HND.out HIL.out HEQ.out] at hr
          exact ⟨by rw [HANY.out]; rfl, _, hr⟩

        · have HS2 := Lib.hid (fun W (hf : Fr (fun _ => False) wr W) => show Sl W 2 (.slice (some ⟨b, off + (i + 1) * 2, none⟩) (n - (i + 1)) (c - (i + 1))) (n - (i + 1)) (apc (l.drop (i + 1))) from by
            have := aDrop (l := l) (H.out.row.fr0 hf) (k := i + 1) (c' := c - (i + 1)) (by have := HN.out; omega)
            rw [HN.out] at this; exact this)
          have hi0 : (0 : Int) ≤ (i : Int) := by omega
          have hkc : (i : Int) ≤ (c : Int) := by omega
          have hb0 : (0 : Int) ≤ (i : Int) + 1 := by omega
          have hwr : IntKind.i64.wrap ((i : Int) + 1) = (i : Int) + 1 := by rw [IntKind.wrap_i64]; omega
          have htn : ((i : Int) + 1).toNat = i + 1 := by omega
          have hkn : (i : Int) + 1 ≤ (n : Int) := by omega
          have hck2 : ¬ (c = i) := by omega
          go_wp2_with fail
          clear m0 c1
          refine wp_region_Z [19] (fun w' => Fr (fun _ => False) wr w') (by kernel_rfl) ((Fr.refl _ _).drew) (fun hHeld => ?_)
          refine anyZ_pure (i := 0) (v := ?_) (some 25) rfl rfl (by kernel_rfl) (by kernel_rfl) (by kernel_rfl) (by kernel_rfl) (fun _ _ _ h => h) (Or.inl ⟨by rfl, ?_⟩) (fun _ => hHeld) ?_
          rotate_left
          · intro w' _
            go_simp
            first | done | with_reducible rfl
          try simp only [Go.Act.put, List.setIfInBounds_toArray, List.set_cons_zero, List.set_cons_succ]
          refine anyZ_pure (i := 2) (v := ?_) (some 27) rfl rfl (by kernel_rfl) (by kernel_rfl) (by kernel_rfl) (by kernel_rfl) (fun _ _ _ h => h) (Or.inl ⟨by rfl, ?_⟩) (fun _ => hHeld) ?_
          rotate_left
          · intro w' _
            go_simp
            first | done | with_reducible rfl
          try simp only [Go.Act.put, List.setIfInBounds_toArray, List.set_cons_zero, List.set_cons_succ]
          refine anyZ_pure (i := 3) (v := ?_) (some 28) rfl rfl (by kernel_rfl) (by kernel_rfl) (by kernel_rfl) (by kernel_rfl) (fun _ _ _ h => h) (Or.inl ⟨by rfl, ?_⟩) (fun _ => hHeld) ?_
          rotate_left
          · intro w' _
            go_simp
            first | done | with_reducible rfl
          try simp only [Go.Act.put, List.setIfInBounds_toArray, List.set_cons_zero, List.set_cons_succ]
          refine anyZ_pure (i := 4) (v := ?_) (some 29) rfl rfl (by kernel_rfl) (by kernel_rfl) (by kernel_rfl) (by kernel_rfl) (fun _ _ _ h => h) (Or.inl ⟨by rfl, ?_⟩) (fun _ => hHeld) ?_
          rotate_left
          · intro w' _
            go_simp
            first | done | with_reducible rfl
          try simp only [Go.Act.put, List.setIfInBounds_toArray, List.set_cons_zero, List.set_cons_succ]
          refine anyZ_read (i := 5) (v := ?_) (some 30) [7, 8, 16, 17, 18, 19] rfl rfl (by kernel_rfl) (by kernel_rfl) (by kernel_rfl) (by kernel_rfl) (by kernel_rfl) (by kernel_rfl) (fun _ _ _ h => h) (Or.inl ⟨by rfl, ?_⟩) hHeld ?_
          rotate_left
          · intro w' hSw
            have q1 := HC.out w' hSw
            go_simp
            first | done | with_reducible rfl
          try simp only [Go.Act.put, List.setIfInBounds_toArray, List.set_cons_zero, List.set_cons_succ]
          refine anyZ_pure (i := 6) (v := ?_) (some 31) rfl rfl (by kernel_rfl) (by kernel_rfl) (by kernel_rfl) (by kernel_rfl) (fun _ _ _ h => h) (Or.inl ⟨by rfl, ?_⟩) (fun _ => hHeld) ?_
          rotate_left
          · intro w' _
            go_simp
            first | done | with_reducible rfl
          try simp only [Go.Act.put, List.setIfInBounds_toArray, List.set_cons_zero, List.set_cons_succ]
          refine anyZ_pure (i := 7) (v := ?_) (some 32) rfl rfl (by kernel_rfl) (by kernel_rfl) (by kernel_rfl) (by kernel_rfl) (fun _ _ _ h => h) (Or.inl ⟨by rfl, ?_⟩) (fun _ => hHeld) ?_
          rotate_left
          · intro w' _
            go_simp
            first | done | with_reducible rfl
          try simp only [Go.Act.put, List.setIfInBounds_toArray, List.set_cons_zero, List.set_cons_succ]
          refine anyZ_pure (i := 9) (v := ?_) (some 34) rfl rfl (by kernel_rfl) (by kernel_rfl) (by kernel_rfl) (by kernel_rfl) (fun _ _ _ h => h) (Or.inl ⟨by rfl, ?_⟩) (fun _ => hHeld) ?_
          rotate_left
          · intro w' _
            go_simp
            first | done | with_reducible rfl
          try simp only [Go.Act.put, List.setIfInBounds_toArray, List.set_cons_zero, List.set_cons_succ]
          refine anyZ_pure (i := 10) (v := ?_) (some 35) rfl rfl (by kernel_rfl) (by kernel_rfl) (by kernel_rfl) (by kernel_rfl) (fun _ _ _ h => h) (Or.inl ⟨by rfl, ?_⟩) (fun _ => hHeld) ?_
          rotate_left
          · intro w' _
            go_simp
            first | done | with_reducible rfl
          try simp only [Go.Act.put, List.setIfInBounds_toArray, List.set_cons_zero, List.set_cons_succ]
          refine anyZ_pure (i := 11) (v := ?_) (some 36) rfl rfl (by kernel_rfl) (by kernel_rfl) (by kernel_rfl) (by kernel_rfl) (fun _ _ _ h => h) (Or.inl ⟨by rfl, ?_⟩) (fun _ => hHeld) ?_
          rotate_left
          · intro w' _
            go_simp
            first | done | with_reducible rfl
          try simp only [Go.Act.put, List.setIfInBounds_toArray, List.set_cons_zero, List.set_cons_succ]
          refine anyZ_read (i := 12) (v := ?_) (some 37) [15, 16, 17, 18, 19] rfl rfl (by kernel_rfl) (by kernel_rfl) (by kernel_rfl) (by kernel_rfl) (by kernel_rfl) (by kernel_rfl) (fun _ _ _ h => h) (Or.inl ⟨by rfl, ?_⟩) hHeld ?_
          rotate_left
          · intro w' hSw
            have q1 := HC.out w' hSw
            go_simp
            first | done | with_reducible rfl
          try simp only [Go.Act.put, List.setIfInBounds_toArray, List.set_cons_zero, List.set_cons_succ]
          refine anyZ_pure (i := 13) (v := ?_) (some 38) rfl rfl (by kernel_rfl) (by kernel_rfl) (by kernel_rfl) (by kernel_rfl) (fun _ _ _ h => h) (Or.inl ⟨by rfl, ?_⟩) (fun _ => hHeld) ?_
          rotate_left
          · intro w' _
            go_simp
            first | done | with_reducible rfl
          try simp only [Go.Act.put, List.setIfInBounds_toArray, List.set_cons_zero, List.set_cons_succ]
          refine anyZ_pure (i := 14) (v := ?_) (some 39) rfl rfl (by kernel_rfl) (by kernel_rfl) (by kernel_rfl) (by kernel_rfl) (fun _ _ _ h => h) (Or.inl ⟨by rfl, ?_⟩) (fun _ => hHeld) ?_
          rotate_left
          · intro w' _
            go_simp
            first | done | with_reducible rfl
          try simp only [Go.Act.put, List.setIfInBounds_toArray, List.set_cons_zero, List.set_cons_succ]
          refine anyZ_pure (i := 15) (v := ?_) (some 40) rfl rfl (by kernel_rfl) (by kernel_rfl) (by kernel_rfl) (by kernel_rfl) (fun _ _ _ h => h) (Or.inl ⟨by rfl, ?_⟩) (fun _ => hHeld) ?_
          rotate_left
          · intro w' _
            go_simp
            first | done | with_reducible rfl
          try simp only [Go.Act.put, List.setIfInBounds_toArray, List.set_cons_zero, List.set_cons_succ]
          refine anyZ_ready (rs := [1]) (by kernel_rfl) (by simp) ?_
          refine AllZ.step rfl (fun K hK => ?_) AllZ.nil
          go_simp
          refine hK.out _ _ (hHeld.alloc _) (fun hHeld => ?_)
          clear hK K
          try change anyZ _ _ _ _ _ _ _ _ (Go.Act.put _ (some 26) _) _
          try simp only [Go.Act.put, List.setIfInBounds_toArray, List.set_cons_zero, List.set_cons_succ]
          refine anyZ_ready (rs := [8]) (by kernel_rfl) (by simp) ?_
          refine AllZ.step rfl (fun K hK => ?_) AllZ.nil
          have hnr := NewA.fresh wr.drew
          refine stepOf_appendR Try.teA rfl (.tmp 26) (.tmp 32) rfl _ 0 [] rfl hnr.row (.slice (some ⟨b, off, none⟩) i c) i (apc (l.take i)) rfl (HS1.out _ hHeld) (apc_one _) (by unfold maxLen; omega) (by omega) ?_
          intro A8 c8 w8 hr8 hf8 hm8
          have N8 := Lib.hid ((hnr.from (Fr.refl _ wr).drew).step hr8 hf8 hm8)
          clear hnr hr8 hf8 hm8
          simp only [Nat.zero_add, List.nil_append] at N8 ⊢
          refine hK.out _ _ (N8.out.fr) (fun hHeld => ?_)
          clear hK K
          try change anyZ _ _ _ _ _ _ _ _ (Go.Act.put _ (some 33) _) _
          try simp only [Go.Act.put, List.setIfInBounds_toArray, List.set_cons_zero, List.set_cons_succ]
          refine anyZ_ready (rs := [16]) (by kernel_rfl) (by simp) ?_
          refine AllZ.step rfl (fun K hK => ?_) AllZ.nil
          refine stepOf_appendR Try.teA rfl (.tmp 33) (.tmp 40) rfl _ i (apc (l.take i)) rfl N8.out.row _ (n - (i + 1)) (apc (l.drop (i + 1))) rfl (HS2.out _ N8.out.fr) (apc_one _) (by unfold maxLen; omega) (by omega) ?_
          intro A9 c9 w9 hr9 hf9 hm9
          have n9 := N8.out.step hr9 hf9 hm9
          have N9 := Lib.hid n9
          have k2 : w9.cell? ⟨g, 1, none⟩ = some (.slice (some ⟨b, off, none⟩) n c) := HC.out w9 n9.fr
          have z2 : w9.frozen? ⟨g, 1, none⟩ = false := (H.out.blk.fr n9.fr (fun h => h)).frozen 1
          clear hr9 hf9 hm9 n9 HC
          refine hK.out _ _ (N9.out.fr) (fun hHeld => ?_)
          clear hK K
          try change anyZ _ _ _ _ _ _ _ _ (Go.Act.put _ (some 41) _) _
          try simp only [Go.Act.put, List.setIfInBounds_toArray, List.set_cons_zero, List.set_cons_succ]
          refine anyZ_pure (i := 17) (v := ?_) (some 42) rfl rfl (by kernel_rfl) (by kernel_rfl) (by kernel_rfl) (by kernel_rfl) (fun _ _ _ h => h) (Or.inl ⟨by rfl, ?_⟩) (fun _ => hHeld) ?_
          rotate_left
          · intro w' _
            go_simp
            first | done | with_reducible rfl
          try simp only [Go.Act.put, List.setIfInBounds_toArray, List.set_cons_zero, List.set_cons_succ]
          refine anyZ_pure (i := 18) (v := ?_) (some 43) rfl rfl (by kernel_rfl) (by kernel_rfl) (by kernel_rfl) (by kernel_rfl) (fun _ _ _ h => h) (Or.inl ⟨by rfl, ?_⟩) (fun _ => hHeld) ?_
          rotate_left
          · intro w' _
            go_simp
            first | done | with_reducible rfl
          try simp only [Go.Act.put, List.setIfInBounds_toArray, List.set_cons_zero, List.set_cons_succ]
          refine anyZ_ready (rs := [19]) (by kernel_rfl) (by simp) ?_
          refine AllZ.last rfl (by kernel_rfl) (fun K hK => ?_) AllZ.nil
          go_simp
          refine hK.out _ _ ?_
          clear hK K
          try change anyZ _ _ _ _ _ _ _ _ (Go.Act.put _ none _) _
          try simp only [Go.Act.put, List.setIfInBounds_toArray, List.set_cons_zero, List.set_cons_succ]
          refine anyZ_done (by kernel_rfl) ?_ _
          clear hHeld
          go_wp2
          try simp only [Exit.inBlock, Exit.then]
          go_ret
          have n9 := N9.out
          rw [← apc_append] at n9
          have hr := H.out.relist (n := i + (n - (i + 1))) (l' := l.take i ++ l.drop (i + 1)) (by have := HN.out; simp; omega) n9
          rw [cut_filter HND.out HIL.out HEQ.out] at hr
          exact ⟨by rw [HANY.out]; rfl, _, hr⟩

      · have hed : (x == id) = false := by simpa using he
        have HNO2 := Lib.hid (show ∀ j, j < i + 1 → (l.getD j default).1 ≠ id from fun j hj => by
          by_cases e : j = i
          · subst e; rw [hx]; exact he
          · exact HNO.out j (by omega))
        clear hx he HNO
        go_wp2
        go_roundw
        case rel => exact ⟨i + 1, by go_num, by omega, trivial, HNO2⟩
        case measure => simp [intOf]; omega
    · have hltz : ¬ (i : Int) < (n : Int) := by omega
      have HNA := Lib.hid (none_at (l := l) (id := id) (fun j hj => HNO.out j (by have := HN.out; omega)))
      have HLL := HN
      go_wp2
      go_ret
      refine ⟨by rw [HNA.out.1]; rfl, .slice A n c, ?_⟩
      rw [HNA.out.2]
      have := H.out
      rw [HLL.out] at this
      exact ⟨this, Fr.refl _ _, .inl (by rw [HLL.out])⟩
end Go.Proofs.Ytholaofgdahcbaa
