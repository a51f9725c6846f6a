/- slices.SortFunc under a clock's comparison: at any length; what it leaves, as a list. -/
import Derived.Test.YtholaofgdahcbaaWk
namespace Go.Proofs.Ytholaofgdahcbaa
open Go.RowKit Go.Maps Go.Sort

set_option maxRecDepth 100000 in
set_option maxHeartbeats 2000000 in
theorem sortf_any (w0 : World) (d cap g b n : Nat) (now : Int) (D : DataW Unit) (tl : List Value) (N : Nat) (dk : Array Int) (w : World) (h : SR w0 d g b n now D tl dk w) (hN : dk.size = N) (h3 : (N : Int) ≤ 4611686018427387903) :
    Calls Try.prog 23 #[.slice (some ⟨d, 0, none⟩) N cap, cmpF g] w fun e w' => e = .returned (.tuple #[]) ∧ SR w0 d g b n now D tl (sort (ltC D) dk) w' := by
  have hb : bitsLen N ≤ 62 := by rw [bitsLen_le_iff]; omega
  have C1 := Lib.hid (fun w => show Calls Try.prog 28 #[.int .u64 (N : Int)] w fun e w' => e = .returned (.int .i64 (bitsLen N : Nat)) ∧ w' = w from by
    have := Try.bits_Len (N : Int) w (by omega) (by omega)
    rwa [Int.toNat_natCast, bitLen_eq _ (by omega)] at this)
  have hwu : IntKind.u64.wrap (N : Int) = (N : Int) := by rw [IntKind.wrap_u64]; omega
  have hs : sort (ltC D) dk = pdq (ltC D) dk 0 N (bitsLen N) true true := by unfold sort; rw [hN]
  have C2 := Lib.hid (pdq_any w0 d cap g b n now D tl N h3 (N + 1) 0 N (bitsLen N) dk w (by omega) h hN (by omega) (Nat.le_refl _) (by omega) (.inl rfl))
  rw [hs]
  generalize pdq (ltC D) dk 0 N (bitsLen N) true true = R at *
  generalize bitsLen N = k at *
  clear h hN hs
  unfold cmpF at *
  go_enter Try.func23, Try.ntmps23
  go_wp2_with fail
  refine (C1.out _).mono ?_; rintro e w1 ⟨rfl, rfl⟩
  clear C1
  go_wp2_with fail
  refine C2.out.mono ?_; rintro e w1 ⟨rfl, h9⟩
  have HR := Lib.hid h9
  clear h9 C2
  go_wp2
  go_end0
  exact ⟨rfl, HR.out⟩

set_option maxRecDepth 100000 in
theorem ins_nil (g : Nat) (w : World) :
    Calls Try.prog 32 #[.slice none 0 0, .int .i64 0, .int .i64 0, cmpF g] w fun e w' => e = .returned (.tuple #[]) ∧ w' = w := by
  unfold cmpF
  go_enter Try.func32, Try.ntmps32
  go_wp2
  refine wp_loop_rounds 1 ?_
  rw [rounds_succ]
  go_wp2
  go_end0
  exact ⟨rfl, rfl⟩
set_option maxRecDepth 100000 in
theorem pdq_nil (g : Nat) (w : World) :
    Calls Try.prog 27 #[.slice none 0 0, .int .i64 0, .int .i64 0, .int .i64 0, cmpF g] w fun e w' => e = .returned (.tuple #[]) ∧ w' = w := by
  have C := Lib.hid (ins_nil g w)
  unfold cmpF at *
  go_enter Try.func27, Try.ntmps27
  go_wp2
  refine wp_loop_rounds 1 ?_
  rw [rounds_succ]
  go_wp2_with fail
  refine C.out.mono ?_; rintro e w1 ⟨rfl, rfl⟩
  go_wp2
  (try simp only [Exit.inBlock, Exit.then]); refine bodyPost_ret (results_none rfl _ _ _) rfl ?_
  exact ⟨rfl, rfl⟩
set_option maxRecDepth 100000 in
theorem sortf_nil (g : Nat) (w : World) :
    Calls Try.prog 23 #[.slice none 0 0, cmpF g] w fun e w' => e = .returned (.tuple #[]) ∧ w' = w := by
  have C1 := Lib.hid (fun w => show Calls Try.prog 28 #[.int .u64 0] w fun e w' => e = .returned (.int .i64 0) ∧ w' = w from by
    have := Try.bits_Len 0 w (by omega) (by omega)
    exact this)
  have C2 := Lib.hid (pdq_nil g)
  unfold cmpF at *
  go_enter Try.func23, Try.ntmps23
  go_wp2_with fail
  refine (C1.out _).mono ?_; rintro e w1 ⟨rfl, rfl⟩
  clear C1
  go_wp2_with fail
  refine (C2.out _).mono ?_; rintro e w1 ⟨rfl, rfl⟩
  clear C2
  go_wp2
  go_end0
  exact ⟨rfl, rfl⟩

/-- Sorted, by tick, then id; each id once. -/
def Ord (D : DataW Unit) (ys : List Int) : Prop := ys.Pairwise (fun x y => ltC D x y = true)
theorem ltC_total {D : DataW Unit} {x y : Int} (h : x ≠ y) (h2 : ltC D y x = false) : ltC D x y = true := by
  rw [ltC_iff]; rw [ltC_not] at h2; omega
theorem Ord.of_sort {D : DataW Unit} {dk : Array Int} (hn : dk.toList.Nodup) : Ord D (sort (ltC D) dk).toList ∧ (sort (ltC D) dk).toList.Perm dk.toList := by
  obtain ⟨⟨h1, h2, h3⟩, h4⟩ := sort_sorts (ltC D) (ltC_swo D) dk
  have hp : (sort (ltC D) dk).toList.Perm dk.toList := by
    have e1 : (sort (ltC D) dk).extract 0 dk.size = sort (ltC D) dk := by rw [← h1]; simp
    have e2 : dk.extract 0 dk.size = dk := by simp
    rw [e1, e2] at h3
    exact h3
  refine ⟨?_, hp⟩
  have hn2 : (sort (ltC D) dk).toList.Nodup := hp.nodup_iff.2 hn
  unfold Ord
  rw [List.pairwise_iff_getElem]
  intro i j hi hj hij
  have hj2 : j < dk.size := by simpa [h1] using hj
  have := h4 i j (Nat.zero_le _) hij hj2
  have g1 : (sort (ltC D) dk)[i]! = (sort (ltC D) dk).toList[i] := by
    have : i < (sort (ltC D) dk).size := by simpa using hi
    simp [this]
  have g2 : (sort (ltC D) dk)[j]! = (sort (ltC D) dk).toList[j] := by
    have : j < (sort (ltC D) dk).size := by simpa using hj
    simp [this]
  rw [g1, g2] at this
  refine ltC_total ?_ this
  intro e
  exact List.pairwise_iff_getElem.1 hn2 i j hi hj hij e
end Go.Proofs.Ytholaofgdahcbaa
