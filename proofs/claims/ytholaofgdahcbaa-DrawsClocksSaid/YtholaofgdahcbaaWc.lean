/- slices.reverseRangeCmpFunc under a clock's comparison. -/
import Derived.Test.YtholaofgdahcbaaWb
namespace Go.Proofs.Ytholaofgdahcbaa
open Go.RowKit Go.Maps Go.Sort

set_option maxRecDepth 100000 in
set_option maxHeartbeats 4000000 in
theorem rev_any (w0 : World) (d cap g b n : Nat) (now : Int) (D : DataW Unit) (tl : List Value) (lo hi : Nat) (dk : Array Int) (w : World) (h : SR w0 d g b n now D tl dk w) (h1 : lo ≤ hi) (h2 : hi ≤ dk.size) (h3 : (dk.size : Int) ≤ 4611686018427387903) :
    Calls Try.prog 36 #[.slice (some ⟨d, 0, none⟩) dk.size cap, .int .i64 lo, .int .i64 hi, cmpF g] w fun e w' => e = .returned (.tuple #[]) ∧ SR w0 d g b n now D tl (reverseRange dk lo hi) w' := by
  have H := Lib.hid h
  obtain ⟨N, hN⟩ : ∃ N, dk.size = N := ⟨_, rfl⟩
  have HN := Lib.hid hN
  rw [hN] at h2 h3 ⊢
  have h1i : (lo : Int) ≤ (hi : Int) := by omega
  have h2i : (hi : Int) ≤ (N : Int) := by omega
  clear h hN
  unfold cmpF
  go_enter Try.func36, Try.ntmps36
  go_wp2
  go_loopw [8, 9] (fun vi vj wr => ∃ (i : Nat) (z : Int) (dj : Array Int), vi = .int .i64 i ∧ vj = .int .i64 z ∧ -1 ≤ z ∧ z < hi ∧ (i : Int) ≤ hi + 1 ∧ Hid (dj.size = N) ∧ Hid (SR w0 d g b n now D tl dj wr) ∧ Hid (reverseLoop i z.toNat dj = reverseRange dk lo hi)) (fun _ vj _ => (intOf vj).toNat)
  case atStart => exact ⟨lo, (hi : Int) - 1, dk, rfl, by go_num, by omega, by omega, by omega, HN, H, Lib.hid (by unfold reverseRange; rw [show ((hi : Int) - 1).toNat = hi - 1 by omega])⟩
  case round =>
    obtain ⟨i, z, dj, rfl, rfl, hz1, hz2, hi9, HDJ, HJ, HE⟩ := hrel
    clear H HN
    by_cases hlt : (i : Int) < z
    · obtain ⟨jp, rfl⟩ : ∃ jp : Nat, z = (jp : Int) + 1 := ⟨(z - 1).toNat, by omega⟩
      have jd : ((jp : Int) + 1).toNat = jp + 1 := by omega
      have ja : (0 : Int) ≤ (jp : Int) + 1 := by omega
      have jb : (jp : Int) + 1 < (N : Int) := by omega
      have jc : (0 : Int) ≤ (i : Int) := by omega
      have je : (i : Int) < (N : Int) := by omega
      have E0 := HE.out
      rw [jd, reverseLoop, if_pos (by omega)] at E0
      have HE2 := Lib.hid E0
      have c := HJ.out
      have m0 := c.cell i (by have := HDJ.out; omega)
      have m1 := c.cell (jp + 1) (by have := HDJ.out; omega)
      have f0 := c.frozen i
      have f1 := c.frozen (jp + 1)
      obtain ⟨u, m2⟩ := c.second i (jp + 1) (by have := HDJ.out; omega) (by have := HDJ.out; omega) _ (c.ok (jp + 1) (by have := HDJ.out; omega))
      have S9 := c.swap i (jp + 1) (by have := HDJ.out; omega) (by have := HDJ.out; omega)
      obtain ⟨x, hx⟩ : ∃ x, dj[i]! = x := ⟨_, rfl⟩
      obtain ⟨y, hy⟩ : ∃ y, dj[jp + 1]! = y := ⟨_, rfl⟩
      simp only [hx, hy] at S9 m0 m1 m2
      have HS := Lib.hid S9
      have mixed := Try.mixed
      clear c hx hy E0 HE S9 HJ
      go_wp2_with fail
      go_big_region_o
      clear m0 m1 m2 f0 f1
      generalize ((wr.setCell ⟨d, i, none⟩ (.int .i64 y)).setCell ⟨d, jp + 1, none⟩ (.int .i64 x)).drew = w3 at *
      go_wp2
      go_roundw
      case rel => exact ⟨i + 1, (jp : Int), swp dj i (jp + 1), by go_num, by go_num, by omega, by omega, by omega, Lib.hid (by rw [size_swp]; exact HDJ.out), HS, HE2⟩
      case measure => simp [intOf]
    · have e9 : SR w0 d g b n now D tl (reverseRange dk lo hi) wr := by rw [← HE.out, reverseLoop, if_neg (by omega)]; exact HJ.out
      have HE2 := Lib.hid e9
      clear e9 HE HJ HDJ
      go_wp2
      go_end0
      exact ⟨rfl, HE2.out⟩
end Go.Proofs.Ytholaofgdahcbaa
