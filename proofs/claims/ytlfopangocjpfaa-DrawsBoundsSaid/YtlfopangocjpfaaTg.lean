/- The walk of DrawsBounds. -/
import Derived.Test.YtlfopangocjpfaaTf
namespace Go.Proofs.Ytlfopangocjpfaa
open Go.RowKit Go.Maps

set_option maxRecDepth 100000 in
set_option maxHeartbeats 4000000 in
theorem bounds_any (seed : Nat) (lo hi n : Int) (w : World) (hn : n ≤ 9223372036854775807) :
    Calls Try.prog 4 #[.int .u64 seed, .int .i64 lo, .int .i64 hi, .int .i64 n] w fun e w' => e = .returned (.bool true) ∧ Fr (fun _ => False) w w' := by
  generalize hB : w.heap.size = B at *
  have HB := Lib.hid hB
  clear hB
  have C1 := Lib.hid (fun g s k w h hk => between_any g s k lo hi w h hk)
  have C2 := Lib.hid (fun g s k w h hk => below_any g s k n w h hk hn)
  have V1 : Hid (∀ s, lo ≤ hi → lo ≤ betV s lo hi ∧ betV s lo hi ≤ hi) := Lib.hid (fun s h => betV_in s h)
  have V2 : Hid (∀ s, hi < lo → betV s lo hi = lo) := Lib.hid (fun s h => betV_no s h)
  have V3 : Hid (∀ s, 1 ≤ n → 0 ≤ belowV s n ∧ belowV s n < n) := Lib.hid (fun s h => belowV_in h)
  have V4 : Hid (∀ s, n < 1 → belowV s n = 0) := Lib.hid (fun s h => (below_no h).1)
  have K1 : Hid (∀ k, betK k lo hi ≤ k + 1) := Lib.hid (fun k => betK_le k lo hi)
  have K2 : Hid (∀ k, belowK k n ≤ k + 1) := Lib.hid (fun k => belowK_le k n)
  clear hn
  go_enter Try.func4, Try.ntmps4
  go_wp2_with fail
  refine (known_any w).mono ?_; rintro e w1 ⟨rfl, hf1⟩
  go_wp2_with fail
  refine (new_any seed w1).mono ?_; rintro e w2 ⟨rfl, hw2⟩
  have hs2 : Src w2 w1.heap.size seed 0 := by rw [hw2]; exact src_new w1 seed
  have hf2 : Fr (fun _ => False) w w2 := hf1.trans (by rw [hw2]; exact (Fr.refl _ _).alloc _) (fun _ _ h => h)
  have hgB : B ≤ w1.heap.size := by have := hf1.size; have := HB.out; omega
  clear hw2 hf1
  generalize w1.heap.size = g at *
  have HGB := Lib.hid hgB
  clear hgB
  go_wp2_with fail
  go_loopw [10] (fun i wr => ∃ (k s c : Nat), k ≤ 20 ∧ i = .int .i64 k ∧ Src wr g s c ∧ c ≤ 2 * k ∧ Fr (fun _ => False) w wr) (fun i _ => 20 - (intOf i).toNat)
  case atStart => exact ⟨0, seed, 0, by omega, rfl, hs2, by omega, hf2⟩
  case round =>
    clear hs2 hf2
    obtain ⟨k, s, c, hk, rfl, hs, hc, hf⟩ := hrel
    have HS := Lib.hid hs
    have HF := Lib.hid hf
    clear hs hf
    by_cases hlt : k < 20
    · go_wp2_with fail
      refine (C1.out g s c wr HS.out (by omega)).mono ?_; rintro e w3 ⟨rfl, hs3, hf3⟩
      have hc3 := K1.out c
      have u1 := V1.out s
      have u2 := V2.out s
      generalize betV s lo hi = v at *
      generalize betS s lo hi = s3 at *
      generalize betK c lo hi = c3 at *
      have HS3 := Lib.hid hs3
      have HF3 := Lib.hid (HF.out.trans hf3 (fun x hx e => by have h1 := HB.out; have h2 := HGB.out; omega))
      clear hs3 hf3 HS HF
      go_wp2_with fail
      refine (C2.out g s3 c3 w3 HS3.out (by omega)).mono ?_; rintro e w4 ⟨rfl, hs4, hf4⟩
      have hc4 := K2.out c3
      have u3 := V3.out s3
      have u4 := V4.out s3
      generalize belowV s3 n = z at *
      generalize belowS s3 n = s4 at *
      generalize belowK c3 n = c4 at *
      have HS4 := Lib.hid hs4
      have HF4 := Lib.hid (HF3.out.trans hf4 (fun x hx e => by have h1 := HB.out; have h2 := HGB.out; omega))
      clear hs4 hf4 HS3 HF3
      have hvl : lo ≤ v := by
        rcases Int.lt_or_le hi lo with h | h
        · rw [u2 h]; omega
        · exact (u1 h).1
      have hz0 : 0 ≤ z := by
        rcases Int.lt_or_le n 1 with h | h
        · rw [u4 h]; omega
        · exact (u3 h).1
      have hvd : decide (v < lo) = false := by simp; omega
      have hzd : decide (z < 0) = false := by simp; omega
      have hvv : (decide (lo ≤ hi) && decide (hi < v)) = false := by
        rcases Int.lt_or_le hi lo with h | h
        · simp; omega
        · have := (u1 h).2
          simp; omega
      have REL : ∀ w', Src w' g s4 c4 → Fr (fun _ => False) w w' → ∃ (k' s' c' : Nat), k' ≤ 20 ∧ Value.int .i64 ((k : Int) + 1) = .int .i64 k' ∧ Src w' g s' c' ∧ c' ≤ 2 * k' ∧ Fr (fun _ => False) w w' := fun w' h1 h2 => ⟨k + 1, s4, c4, by omega, by go_num, h1, by omega, h2⟩
      have REL := Lib.hid REL
      rcases Int.lt_or_le n 1 with h | h
      · obtain rfl := u4 h
        clear u1 u2 u3 u4 hc3 hc4 hc hz0 hzd
        rcases Int.lt_or_le hi lo with h' | h'
        · clear hvv
          go_wp2
          go_roundw
          case rel => exact REL.out _ HS4.out HF4.out
          case measure => simp [intOf]; omega
        · have hv2 : v ≤ hi := by simp at hvv; exact hvv h'
          clear hvv
          go_wp2
          go_roundw
          case rel => exact REL.out _ HS4.out HF4.out
          case measure => simp [intOf]; omega
      · have hzn := (u3 h).2
        clear u1 u2 u3 u4 hc3 hc4 hc
        rcases Int.lt_or_le hi lo with h' | h'
        · clear hvv
          go_wp2
          go_roundw
          case rel => exact REL.out _ HS4.out HF4.out
          case measure => simp [intOf]; omega
        · have hv2 : v ≤ hi := by simp at hvv; exact hvv h'
          clear hvv
          go_wp2
          go_roundw
          case rel => exact REL.out _ HS4.out HF4.out
          case measure => simp [intOf]; omega
    · have : k = 20 := by omega
      subst this
      go_wp2
      go_ret
      exact ⟨rfl, HF.out⟩
end Go.Proofs.Ytlfopangocjpfaa
