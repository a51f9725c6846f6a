/- chunk's law: decimal; the text of a Broken. -/
import Derived.Test.YtacafjbbdklleaaDoorFc
import Derived.Test.YtacafjbbdklleaaDoorAg
namespace Go.Proofs.YtacafjbbdklleaaDoor
open Go.RowKit

/-- The words of chunk's errors. -/
def wordOf (k : Int) : ByteArray := if k = 1 then ⟨#[97, 114, 103]⟩ else if k = 6 then ⟨#[110, 111, 116]⟩ else if k = 8 then ⟨#[102, 111, 114, 109]⟩ else if k = 9 then ⟨#[115, 117, 109]⟩ else ⟨#[108, 111, 110, 103]⟩
/-- One of chunk's errors. -/
def Bad5 (k : Int) : Prop := k = 1 ∨ k = 6 ∨ k = 8 ∨ k = 9 ∨ k = 10
theorem word_1 (w : World) : Calls Tryd.prog 27 #[.int .i64 1] w fun e w' => e = .returned (.string (wordOf 1)) ∧ w = w' := by
  go_enter Tryd.func27, Tryd.ntmps27
  go_wp2
  go_ret
  exact ⟨rfl, rfl⟩
theorem word_6 (w : World) : Calls Tryd.prog 27 #[.int .i64 6] w fun e w' => e = .returned (.string (wordOf 6)) ∧ w = w' := by
  go_enter Tryd.func27, Tryd.ntmps27
  go_wp2
  go_ret
  exact ⟨rfl, rfl⟩
theorem word_8 (w : World) : Calls Tryd.prog 27 #[.int .i64 8] w fun e w' => e = .returned (.string (wordOf 8)) ∧ w = w' := by
  go_enter Tryd.func27, Tryd.ntmps27
  go_wp2
  go_ret
  exact ⟨rfl, rfl⟩
theorem word_9 (w : World) : Calls Tryd.prog 27 #[.int .i64 9] w fun e w' => e = .returned (.string (wordOf 9)) ∧ w = w' := by
  go_enter Tryd.func27, Tryd.ntmps27
  go_wp2
  go_ret
  exact ⟨rfl, rfl⟩
theorem word_10 (w : World) : Calls Tryd.prog 27 #[.int .i64 10] w fun e w' => e = .returned (.string (wordOf 10)) ∧ w = w' := by
  go_enter Tryd.func27, Tryd.ntmps27
  go_wp2
  go_ret
  exact ⟨rfl, rfl⟩
theorem word_any (k : Int) (w : World) (h : Bad5 k) : Calls Tryd.prog 27 #[.int .i64 k] w fun e w' => e = .returned (.string (wordOf k)) ∧ w = w' := by
  rcases h with rfl | rfl | rfl | rfl | rfl
  · exact word_1 w
  · exact word_6 w
  · exact word_8 w
  · exact word_9 w
  · exact word_10 w
theorem wordOf_size (k : Int) : (wordOf k).size ≤ 5 := by
  unfold wordOf; split; · decide
  split; · decide
  split; · decide
  split <;> decide

def digB (k : Nat) : UInt8 := UInt8.ofNat (48 + k % 10)
theorem dec_dig {k : Nat} (h : k < 10) : Lib.decDigits k = [digB k] := by
  rw [dec_lt h]; unfold digB; rw [Nat.mod_eq_of_lt h]
theorem dec_dig' {k : Nat} (h : 10 ≤ k) : Lib.decDigits k = Lib.decDigits (k / 10) ++ [digB k] := dec_ge h
theorem dec_len' {n : Nat} (h : (n : Int) ≤ 9223372036854775808) : (Lib.decDigits n).length ≤ 20 := by
  rw [Lib.decDigits_length]
  exact nDigits_le 19 n (by omega)

/-- decimal's loop, from a number of 64 bits on. -/
theorem itoa_pos {n : Int} (h : 0 ≤ n) : Lib.itoa n = Lib.decDigits n.toNat := by unfold Lib.itoa; rw [if_neg (by omega)]
theorem itoa_neg {n : Int} (h : n < 0) : Lib.itoa n = 45 :: Lib.decDigits n.natAbs := by unfold Lib.itoa; rw [if_pos h]

set_option maxRecDepth 100000 in
set_option maxHeartbeats 2000000 in
theorem decimal_any (n : Int) (w : World) (hn0 : -9223372036854775808 ≤ n) (hn1 : n ≤ 9223372036854775807) :
    Calls Tryd.prog 30 #[.int .i64 n] w fun e w' => e = .returned (.string (strOf (Lib.itoa n))) ∧ Fr (fun _ => False) w w' := by
  obtain ⟨N, hN⟩ : ∃ N, n.natAbs = N := ⟨_, rfl⟩
  have HNB : Hid ((N : Int) ≤ 9223372036854775808) := Lib.hid (by omega)
  have hlen := dec_len' HNB.out
  by_cases hneg : n < 0
  · have HI := Lib.hid (itoa_neg hneg)
    rw [hN] at HI
    have HW : Hid (IntKind.u64.wrap (- IntKind.u64.wrap n) = (N : Int)) := Lib.hid (by rw [IntKind.wrap_u64, IntKind.wrap_u64]; omega)
    obtain ⟨V, hV⟩ : ∃ V : Int, IntKind.u64.wrap n = V := ⟨_, rfl⟩
    rw [hV] at HW
    have hW2 := HW.out
    clear hN hn0 hn1
    obtain ⟨d0, hd0⟩ : ∃ d : Nat, N % 10 = d := ⟨_, rfl⟩
    have t1 : (N : Int).tmod 10 = (d0 : Int) := by rw [Int.tmod_eq_emod_of_nonneg (by omega)]; omega
    have t2 : IntKind.u64.wrap (48 + (d0 : Int)) = 48 + (d0 : Int) := IntWalk.u64_in _ (by omega)
    have t3 : (48 + (d0 : Int)) % 256 = 48 + (d0 : Int) := by omega
    have HDG : Hid (digB N = UInt8.ofNat (48 + d0)) := Lib.hid (by unfold digB; rw [hd0])
    have sc0 := run_str8 Tryd.t8 Tryd.underlying5 Tryd.underlying9 (n := 1) 1 (rd_one w (48 + (d0 : Int)) _ (digit_val' d0 (by omega)) 5) rfl
    rw [← HDG.out] at sc0
    obtain ⟨s0, hs0⟩ : ∃ s, strOf [digB N] = s := ⟨_, rfl⟩
    rw [hs0] at sc0
    have HS0 := Lib.hid hs0
    clear hs0 hd0 HDG
    go_enter Tryd.func30, Tryd.ntmps30
    go_wp2
    go_loopw [3, 4] (fun m s wr => ∃ (k : Nat) (t : ByteArray) (l : List UInt8), m = .int .u64 k ∧ s = .string t ∧ Hid (Lib.decDigits N = Lib.decDigits k ++ l ∧ t = strOf (digB k :: l)) ∧ (k : Int) ≤ 9223372036854775808 ∧ Fr (fun _ => False) w wr) (fun m _ _ => (intOf m).toNat)
    case atStart => exact ⟨N, _, [], rfl, rfl, Lib.hid ⟨by simp, HS0.out.symm⟩, HNB.out, (Fr.refl _ _).alloc _⟩
    case round =>
      obtain ⟨k, t, l, rfl, rfl, HD, hk, hF⟩ := hrel
      clear sc0 t1 t2 t3
      have hl : t.size ≤ 21 := by
        have h1 := congrArg List.length HD.out.1
        rw [List.length_append] at h1
        rw [HD.out.2, strOf_size, List.length_cons]
        omega
      by_cases hlt : 10 ≤ k
      · have i1 : (10 : Int) ≤ k := by omega
        obtain ⟨q, hq⟩ : ∃ q : Nat, k / 10 = q := ⟨_, rfl⟩
        obtain ⟨d, hd⟩ : ∃ d : Nat, q % 10 = d := ⟨_, rfl⟩
        have u0 : (k : Int).tdiv 10 = (q : Int) := by rw [Int.tdiv_eq_ediv_of_nonneg (by omega)]; omega
        have u0' : (k : Int) / 10 = (q : Int) := by omega
        have u1 : (q : Int).tmod 10 = (d : Int) := by rw [Int.tmod_eq_emod_of_nonneg (by omega)]; omega
        have u1' : (q : Int) % 10 = (d : Int) := by omega
        have u2 : IntKind.u64.wrap (48 + (d : Int)) = 48 + (d : Int) := IntWalk.u64_in _ (by omega)
        have u3 : (48 + (d : Int)) % 256 = 48 + (d : Int) := by omega
        have HQ : Hid (Lib.decDigits k = Lib.decDigits q ++ [digB k]) := Lib.hid (by rw [← hq]; exact dec_dig' hlt)
        have HDG : Hid (digB q = UInt8.ofNat (48 + d)) := Lib.hid (by unfold digB; rw [hd])
        have HLT : Hid (q < k) := Lib.hid (by omega)
        have hqb : (q : Int) ≤ 9223372036854775808 := by omega
        have sc := run_str8 Tryd.t8 Tryd.underlying5 Tryd.underlying9 (n := 1) 1 (rd_one wr (48 + (d : Int)) _ (digit_val' d (by omega)) 5) rfl
        rw [← HDG.out] at sc
        obtain ⟨s1, hs1⟩ : ∃ s, strOf [digB q] = s := ⟨_, rfl⟩
        rw [hs1] at sc
        have HS1 := Lib.hid hs1
        have hs : s1.size + t.size ≤ 9223372036854775807 := by rw [← hs1, strOf_size]; simp; omega
        clear hs1 hq hd HDG
        go_wp2
        go_roundw
        case rel =>
          refine ⟨q, s1 ++ t, digB k :: l, rfl, rfl, Lib.hid ⟨?_, ?_⟩, hqb, hF.alloc _⟩
          · rw [HD.out.1, HQ.out]; simp
          · rw [HD.out.2, ← HS1.out, strOf_app]; rfl
        case measure => have := HLT.out; simp [intOf]; omega
      · have i1 : (k : Int) < 10 := by omega
        have HQ : Hid (Lib.decDigits k = [digB k]) := Lib.hid (dec_dig (by omega))
        have hs : 1 + t.size ≤ 9223372036854775807 := by omega
        go_wp2
        go_ret
        refine ⟨?_, hF⟩
        rw [HI.out, HD.out.1, HQ.out]
        have : strOf (45 :: ([digB k] ++ l)) = strOf [45] ++ t := by rw [HD.out.2, strOf_app]; rfl
        rw [this]; rfl
  · have HI := Lib.hid (itoa_pos (n := n) (by omega))
    obtain rfl : n = (N : Int) := by omega
    rw [Int.toNat_natCast] at HI
    have hV : IntKind.u64.wrap (N : Int) = (N : Int) := IntWalk.u64_in _ (by omega)
    clear hN hn0 hn1
    obtain ⟨d0, hd0⟩ : ∃ d : Nat, N % 10 = d := ⟨_, rfl⟩
    have t1 : (N : Int).tmod 10 = (d0 : Int) := by rw [Int.tmod_eq_emod_of_nonneg (by omega)]; omega
    have t2 : IntKind.u64.wrap (48 + (d0 : Int)) = 48 + (d0 : Int) := IntWalk.u64_in _ (by omega)
    have t3 : (48 + (d0 : Int)) % 256 = 48 + (d0 : Int) := by omega
    have HDG : Hid (digB N = UInt8.ofNat (48 + d0)) := Lib.hid (by unfold digB; rw [hd0])
    have sc0 := run_str8 Tryd.t8 Tryd.underlying5 Tryd.underlying9 (n := 1) 1 (rd_one w (48 + (d0 : Int)) _ (digit_val' d0 (by omega)) 5) rfl
    rw [← HDG.out] at sc0
    obtain ⟨s0, hs0⟩ : ∃ s, strOf [digB N] = s := ⟨_, rfl⟩
    rw [hs0] at sc0
    have HS0 := Lib.hid hs0
    clear hs0 hd0 HDG
    go_enter Tryd.func30, Tryd.ntmps30
    go_wp2
    go_loopw [3, 4] (fun m s wr => ∃ (k : Nat) (t : ByteArray) (l : List UInt8), m = .int .u64 k ∧ s = .string t ∧ Hid (Lib.decDigits N = Lib.decDigits k ++ l ∧ t = strOf (digB k :: l)) ∧ (k : Int) ≤ 9223372036854775808 ∧ Fr (fun _ => False) w wr) (fun m _ _ => (intOf m).toNat)
    case atStart => exact ⟨N, _, [], rfl, rfl, Lib.hid ⟨by simp, HS0.out.symm⟩, HNB.out, (Fr.refl _ _).alloc _⟩
    case round =>
      obtain ⟨k, t, l, rfl, rfl, HD, hk, hF⟩ := hrel
      clear sc0 t1 t2 t3
      have hl : t.size ≤ 21 := by
        have h1 := congrArg List.length HD.out.1
        rw [List.length_append] at h1
        rw [HD.out.2, strOf_size, List.length_cons]
        omega
      by_cases hlt : 10 ≤ k
      · have i1 : (10 : Int) ≤ k := by omega
        obtain ⟨q, hq⟩ : ∃ q : Nat, k / 10 = q := ⟨_, rfl⟩
        obtain ⟨d, hd⟩ : ∃ d : Nat, q % 10 = d := ⟨_, rfl⟩
        have u0 : (k : Int).tdiv 10 = (q : Int) := by rw [Int.tdiv_eq_ediv_of_nonneg (by omega)]; omega
        have u0' : (k : Int) / 10 = (q : Int) := by omega
        have u1 : (q : Int).tmod 10 = (d : Int) := by rw [Int.tmod_eq_emod_of_nonneg (by omega)]; omega
        have u1' : (q : Int) % 10 = (d : Int) := by omega
        have u2 : IntKind.u64.wrap (48 + (d : Int)) = 48 + (d : Int) := IntWalk.u64_in _ (by omega)
        have u3 : (48 + (d : Int)) % 256 = 48 + (d : Int) := by omega
        have HQ : Hid (Lib.decDigits k = Lib.decDigits q ++ [digB k]) := Lib.hid (by rw [← hq]; exact dec_dig' hlt)
        have HDG : Hid (digB q = UInt8.ofNat (48 + d)) := Lib.hid (by unfold digB; rw [hd])
        have HLT : Hid (q < k) := Lib.hid (by omega)
        have hqb : (q : Int) ≤ 9223372036854775808 := by omega
        have sc := run_str8 Tryd.t8 Tryd.underlying5 Tryd.underlying9 (n := 1) 1 (rd_one wr (48 + (d : Int)) _ (digit_val' d (by omega)) 5) rfl
        rw [← HDG.out] at sc
        obtain ⟨s1, hs1⟩ : ∃ s, strOf [digB q] = s := ⟨_, rfl⟩
        rw [hs1] at sc
        have HS1 := Lib.hid hs1
        have hs : s1.size + t.size ≤ 9223372036854775807 := by rw [← hs1, strOf_size]; simp; omega
        clear hs1 hq hd HDG
        go_wp2
        go_roundw
        case rel =>
          refine ⟨q, s1 ++ t, digB k :: l, rfl, rfl, Lib.hid ⟨?_, ?_⟩, hqb, hF.alloc _⟩
          · rw [HD.out.1, HQ.out]; simp
          · rw [HD.out.2, ← HS1.out, strOf_app]; rfl
        case measure => have := HLT.out; simp [intOf]; omega
      · have i1 : (k : Int) < 10 := by omega
        have HQ : Hid (Lib.decDigits k = [digB k]) := Lib.hid (dec_dig (by omega))
        go_wp2
        go_ret
        refine ⟨?_, hF⟩
        rw [HI.out, HD.out.1, HQ.out, HD.out.2]; rfl
end Go.Proofs.YtacafjbbdklleaaDoor
