/- Texts of faults. -/
import Derived.Test.YtblfnbmgijppmaaDoorFa
import Derived.Test.YtblfnbmgijppmaaDoorFs
import Derived.Lib.LaidTab
namespace Go.Proofs.YtblfnbmgijppmaaDoor
open Go.RowKit

def errText (k : Int) : ByteArray := if k = 7 then ⟨#[115, 104, 111, 114, 116]⟩ else if k = 8 then ⟨#[102, 111, 114, 109]⟩ else if k = 9 then ⟨#[115, 117, 109]⟩ else ⟨#[108, 111, 110, 103]⟩
theorem errno_7 (w : World) : Calls Tryd.prog 33 #[.int .i64 7] w fun e w' => e = .returned (.string (errText 7)) ∧ w = w' := by
  go_enter Tryd.func33, Tryd.ntmps33
  go_wp2
  go_ret
  exact ⟨rfl, rfl⟩
theorem errno_8 (w : World) : Calls Tryd.prog 33 #[.int .i64 8] w fun e w' => e = .returned (.string (errText 8)) ∧ w = w' := by
  go_enter Tryd.func33, Tryd.ntmps33
  go_wp2
  go_ret
  exact ⟨rfl, rfl⟩
theorem errno_9 (w : World) : Calls Tryd.prog 33 #[.int .i64 9] w fun e w' => e = .returned (.string (errText 9)) ∧ w = w' := by
  go_enter Tryd.func33, Tryd.ntmps33
  go_wp2
  go_ret
  exact ⟨rfl, rfl⟩
theorem errno_10 (w : World) : Calls Tryd.prog 33 #[.int .i64 10] w fun e w' => e = .returned (.string (errText 10)) ∧ w = w' := by
  go_enter Tryd.func33, Tryd.ntmps33
  go_wp2
  go_ret
  exact ⟨rfl, rfl⟩
/-- One of the document's faults. -/
def Bad4 (k : Int) : Prop := k = 7 ∨ k = 8 ∨ k = 9 ∨ k = 10
theorem errno_any (k : Int) (w : World) (h : Bad4 k) : Calls Tryd.prog 33 #[.int .i64 k] w fun e w' => e = .returned (.string (errText k)) ∧ w = w' := by
  rcases h with rfl | rfl | rfl | rfl
  · exact errno_7 w
  · exact errno_8 w
  · exact errno_9 w
  · exact errno_10 w

theorem rd_one (w : World) (z : Int) (d : UInt8) (hd : (d.toNat : Int) = z) (c : TypeId) : Rd8 (w.alloc (.cells #[.int .u8 z] c)) (some ⟨w.heap.size, 0, none⟩) [d] := fun _ =>
  ⟨_, rfl, rfl, fun j hj => by
    obtain rfl : j = 0 := by simpa using hj
    have := (Bk.new w c #[.int .u8 z]).cell 0
    simp [← hd]⟩
theorem digit_val (k : Nat) : ((UInt8.ofNat (48 + k % 10)).toNat : Int) = 48 + (k : Int) % 10 := by
  rw [UInt8.toNat_ofNat', Nat.mod_eq_of_lt (by omega)]; omega
theorem digit_val' (k : Nat) (h : k < 10) : ((UInt8.ofNat (48 + k)).toNat : Int) = 48 + (k : Int) := by
  rw [UInt8.toNat_ofNat', Nat.mod_eq_of_lt (by omega)]; omega
theorem dec_ge {k : Nat} (h : 10 ≤ k) : Lib.decDigits k = Lib.decDigits (k / 10) ++ [UInt8.ofNat (48 + k % 10)] := by
  rw [Lib.decDigits, dif_neg (by omega)]
theorem dec_lt {k : Nat} (h : k < 10) : Lib.decDigits k = [UInt8.ofNat (48 + k)] := by
  rw [Lib.decDigits, dif_pos h]

theorem nDigits_le : ∀ (j n : Nat), n < 10 ^ (j + 1) → Lib.nDigits n ≤ j + 1
  | 0, n, h => by rw [Lib.nDigits_small (by simpa using h)]; exact Nat.le_refl _
  | j + 1, n, h => by
    by_cases h1 : n < 10
    · rw [Lib.nDigits_small h1]; omega
    · rw [Lib.nDigits_big h1]
      have := nDigits_le j (n / 10) (by rw [Nat.pow_succ] at h; omega)
      omega
theorem dec_len {n : Nat} (h : n ≤ 9223372036854775807) : (Lib.decDigits n).length ≤ 20 := by
  rw [Lib.decDigits_length]
  exact nDigits_le 19 n (by omega)
theorem strOf_size (l : List UInt8) : (strOf l).size = l.length := by simp [strOf, ByteArray.size]
theorem strOf_app (a b : List UInt8) : strOf a ++ strOf b = strOf (a ++ b) := by
  apply ByteArray.ext
  simp [strOf, ByteArray.data_append]

set_option maxRecDepth 100000 in
theorem decimal_any (n : Nat) (w : World) (h : n ≤ 9223372036854775807) :
    Calls Tryd.prog 34 #[.int .i64 n] w fun e w' => e = .returned (.string (strOf (Lib.decDigits n))) ∧ Fr (fun _ => False) w w' := by
  have hlen := dec_len h
  go_enter Tryd.func34, Tryd.ntmps34
  go_wp2
  go_loopw [0, 3] (fun m s wr => ∃ (k : Nat) (t : ByteArray) (l : List UInt8), m = .int .i64 k ∧ s = .string t ∧ Hid (Lib.decDigits n = Lib.decDigits k ++ l ∧ t = strOf l) ∧ k ≤ 9223372036854775807 ∧ Fr (fun _ => False) w wr) (fun m _ _ => (intOf m).toNat)
  case atStart => exact ⟨n, _, [], rfl, rfl, Lib.hid ⟨by simp, rfl⟩, h, Fr.refl _ _⟩
  case round =>
    obtain ⟨k, t, l, rfl, rfl, HD, hk, hF⟩ := hrel
    have hl : t.size ≤ 20 := by
      have h1 := congrArg List.length HD.out.1
      rw [List.length_append] at h1
      rw [HD.out.2, strOf_size]
      omega
    by_cases hlt : 10 ≤ k
    · have i1 : (10 : Int) ≤ k := by omega
      have HG := Lib.hid (dec_ge hlt)
      have sc := run_str8 Tryd.t8 Tryd.underlying5 Tryd.underlying9 (n := 1) 1 (rd_one wr (48 + (k : Int) % 10) _ (digit_val k) 5) rfl
      generalize UInt8.ofNat (48 + k % 10) = d at *
      have hs : (strOf [d]).size + t.size ≤ 9223372036854775807 := by rw [strOf_size]; simp; omega
      go_wp2
      go_roundw
      case rel =>
        refine ⟨k / 10, strOf [d] ++ t, d :: l, by go_num, rfl, Lib.hid ⟨?_, ?_⟩, by omega, hF.alloc _⟩
        · rw [HD.out.1, HG.out]; simp
        · rw [HD.out.2, strOf_app]; rfl
      case measure => simp [intOf]; omega
    · have i1 : (k : Int) < 10 := by omega
      have HG := Lib.hid (dec_lt (k := k) (by omega))
      have sc := run_str8 Tryd.t8 Tryd.underlying5 Tryd.underlying9 (n := 1) 1 (rd_one wr (48 + (k : Int)) _ (digit_val' k (by omega)) 5) rfl
      generalize UInt8.ofNat (48 + k) = d at *
      have hs : (strOf [d]).size + t.size ≤ 9223372036854775807 := by rw [strOf_size]; simp; omega
      go_wp2
      go_ret
      refine ⟨?_, hF.alloc _⟩
      show Ending.returned (.string (strOf [d] ++ t)) = _
      rw [HD.out.1, HD.out.2, HG.out, strOf_app]
end Go.Proofs.YtblfnbmgijppmaaDoor
