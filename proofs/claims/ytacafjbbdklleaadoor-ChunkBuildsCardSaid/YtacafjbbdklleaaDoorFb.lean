/- Texts of faults. -/
import Derived.Test.YtacafjbbdklleaaDoorFa
import Derived.Test.YtacafjbbdklleaaDoorFs
import Derived.Lib.LaidTab
namespace Go.Proofs.YtacafjbbdklleaaDoor
open Go.RowKit

def errText (k : Int) : ByteArray := if k = 7 then ⟨#[115, 104, 111, 114, 116]⟩ else if k = 8 then ⟨#[102, 111, 114, 109]⟩ else if k = 9 then ⟨#[115, 117, 109]⟩ else ⟨#[108, 111, 110, 103]⟩
theorem errno_7 (w : World) : Calls Tryd.prog 27 #[.int .i64 7] w fun e w' => e = .returned (.string (errText 7)) ∧ w = w' := by
  go_enter Tryd.func27, Tryd.ntmps27
  go_wp2
  go_ret
  exact ⟨rfl, rfl⟩
theorem errno_8 (w : World) : Calls Tryd.prog 27 #[.int .i64 8] w fun e w' => e = .returned (.string (errText 8)) ∧ w = w' := by
  go_enter Tryd.func27, Tryd.ntmps27
  go_wp2
  go_ret
  exact ⟨rfl, rfl⟩
theorem errno_9 (w : World) : Calls Tryd.prog 27 #[.int .i64 9] w fun e w' => e = .returned (.string (errText 9)) ∧ w = w' := by
  go_enter Tryd.func27, Tryd.ntmps27
  go_wp2
  go_ret
  exact ⟨rfl, rfl⟩
theorem errno_10 (w : World) : Calls Tryd.prog 27 #[.int .i64 10] w fun e w' => e = .returned (.string (errText 10)) ∧ w = w' := by
  go_enter Tryd.func27, Tryd.ntmps27
  go_wp2
  go_ret
  exact ⟨rfl, rfl⟩
/-- One of the document's faults. -/
def Bad4 (k : Int) : Prop := k = 7 ∨ k = 8 ∨ k = 9 ∨ k = 10
theorem errno_any (k : Int) (w : World) (h : Bad4 k) : Calls Tryd.prog 27 #[.int .i64 k] w fun e w' => e = .returned (.string (errText k)) ∧ w = w' := by
  rcases h with rfl | rfl | rfl | rfl
  · exact errno_7 w
  · exact errno_8 w
  · exact errno_9 w
  · exact errno_10 w

theorem rd_one (w : World) (z : Int) (d : UInt8) (hd : (d.toNat : Int) = z) (c : TypeId) : Rd8 (w.alloc (.cells #[.int .u8 z] c)) (some ⟨w.heap.size, 0, none⟩) [d] := fun _ =>
  ⟨_, rfl, rfl, fun j hj => by
    obtain rfl : j = 0 := by simpa using hj
    have := (Bk.new w c #[.int .u8 z]).cell 0
    simp [← hd]⟩
theorem digit_val (k : Nat) : ((UInt8.ofNat (48 + k % 10)).toNat : Int) = 48 + (k : Int) % 10 := by
  rw [UInt8.toNat_ofNat', Nat.mod_eq_of_lt (by omega)]; omega
theorem digit_val' (k : Nat) (h : k < 10) : ((UInt8.ofNat (48 + k)).toNat : Int) = 48 + (k : Int) := by
  rw [UInt8.toNat_ofNat', Nat.mod_eq_of_lt (by omega)]; omega
theorem dec_ge {k : Nat} (h : 10 ≤ k) : Lib.decDigits k = Lib.decDigits (k / 10) ++ [UInt8.ofNat (48 + k % 10)] := by
  rw [Lib.decDigits, dif_neg (by omega)]
theorem dec_lt {k : Nat} (h : k < 10) : Lib.decDigits k = [UInt8.ofNat (48 + k)] := by
  rw [Lib.decDigits, dif_pos h]

theorem nDigits_le : ∀ (j n : Nat), n < 10 ^ (j + 1) → Lib.nDigits n ≤ j + 1
  | 0, n, h => by rw [Lib.nDigits_small (by simpa using h)]; exact Nat.le_refl _
  | j + 1, n, h => by
    by_cases h1 : n < 10
    · rw [Lib.nDigits_small h1]; omega
    · rw [Lib.nDigits_big h1]
      have := nDigits_le j (n / 10) (by rw [Nat.pow_succ] at h; omega)
      omega
theorem dec_len {n : Nat} (h : n ≤ 9223372036854775807) : (Lib.decDigits n).length ≤ 20 := by
  rw [Lib.decDigits_length]
  exact nDigits_le 19 n (by omega)
theorem strOf_size (l : List UInt8) : (strOf l).size = l.length := by simp [strOf, ByteArray.size]
theorem strOf_app (a b : List UInt8) : strOf a ++ strOf b = strOf (a ++ b) := by
  apply ByteArray.ext
  simp [strOf, ByteArray.data_append]

end Go.Proofs.YtacafjbbdklleaaDoor
