/- Words of four bytes, frames. -/
import Derived.Test.YtbopmboigcdjpaaDoorCc
import Derived.Deep.QuietTactic
import Derived.BigQuiet
namespace Go.Proofs.YtbopmboigcdjpaaDoor
open Go.RowKit

/-- A number's four bytes, the lowest first. -/
def four (v : Nat) : List UInt8 := [UInt8.ofNat (v % 256), UInt8.ofNat (v / 256 % 256), UInt8.ofNat (v / 65536 % 256), UInt8.ofNat (v / 16777216 % 256)]
/-- The number of four bytes. -/
def le4 (a b c d : Nat) : Nat := a + 256 * b + 65536 * c + 16777216 * d
def le32 (l : List UInt8) : Nat := le4 (l.getD 0 0).toNat (l.getD 1 0).toNat (l.getD 2 0).toNat (l.getD 3 0).toNat
theorem le32_lt (l : List UInt8) : le32 l < 4294967296 := by
  unfold le32 le4
  have h0 := (l.getD 0 0).toNat_lt
  have h1 := (l.getD 1 0).toNat_lt
  have h2 := (l.getD 2 0).toNat_lt
  have h3 := (l.getD 3 0).toNat_lt
  omega

theorem four_rd (w : World) (x : Nat) (hx : (x : Int) ≤ 4294967295) :
    Rd8 (w.alloc (.cells #[.int .u8 ((x : Int) % 256), .int .u8 ((x : Int) / 256 % 256), .int .u8 ((x : Int) / 65536 % 256), .int .u8 ((x : Int) / 16777216)] 5)) (some ⟨w.heap.size, 0, none⟩) (four x) := fun _ => by
  refine ⟨_, rfl, rfl, fun j hj => ?_⟩
  have hj4 : j < 4 := hj
  rw [Nat.zero_add, (Bk.new w 5 _).cell j]
  match j, hj4 with
  | 0, _ => simp [four, UInt8.toNat_ofNat']
  | 1, _ => simp [four, UInt8.toNat_ofNat']
  | 2, _ => simp [four, UInt8.toNat_ofNat']
  | 3, _ => simp [four, UInt8.toNat_ofNat']; omega

theorem le4_val (a b c d : Nat) (ha : a < 2 ^ 8) (hb : b < 2 ^ 8) (hc : c < 2 ^ 8) (hd : d < 2 ^ 8) :
    bits BinOp.or IntKind.u32 (bits BinOp.or IntKind.u32 (bits BinOp.or IntKind.u32 (a : Int) ((b : Int) * 256)) ((c : Int) * 65536)) ((d : Int) * 16777216) = (le4 a b c d : Int) := by
  have o1 : a ||| b * 256 = a + b * 256 := by rw [Nat.or_comm, nat_join 8 _ _ (by omega) (by omega)]; omega
  have o2 : (a + b * 256) ||| c * 65536 = a + b * 256 + c * 65536 := by rw [Nat.or_comm, nat_join 16 _ _ (by omega) (by omega)]; omega
  have o3 : (a + b * 256 + c * 65536) ||| d * 16777216 = a + b * 256 + c * 65536 + d * 16777216 := by rw [Nat.or_comm, nat_join 24 _ _ (by omega) (by omega)]; omega
  rw [show (b : Int) * 256 = ((b * 256 : Nat) : Int) by omega, u32_or_nat _ _ (by omega) (by omega), o1,
    show (c : Int) * 65536 = ((c * 65536 : Nat) : Int) by omega, u32_or_nat _ _ (by omega) (by omega), o2,
    show (d : Int) * 16777216 = ((d * 16777216 : Nat) : Int) by omega, u32_or_nat _ _ (by omega) (by omega), o3]
  unfold le4; omega

/-- P103's frame of bytes. -/
def frameOf (bs : List UInt8) : List UInt8 := four (bs.length % 4294967296) ++ four (crcOf (four (bs.length % 4294967296))) ++ bs ++ four (crcOf bs)

theorem crcOf_le (l : List UInt8) : (crcOf l : Int) ≤ 4294967295 := by unfold crcOf; omega

end Go.Proofs.YtbopmboigcdjpaaDoor
