/- The library's contracts of BinarySearch, Insert and Delete at []int, laid over this program. -/
import Derived.Shelf.Slices.SearchI
import Derived.Shelf.Slices.Delete
import Derived.Shelf.Slices.Empties
import Derived.Shelf.Spec.SlicesInsertGrow
import Derived.Test.YtdfkoehcmgcoiaaJd
namespace Go.Proofs.Ytdfkoehcmgcoiaa
open Go.Shelf Go.RowKit Go.Lib
def Try.layD25r : Go.Shelf.Ren := ⟨fun | 25 => 34 | 31 => 42 | 32 => 43 | 37 => 49 | n => n, fun | 22 => 42 | 3 => 3 | 4 => 4 | 40 => 80 | 0 => 0 | n => n, fun | n => n⟩
theorem Try.layD25 : Go.Proofs.Lays2.n25 Try.prog Try.layD25r := {
  mixed := by kernel_rfl
  f25 := Try.func34.trans (congrArg some (by kernel_rfl))
  f31 := Try.func42.trans (congrArg some (by kernel_rfl))
  f32 := Try.func43.trans (congrArg some (by kernel_rfl))
  f37 := Try.func49.trans (congrArg some (by kernel_rfl))
  t22 := Try.underlying42
  a22 := Try.isAgg42
  z22 := Try.sizeOf42
  v22 := Try.zeroValue42
  t3 := Try.underlying3
  a3 := Try.isAgg3
  z3 := Try.sizeOf3
  v3 := Try.zeroValue3
  t4 := Try.underlying4
  a4 := Try.isAgg4
  z4 := Try.sizeOf4
  v4 := Try.zeroValue4
  t40 := Try.underlying80
  a40 := Try.isAgg80
  z40 := Try.sizeOf80
  v40 := Try.zeroValue80
  t0 := Try.underlying0
  a0 := Try.isAgg0
  z0 := Try.sizeOf0
  v0 := Try.zeroValue0
}
def Try.layD23r : Go.Shelf.Ren := ⟨fun | 23 => 36 | n => n, fun | 22 => 42 | 3 => 3 | 4 => 4 | 0 => 0 | n => n, fun | n => n⟩
theorem Try.layD23 : Go.Proofs.Lays2.n23 Try.prog Try.layD23r := {
  mixed := by kernel_rfl
  f23 := Try.func36.trans (congrArg some (by kernel_rfl))
  t22 := Try.underlying42
  a22 := Try.isAgg42
  z22 := Try.sizeOf42
  v22 := Try.zeroValue42
  t3 := Try.underlying3
  a3 := Try.isAgg3
  z3 := Try.sizeOf3
  v3 := Try.zeroValue3
  t4 := Try.underlying4
  a4 := Try.isAgg4
  z4 := Try.sizeOf4
  v4 := Try.zeroValue4
  t0 := Try.underlying0
  a0 := Try.isAgg0
  z0 := Try.sizeOf0
  v0 := Try.zeroValue0
  i3 := by kernel_rfl
}
def Try.layD21r : Go.Shelf.Ren := ⟨fun | 21 => 35 | 27 => 44 | 28 => 45 | 35 => 50 | 39 => 61 | n => n, fun | 22 => 42 | 3 => 3 | 4 => 4 | 0 => 0 | n => n, fun | n => n⟩
theorem Try.layD21 : Go.Proofs.Lays2.n21 Try.prog Try.layD21r := {
  mixed := by kernel_rfl
  f21 := Try.func35.trans (congrArg some (by kernel_rfl))
  f27 := Try.func44.trans (congrArg some (by kernel_rfl))
  f28 := Try.func45.trans (congrArg some (by kernel_rfl))
  f35 := Try.func50.trans (congrArg some (by kernel_rfl))
  f39 := Try.func61.trans (congrArg some (by kernel_rfl))
  t22 := Try.underlying42
  a22 := Try.isAgg42
  z22 := Try.sizeOf42
  v22 := Try.zeroValue42
  t3 := Try.underlying3
  a3 := Try.isAgg3
  z3 := Try.sizeOf3
  v3 := Try.zeroValue3
  t4 := Try.underlying4
  a4 := Try.isAgg4
  z4 := Try.sizeOf4
  v4 := Try.zeroValue4
  t0 := Try.underlying0
  a0 := Try.isAgg0
  z0 := Try.sizeOf0
  v0 := Try.zeroValue0
  i3 := by kernel_rfl
}

theorem search_nil (c : Nat) (A : Option Addr) (x : Int) (w : World) :
    Calls Try.prog 34 #[.slice A 0 c, .int .i64 x] w fun e w' => e = .returned (.tuple #[.int .i64 0, .bool false]) ∧ w' = w := Any.slices_BinarySearch_int_empty Try.layD25 A c x w
/-- BinarySearch of a rising row: where the number stands or would, and whether it is there; nothing turns. -/
theorem search_any {w : World} {v : Value} {r : List Int} (x : Int) (h : RI w v r) (hr : Rise r) (hl : r.length < 4611686018427387904) :
    Calls Try.prog 34 #[v, .int .i64 x] w fun e w' => e = .returned (.tuple #[.int .i64 (posR r x : Nat), .bool (r.contains x)]) ∧ Fr (fun _ => False) w w' := by
  rcases h.2 with ⟨rfl, h0⟩ | ⟨b, off, cap, cur, rfl, hb, hc1, hc2, hc3, hc4⟩
  · have : r = [] := List.eq_nil_of_length_eq_zero h0
    subst this
    refine (search_nil 0 none x w).mono ?_
    rintro e w' ⟨rfl, rfl⟩
    exact ⟨rfl, Fr.refl _ _⟩
  · refine (Any.slices_BinarySearch_int Try.layD25 b off r.length cap r x w (Nat.le_refl _) hl (fun j hj => ?_) ?_).mono ?_
    · rw [hb.cell, hc4 j (by simpa using hj)]
      simp [IV, hj, List.getD_eq_getElem?_getD]
    · rw [List.take_length]
      exact hr.imp (fun h => by omega)
    · rintro e w' ⟨rfl, q, rfl⟩
      rw [List.take_length]
      exact ⟨rfl, (Fr.refl _ _).drewN q⟩
end Go.Proofs.Ytdfkoehcmgcoiaa
