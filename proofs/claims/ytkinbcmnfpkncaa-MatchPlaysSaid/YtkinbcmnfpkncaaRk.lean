/- match: BinarySearch over this program; the closure that asks whether a number is out. -/
import Derived.Shelf.Slices.SearchI
import Derived.Shelf.Slices.Empties
import Derived.Test.YtkinbcmnfpkncaaJa
import Derived.Test.YtkinbcmnfpkncaaRi
namespace Go.Proofs.Ytkinbcmnfpkncaa
open Go.Shelf Go.RowKit Go.Lib
def Try.layD25r : Go.Shelf.Ren := ⟨fun | 25 => 34 | 31 => 45 | 32 => 46 | 37 => 52 | n => n, fun | 22 => 43 | 3 => 3 | 4 => 4 | 40 => 89 | 0 => 0 | n => n, fun | n => n⟩
theorem Try.layD25 : Go.Proofs.Lays2.n25 Try.prog Try.layD25r := {
  mixed := by kernel_rfl
  f25 := Try.func34.trans (congrArg some (by kernel_rfl))
  f31 := Try.func45.trans (congrArg some (by kernel_rfl))
  f32 := Try.func46.trans (congrArg some (by kernel_rfl))
  f37 := Try.func52.trans (congrArg some (by kernel_rfl))
  t22 := Try.underlying43
  a22 := Try.isAgg43
  z22 := Try.sizeOf43
  v22 := Try.zeroValue43
  t3 := Try.underlying3
  a3 := Try.isAgg3
  z3 := Try.sizeOf3
  v3 := Try.zeroValue3
  t4 := Try.underlying4
  a4 := Try.isAgg4
  z4 := Try.sizeOf4
  v4 := Try.zeroValue4
  t40 := Try.underlying89
  a40 := Try.isAgg89
  z40 := Try.sizeOf89
  v40 := Try.zeroValue89
  t0 := Try.underlying0
  a0 := Try.isAgg0
  z0 := Try.sizeOf0
  v0 := Try.zeroValue0
}

/-- A row of ints, at whatever place of a block. -/
def RI (w : World) (v : Value) (r : List Int) : Prop := Row w 3 1 v r.length (r.map IV)
theorem search_nil (c : Nat) (A : Option Addr) (x : Int) (w : World) :
    Calls Try.prog 34 #[.slice A 0 c, .int .i64 x] w fun e w' => e = .returned (.tuple #[.int .i64 0, .bool false]) ∧ w' = w := Any.slices_BinarySearch_int_empty Try.layD25 A c x w
/-- BinarySearch of a rising row: where the number stands or would, and whether it is there; nothing turns. -/
theorem search_any {w : World} {v : Value} {r : List Int} (x : Int) (h : RI w v r) (hr : Rise r) (hl : r.length < 4611686018427387904) :
    Calls Try.prog 34 #[v, .int .i64 x] w fun e w' => e = .returned (.tuple #[.int .i64 (posR r x : Nat), .bool (r.contains x)]) ∧ Fr (fun _ => False) w w' := by
  rcases h.2 with ⟨rfl, h0⟩ | ⟨b, off, cap, cur, rfl, hb, hc1, hc2, hc3, hc4⟩
  · have : r = [] := List.eq_nil_of_length_eq_zero h0
    subst this
    refine (search_nil 0 none x w).mono ?_
    rintro e w' ⟨rfl, rfl⟩
    exact ⟨rfl, Fr.refl _ _⟩
  · refine (Any.slices_BinarySearch_int Try.layD25 b off r.length cap r x w (Nat.le_refl _) hl (fun j hj => ?_) ?_).mono ?_
    · rw [hb.cell, hc4 j (by simpa using hj)]
      simp [IV, hj, List.getD_eq_getElem?_getD]
    · rw [List.take_length]
      exact hr.imp (fun h => by omega)
    · rintro e w' ⟨rfl, q, rfl⟩
      rw [List.take_length]
      exact ⟨rfl, (Fr.refl _ _).drewN q⟩

/-- A row of ints of the call's own is one at a place. -/
theorem OwnI.ri {w : World} {v : Value} {xs : List Int} (h : OwnI w v xs) : RI w v xs := by
  rcases h.form with ⟨rfl, rfl⟩ | ⟨g, cap, cur, rfl, h1, h2, hb, hc⟩
  · exact Row.nil _ _ _
  · rcases h.2 with ⟨e, _⟩ | ⟨g', cap', cur', e, _, hh, _, _, h3, _⟩
    · cases e
    injection e with e1 e2 e3
    injection e1 with e1
    injection e1 with e1
    subst e1 e3
    have hcc : cur' = cur := by unfold Bk at hb; rw [hb] at hh; injection hh with hh; injection hh with hh; exact hh.symm
    subst hcc
    refine ⟨by simp, .inr ⟨g, 0, cap, cur', rfl, hb, h1, h2, by omega, fun j hj => ?_⟩⟩
    have hj' : j < xs.length := by simpa using hj
    rw [Nat.zero_add, hc j hj']
    simp [hj', IV]

set_option maxRecDepth 100000 in
set_option maxHeartbeats 1000000 in
/-- Is a task's number out? -/
theorem isOut_I {w : World} {bo : Nat} {ov : Value} {out : List Int} (hb : w.cell? ⟨bo, 0, none⟩ = some ov) (ho : RI w ov out) (hr : Rise out) (hl : out.length ≤ 1048576) (p : Nat × Int) :
    Calls Try.prog 33 #[PV p, .pointer (some ⟨bo, 0, none⟩)] w fun e w' => e = .returned (.bool (out.contains (p.1 : Int))) ∧ Fr (fun _ => False) w w' := by
  have hlt := World.block_lt_of_cell? w _ hb
  have hf0 : Fr (fun _ => False) w (w.alloc (.cells #[.int .i64 p.1, .int .i64 p.2] 61)) := (Fr.refl _ _).alloc _
  have hc : (w.alloc (.cells #[.int .i64 p.1, .int .i64 p.2] 61)).cell? ⟨bo, 0, none⟩ = some ov := (hf0.cell (p := ⟨bo, 0, none⟩) hlt (fun h => h)).trans hb
  have CS := Lib.hid (search_any (p.1 : Int) (Row.fr0 ho hf0) hr (by omega))
  obtain ⟨A, k, e, -, -, -⟩ := ho.form
  subst e
  have HF0 := Lib.hid hf0
  clear hf0 hlt ho hr hl hb
  unfold PV
  generalize out.contains (p.1 : Int) = q at *
  generalize posR out (p.1 : Int) = m at *
  go_enter Try.func33, Try.ntmps33
  go_wp2_with fail
  refine CS.out.mono ?_; rintro e w1 ⟨rfl, hf1⟩
  have HF1 := Lib.hid (HF0.out.trans hf1 (fun _ _ h => h))
  clear hf1 CS hc
  go_wp2
  go_ret
  exact ⟨rfl, HF1.out⟩
end Go.Proofs.Ytkinbcmnfpkncaa
