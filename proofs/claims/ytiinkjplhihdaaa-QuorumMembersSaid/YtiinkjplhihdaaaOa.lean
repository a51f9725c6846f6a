/- Members: a row of nine bytes, as a value, in a box. -/
import Derived.Test.YtiinkjplhihdaaaMem
import Derived.RangeFuncNested
import Derived.RangeFuncBound
import Derived.RangeFuncCalls
import Derived.RangeFuncLeaves
import Derived.Shelf.Abstract
import Derived.Shelf.RegionOpen
import Derived.WalkKit
import Derived.OwnWalkIn
import Derived.TacticsInMore
import Derived.LoopNIn
import Derived.LoopIn
import Derived.Deep.QuietTactic
import Derived.Deep.WholeRow
import Derived.Laws.Tables
import Derived.Test.YtiinkjplhihdaaaProg
namespace Go.Proofs.Ytiinkjplhihdaaa
open Go.RowKit

/-- The nine cells, and the value. -/
def mcs (m : Nat → Int) : Array Value := #[.int .u8 (m 0), .int .u8 (m 1), .int .u8 (m 2), .int .u8 (m 3), .int .u8 (m 4), .int .u8 (m 5), .int .u8 (m 6), .int .u8 (m 7), .int .u8 (m 8)]
def mv (m : Nat → Int) : Value := .agg #[.int .u8 (m 0), .int .u8 (m 1), .int .u8 (m 2), .int .u8 (m 3), .int .u8 (m 4), .int .u8 (m 5), .int .u8 (m 6), .int .u8 (m 7), .int .u8 (m 8)]
theorem mcs_at (m : Nat → Int) : ∀ k, k < 9 → (mcs m)[k]? = some (.int .u8 (m k))
  | 0, _ => rfl | 1, _ => rfl | 2, _ => rfl | 3, _ => rfl | 4, _ => rfl | 5, _ => rfl | 6, _ => rfl | 7, _ => rfl | 8, _ => rfl
  | _ + 9, h => by omega
theorem mcs_inj {m q : Nat → Int} (h : ∀ k, k < 9 → m k = q k) : mcs m = mcs q := by
  unfold mcs
  rw [h 0 (by omega), h 1 (by omega), h 2 (by omega), h 3 (by omega), h 4 (by omega), h 5 (by omega), h 6 (by omega), h 7 (by omega), h 8 (by omega)]
theorem mv_inj {m q : Nat → Int} (h : ∀ k, k < 9 → m k = q k) : mv m = mv q := by
  unfold mv
  rw [h 0 (by omega), h 1 (by omega), h 2 (by omega), h 3 (by omega), h 4 (by omega), h 5 (by omega), h 6 (by omega), h 7 (by omega), h 8 (by omega)]
/-- The members lie in block b, from cell o on. -/
def Bx (w : World) (b o : Nat) (m : Nat → Int) : Prop := ∀ k, k < 9 → w.cell? ⟨b, o + k, none⟩ = some (.int .u8 (m k))
theorem Bx.of {w : World} {b : Nat} {t : TypeId} {m : Nat → Int} (h : Bk w b t (mcs m)) : Bx w b 0 m := fun k hk => by rw [Nat.zero_add]; exact (h.cell k).trans (mcs_at m k hk)
theorem Bx.new (w : World) (t : TypeId) (m : Nat → Int) : Bx (w.alloc (.cells (mcs m) t)) w.heap.size 0 m := Bx.of (Bk.new w t _)
theorem Bx.fr {w w' : World} {b o : Nat} {m : Nat → Int} {S : Nat → Prop} (h : Bx w b o m) (hf : Fr S w w') (hs : ¬ S b) : Bx w' b o m := fun k hk => by
  have h1 := h k hk
  rw [← h1]
  exact hf.cell (p := ⟨b, o + k, none⟩) (World.block_lt_of_cell? w _ h1) hs
theorem Bx.lt {w : World} {b o : Nat} {m : Nat → Int} (h : Bx w b o m) : b < w.heap.size := World.block_lt_of_cell? w _ (h 0 (by omega))
theorem Bx.at0 {w : World} {b : Nat} {m : Nat → Int} (h : Bx w b 0 m) {k : Nat} (hk : k < 9) : w.cell? ⟨b, k, none⟩ = some (.int .u8 (m k)) := by
  have := h k hk
  rwa [Nat.zero_add] at this

theorem run_load23 (w : World) (b o : Nat) (m : Nat → Int) (h : Bx w b o m) : (Instr.loadAt 23 (.pointer (some ⟨b, o, none⟩))).run Try.prog w = .ok (mv m) w := by
  have h0 := h 0 (by omega)
  have h1 := h 1 (by omega)
  have h2 := h 2 (by omega)
  have h3 := h 3 (by omega)
  have h4 := h 4 (by omega)
  have h5 := h 5 (by omega)
  have h6 := h 6 (by omega)
  have h7 := h 7 (by omega)
  have h8 := h 8 (by omega)
  rw [Nat.add_zero] at h0
  unfold mv
  go_simp
theorem run_box23 (w : World) (m : Nat → Int) : (Instr.box 23 (mv m)).run Try.prog w = .ok (.pointer (some ⟨w.heap.size, 0, none⟩)) (w.alloc (.cells (mcs m) 23)) := by
  unfold mv mcs
  go_simp
theorem run_index23 (w : World) (m : Nat → Int) : ∀ k : Nat, k < 9 → (Instr.index 23 (mv m) (.int .i64 (k : Int))).run Try.prog w = .ok (.int .u8 (m k)) w
  | 0, _ => by kernel_rfl
  | 1, _ => by kernel_rfl
  | 2, _ => by kernel_rfl
  | 3, _ => by kernel_rfl
  | 4, _ => by kernel_rfl
  | 5, _ => by kernel_rfl
  | 6, _ => by kernel_rfl
  | 7, _ => by kernel_rfl
  | 8, _ => by kernel_rfl
  | _ + 9, h => by omega
theorem run_load22 (w : World) (b o : Nat) (m : Nat → Int) (h : Bx w b o m) : (Instr.loadAt 22 (.pointer (some ⟨b, o, none⟩))).run Try.prog w = .ok (mv m) w := by
  have h0 := h 0 (by omega)
  have h1 := h 1 (by omega)
  have h2 := h 2 (by omega)
  have h3 := h 3 (by omega)
  have h4 := h 4 (by omega)
  have h5 := h 5 (by omega)
  have h6 := h 6 (by omega)
  have h7 := h 7 (by omega)
  have h8 := h 8 (by omega)
  rw [Nat.add_zero] at h0
  unfold mv
  go_simp
theorem run_box22 (w : World) (m : Nat → Int) : (Instr.box 22 (mv m)).run Try.prog w = .ok (.pointer (some ⟨w.heap.size, 0, none⟩)) (w.alloc (.cells (mcs m) 22)) := by
  unfold mv mcs
  go_simp
theorem run_index22 (w : World) (m : Nat → Int) : ∀ k : Nat, k < 9 → (Instr.index 22 (mv m) (.int .i64 (k : Int))).run Try.prog w = .ok (.int .u8 (m k)) w
  | 0, _ => by kernel_rfl
  | 1, _ => by kernel_rfl
  | 2, _ => by kernel_rfl
  | 3, _ => by kernel_rfl
  | 4, _ => by kernel_rfl
  | 5, _ => by kernel_rfl
  | 6, _ => by kernel_rfl
  | 7, _ => by kernel_rfl
  | 8, _ => by kernel_rfl
  | _ + 9, h => by omega
/-- The members are stored into block b. -/
theorem Bk.row {w : World} {b : Nat} {t : TypeId} {cs : Array Value} (h : Bk w b t cs) (ds : Array Value) : Bk (w.setRow b ds) b t ds := by
  unfold Bk at h ⊢
  simp [World.setRow, Array.getElem?_modify, h]
theorem Bk.rowFar {w : World} {b g : Nat} {t : TypeId} {cs : Array Value} (h : Bk w g t cs) (hne : g ≠ b) (ds : Array Value) : Bk (w.setRow b ds) g t cs := by
  unfold Bk at h ⊢
  simp only [World.setRow, Array.getElem?_modify]
  rw [if_neg (fun e => hne e.symm)]; exact h
theorem Fr.row {S : Nat → Prop} {a w : World} (h : Fr S a w) {b : Nat} (hb : b < a.heap.size → S b) (ds : Array Value) : Fr S a (w.setRow b ds) :=
  h.trans (T := fun k => k = b) ⟨rfl, rfl, rfl, by simp [World.setRow], fun k _ hk => by
    simp only [World.setRow, Array.getElem?_modify]
    rw [if_neg (fun e => hk e.symm)]⟩ (fun x hx e => by subst e; exact hb hx)
theorem mcs_cells (m : Nat → Int) : (mv m).cells = mcs m := rfl
theorem mcs_one (m : Nat → Int) : ∀ v ∈ (mcs m).toList, v.oneCell' = true := by
  intro v hv
  simp [mcs] at hv
  rcases hv with rfl | rfl | rfl | rfl | rfl | rfl | rfl | rfl | rfl <;> rfl
theorem run_store23 (w : World) (b : Nat) (t : TypeId) (q m : Nat → Int) (h : Bk w b t (mcs q)) : (Instr.storeAt 23 (.pointer (some ⟨b, 0, none⟩)) (mv m)).run Try.prog w = .ok () (w.setRow b (mcs m)) := by
  have hs := run_storeCells_from (P := Try.prog) b t (mcs m).toList 0 (mcs q) w h (by simp [mcs]) (mcs_one m)
  have e : (((mcs q).toList.take 0) ++ (mcs m).toList).toArray = mcs m := rfl
  rw [e] at hs
  have hz : ∀ w, (sizeOf 23).run Try.prog w = .ok 9 w := fun w => by
    have := (zero_of_info (P := Try.prog) (t := 23) (v := mv (fun _ => 0)) (n := 9) (by kernel_rfl)).2
    cases hq : Try.prog.info? 23 with
    | none => simp [hq] at this
    | some i => simp [hq] at this; simp [sizeOf, typeInfo, hq, this]
  have e9 : (mcs m).size = 9 := rfl
  simp only [Instr.storeAt, Instr.sureAddr, mcs_cells, Sem.run_bind, Sem.run_pure, Result.andThen_ok, storeVar, hz, e9]
  simpa using hs
theorem run_store22 (w : World) (b : Nat) (t : TypeId) (q m : Nat → Int) (h : Bk w b t (mcs q)) : (Instr.storeAt 22 (.pointer (some ⟨b, 0, none⟩)) (mv m)).run Try.prog w = .ok () (w.setRow b (mcs m)) := by
  have hs := run_storeCells_from (P := Try.prog) b t (mcs m).toList 0 (mcs q) w h (by simp [mcs]) (mcs_one m)
  have e : (((mcs q).toList.take 0) ++ (mcs m).toList).toArray = mcs m := rfl
  rw [e] at hs
  have hz : ∀ w, (sizeOf 22).run Try.prog w = .ok 9 w := fun w => by
    have := (zero_of_info (P := Try.prog) (t := 22) (v := mv (fun _ => 0)) (n := 9) (by kernel_rfl)).2
    cases hq : Try.prog.info? 22 with
    | none => simp [hq] at this
    | some i => simp [hq] at this; simp [sizeOf, typeInfo, hq, this]
  have e9 : (mcs m).size = 9 := rfl
  simp only [Instr.storeAt, Instr.sureAddr, mcs_cells, Sem.run_bind, Sem.run_pure, Result.andThen_ok, storeVar, hz, e9]
  simpa using hs
end Go.Proofs.Ytiinkjplhihdaaa
