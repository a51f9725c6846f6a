/- Members that are stored whole; results that lie in a cell. -/
import Derived.Test.YtiinkjplhihdaaaOk
import Derived.Laws.ResultCell
namespace Go.Proofs.Ytiinkjplhihdaaa
open Go.RowKit

def set9 (w : World) (b : Nat) (m : Nat → Int) : World := ((((((((w.setCell ⟨b, 0, none⟩ (.int .u8 (m 0))).setCell ⟨b, 1, none⟩ (.int .u8 (m 1))).setCell ⟨b, 2, none⟩ (.int .u8 (m 2))).setCell ⟨b, 3, none⟩ (.int .u8 (m 3))).setCell ⟨b, 4, none⟩ (.int .u8 (m 4))).setCell ⟨b, 5, none⟩ (.int .u8 (m 5))).setCell ⟨b, 6, none⟩ (.int .u8 (m 6))).setCell ⟨b, 7, none⟩ (.int .u8 (m 7))).setCell ⟨b, 8, none⟩ (.int .u8 (m 8))
theorem Bk.set9 {w : World} {b : Nat} {t : TypeId} {q : Nat → Int} (h : Bk w b t (mcs q)) (m : Nat → Int) : Bk (set9 w b m) b t (mcs m) := by
  unfold Go.Proofs.Ytiinkjplhihdaaa.set9
  have h9 := ((((((((h.put (k := 0) (by omega) (m 0)).put (k := 1) (by omega) (m 1)).put (k := 2) (by omega) (m 2)).put (k := 3) (by omega) (m 3)).put (k := 4) (by omega) (m 4)).put (k := 5) (by omega) (m 5)).put (k := 6) (by omega) (m 6)).put (k := 7) (by omega) (m 7)).put (k := 8) (by omega) (m 8)
  have e : mcs (putM (putM (putM (putM (putM (putM (putM (putM (putM q 0 (m 0)) 1 (m 1)) 2 (m 2)) 3 (m 3)) 4 (m 4)) 5 (m 5)) 6 (m 6)) 7 (m 7)) 8 (m 8)) = mcs m := mcs_inj (fun k hk => by
    have : k = 0 ∨ k = 1 ∨ k = 2 ∨ k = 3 ∨ k = 4 ∨ k = 5 ∨ k = 6 ∨ k = 7 ∨ k = 8 := by omega
    rcases this with rfl | rfl | rfl | rfl | rfl | rfl | rfl | rfl | rfl <;> simp [putM])
  rw [e] at h9
  exact h9
theorem Fr.set9 {S : Nat → Prop} {a w : World} (h : Fr S a w) {b : Nat} (hb : b < a.heap.size → S b) (m : Nat → Int) : Fr S a (set9 w b m) :=
  ((((((((h.setCell (p := ⟨b, 0, none⟩) hb _).setCell (p := ⟨b, 1, none⟩) hb _).setCell (p := ⟨b, 2, none⟩) hb _).setCell (p := ⟨b, 3, none⟩) hb _).setCell (p := ⟨b, 4, none⟩) hb _).setCell (p := ⟨b, 5, none⟩) hb _).setCell (p := ⟨b, 6, none⟩) hb _).setCell (p := ⟨b, 7, none⟩) hb _).setCell (p := ⟨b, 8, none⟩) hb _
theorem res23 {fn : Func} {p u : Tmp} (h : fn.results = #[.cell p 23, .tmp u]) (tmps : Array Value) (w : World) (b : Nat) (m : Nat → Int) (hp : tmps.getD p undef = .pointer (some ⟨b, 0, none⟩)) (hb : Bx w b 0 m) :
    (results fn tmps).run Try.prog w = .ok (.tuple #[mv m, tmps.getD u undef]) w := by
  rw [results_cell_tmp h, hp]
  have h2 : (loadVar 23 ⟨b, 0, none⟩).run Try.prog w = .ok (mv m) w := by
    have := run_load23 w b 0 m hb
    simpa only [Instr.loadAt, Instr.sureAddr, Sem.run_bind, Sem.run_pure, Result.andThen_ok] using this
  simp [asAddr, h2]
theorem res22 {fn : Func} {p u : Tmp} (h : fn.results = #[.cell p 22, .tmp u]) (tmps : Array Value) (w : World) (b : Nat) (m : Nat → Int) (hp : tmps.getD p undef = .pointer (some ⟨b, 0, none⟩)) (hb : Bx w b 0 m) :
    (results fn tmps).run Try.prog w = .ok (.tuple #[mv m, tmps.getD u undef]) w := by
  rw [results_cell_tmp h, hp]
  have h2 : (loadVar 22 ⟨b, 0, none⟩).run Try.prog w = .ok (mv m) w := by
    have := run_load22 w b 0 m hb
    simpa only [Instr.loadAt, Instr.sureAddr, Sem.run_bind, Sem.run_pure, Result.andThen_ok] using this
  simp [asAddr, h2]
/-- What Of tells. -/
def ofQ (N1 : Nat) (t1 : Nat → Int) (N2 : Nat) (t2 : Nat → Int) : (Nat → Int) × Int :=
  match ofM N1 t1 N2 t2 with
  | some q => if 0 < N1 then (q, 0) else (zeroM, 1)
  | none => (zeroM, 1)
theorem zeroM_ok : ∀ k, 0 ≤ zeroM k ∧ zeroM k < 256 := fun _ => by unfold zeroM; omega
theorem mcs_zero : mcs zeroM = #[.int .u8 0, .int .u8 0, .int .u8 0, .int .u8 0, .int .u8 0, .int .u8 0, .int .u8 0, .int .u8 0, .int .u8 0] := rfl
theorem mv_zero : mv zeroM = .agg #[.int .u8 0, .int .u8 0, .int .u8 0, .int .u8 0, .int .u8 0, .int .u8 0, .int .u8 0, .int .u8 0, .int .u8 0] := rfl
end Go.Proofs.Ytiinkjplhihdaaa
