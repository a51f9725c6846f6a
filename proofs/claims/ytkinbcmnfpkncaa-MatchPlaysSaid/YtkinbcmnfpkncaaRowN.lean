/- match's acts that came in. -/
import Derived.Test.YtkinbcmnfpkncaaRowM
import Derived.Test.YtkinbcmnfpkncaaNa
import Derived.Deep.Strs
namespace Go.Proofs.Ytkinbcmnfpkncaa
open Go.ChangeShapes Go.WideShapes Go.ChangeAt Go.RowKit Go.Deep

theorem Try.cellsMA : Try.prog.cellsOf 32 = 5 := by kernel_rfl
/-- An act, as plain data. -/
structure MA where
  op : Int
  list : Int
  t : Int
  by_ : Int
  rest : Int
  deriving Inhabited
structure MAt (w : World) (b o : Nat) (a : MA) : Prop where
  c0 : w.cell? ⟨b, o, none⟩ = some (.int .i64 a.op)
  c1 : w.cell? ⟨b, o + 1, none⟩ = some (.int .i64 a.list)
  c2 : w.cell? ⟨b, o + 2, none⟩ = some (.int .i64 a.t)
  c3 : w.cell? ⟨b, o + 3, none⟩ = some (.int .i64 a.by_)
  c4 : w.cell? ⟨b, o + 4, none⟩ = some (.int .i64 a.rest)
  i1 : I64 a.list
def MAs (w : World) (A : Option Addr) (n : Nat) (f : Nat → MA) : Prop := ∀ j, j < n → ∃ b o, A = some ⟨b, o, none⟩ ∧ MAt w b (o + j * 5) (f j)
theorem MAt.fr {w w' : World} {b o : Nat} {a : MA} (h : MAt w b o a) (hf : Fr (fun _ => False) w w') : MAt w' b o a :=
  have hl : b < w.heap.size := World.block_lt_of_cell? w _ h.c0
  ⟨(hf.cell (p := ⟨b, o, none⟩) hl (fun h => h)).trans h.c0, (hf.cell (p := ⟨b, o + 1, none⟩) hl (fun h => h)).trans h.c1, (hf.cell (p := ⟨b, o + 2, none⟩) hl (fun h => h)).trans h.c2, (hf.cell (p := ⟨b, o + 3, none⟩) hl (fun h => h)).trans h.c3, (hf.cell (p := ⟨b, o + 4, none⟩) hl (fun h => h)).trans h.c4, h.i1⟩

set_option maxRecDepth 100000 in
set_option maxHeartbeats 1000000 in
theorem open_mas {H : Type} {enc : TypeId × Value → H} {W : World} {base : Nat} {v : Value} {d : DataW H} {ps : List MemPlace} (hval : Value.okWide Try.prog W .any base 22 v) (h : DataW.Trod enc Try.prog W 0 (fun _ => true) true 22 v d ps) :
    ∃ A n c f, v = .slice A n c ∧ MAs W A n f := by
  obtain ⟨A, n, c, rfl⟩ := okWide_slice Try.underlying22 hval
  obtain ⟨fuel, hf⟩ := h
  rcases open_slice Try.underlying22 hf with ⟨hcs, hx⟩ | ⟨a, len, cap, m, k, D, Pl, hcs, _, hl, hm, hmm, hx, hall⟩
  · simp [Value.cells] at hcs
    obtain ⟨rfl, rfl, rfl⟩ := hcs
    exact ⟨none, 0, 0, fun _ => default, rfl, fun j h0 => by omega⟩
  · simp [Value.cells] at hcs
    obtain ⟨rfl, rfl, rfl⟩ := hcs
    simp only [if_true] at hmm
    subst hmm
    unfold maxLen at hm
    have hsp0 : 0 < n → a.spot = none := fun h0 => by
      obtain ⟨cs', h1, _⟩ := hall 0 (by omega)
      rw [Try.cellsMA] at h1
      obtain ⟨_, hlen, hcell⟩ := World.cells?_some h1
      have h7 := World.cell?_spot ((hcell 0 (by omega)).trans (List.getElem?_eq_getElem (by omega)))
      simpa [Addr.add] using h7
    have each : ∀ i, i < n → ∃ q : MA, (∃ b o, some a = some (⟨b, o, none⟩ : Addr) ∧ MAt W b (o + i * 5) q) := by
      intro i hi
      obtain ⟨cs', h1, h2⟩ := hall i (by omega)
      rw [Try.cellsMA] at h1
      obtain ⟨_, hlen, hcell⟩ := World.cells?_some h1
      obtain ⟨ys, j, _, hxy, _, hyl, hfl⟩ := DataW.trod_struct Try.underlying32 h2
      match cs', hlen with
      | [v0, v1, v2, v3, v4], _ =>
        match ys, hyl with
        | [y0, y1, y2, y3, y4], _ =>
          have u0 : DataW.trod enc Try.prog W 0 (fun _ => true) true j 3 (([v0, v1, v2, v3, v4].drop 0).take (Try.prog.cellsOf 3)) = some y0 := hfl 0 _ rfl
          have u1 : DataW.trod enc Try.prog W 0 (fun _ => true) true j 3 (([v0, v1, v2, v3, v4].drop 1).take (Try.prog.cellsOf 3)) = some y1 := hfl 1 _ rfl
          have u2 : DataW.trod enc Try.prog W 0 (fun _ => true) true j 3 (([v0, v1, v2, v3, v4].drop 2).take (Try.prog.cellsOf 3)) = some y2 := hfl 2 _ rfl
          have u3 : DataW.trod enc Try.prog W 0 (fun _ => true) true j 3 (([v0, v1, v2, v3, v4].drop 3).take (Try.prog.cellsOf 3)) = some y3 := hfl 3 _ rfl
          have u4 : DataW.trod enc Try.prog W 0 (fun _ => true) true j 3 (([v0, v1, v2, v3, v4].drop 4).take (Try.prog.cellsOf 3)) = some y4 := hfl 4 _ rfl
          rw [Try.cellsI] at u0 u1 u2 u3 u4
          simp only [List.drop, List.take] at u0 u1 u2 u3 u4
          obtain ⟨z0, e0, _, w0⟩ := DataW.trod_int Try.underlying3 u0
          obtain ⟨z1, e1, _, w1⟩ := DataW.trod_int Try.underlying3 u1
          obtain ⟨z2, e2, _, w2⟩ := DataW.trod_int Try.underlying3 u2
          obtain ⟨z3, e3, _, w3⟩ := DataW.trod_int Try.underlying3 u3
          obtain ⟨z4, e4, _, w4⟩ := DataW.trod_int Try.underlying3 u4
          simp only [List.cons.injEq, and_true] at e0 e1 e2 e3 e4
          subst e0; subst e1; subst e2; subst e3; subst e4
          have c0 := hcell 0 (by omega)
          have c1 := hcell 1 (by omega)
          have c2 := hcell 2 (by omega)
          have c3 := hcell 3 (by omega)
          have c4 := hcell 4 (by omega)
          have hsp : a.spot = none := hsp0 (by omega)
          obtain ⟨bl, o, sp⟩ := a
          cases hsp
          rw [add_add] at c0 c1 c2 c3 c4
          rw [add_at] at c0 c1 c2 c3 c4
          have b1 := bounds_i64 w1
          exact ⟨⟨z0, z1, z2, z3, z4⟩, bl, o, rfl, ⟨by simpa using c0, by simpa [Nat.add_assoc] using c1, by simpa [Nat.add_assoc] using c2, by simpa [Nat.add_assoc] using c3, by simpa [Nat.add_assoc] using c4, ⟨b1.1, b1.2⟩⟩⟩
    obtain ⟨q, hq⟩ := choose_lt each
    exact ⟨some a, n, m, q, rfl, fun j hj => hq j hj⟩
end Go.Proofs.Ytkinbcmnfpkncaa
