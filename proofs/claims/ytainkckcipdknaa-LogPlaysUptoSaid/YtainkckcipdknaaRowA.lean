/- Acts that came in, opened, with their bulk. -/
import Derived.Test.YtainkckcipdknaaRowQ
import Derived.Test.YtainkckcipdknaaQx
namespace Go.Proofs.Ytainkckcipdknaa
open Go.ChangeShapes Go.WideShapes Go.ChangeAt Go.RowKit Go.Deep

/-- An act at a place; B: what is older than the call. -/
structure AcAt (w : World) (B b o : Nat) (q : Ac) : Prop where
  cs : ∀ j, j < 6 → w.cell? ⟨b, o + j, none⟩ = q.cells[j]?
  lb : b < B
  es : Es w q.A q.n q.ps (fun k => k < B)
  ok : q.ok
def Acs (w : World) (B : Nat) (A : Option Addr) (l : List Ac) : Prop := 0 < l.length → ∃ b o, A = some ⟨b, o, none⟩ ∧ ∀ i, i < l.length → AcAt w B b (o + i * 6) (l.getD i default)
def asum (l : List Ac) : Nat := (l.map fun q => q.n + 1).sum
theorem Try.cellsAct : Try.prog.cellsOf 37 = 6 := by kernel_rfl
theorem Try.cellsBo : Try.prog.cellsOf 4 = 1 := by kernel_rfl
theorem Try.cellsEs : Try.prog.cellsOf 22 = 1 := by kernel_rfl
theorem esum_len (ps : List EL) : ps.length ≤ esum ps := by
  induction ps with
  | nil => simp [esum]
  | cons p r ih => simp only [esum, List.map_cons, List.sum_cons, List.length_cons] at *; omega
theorem acts_bulk {H : Type} (q : Nat → Ac) (D : Nat → DataW H) : ∀ n, (∀ i, i < n → (q i).n + 1 ≤ Rows.uptoBulk (D i)) → asum ((List.range n).map q) ≤ Rows.uptoBulkAll ((List.range n).map D)
  | 0, _ => by simp [asum]
  | n + 1, h => by
    have h1 := acts_bulk q D n (fun i hi => h i (by omega))
    have h2 := h n (by omega)
    rw [List.range_succ, List.map_append, List.map_append, bulk_append]
    simp only [asum, List.map_append, List.sum_append, List.map_map, List.map_cons, List.map_nil, List.sum_cons, List.sum_nil, Rows.uptoBulkAll] at *
    omega

set_option maxRecDepth 100000 in
set_option maxHeartbeats 1000000 in
theorem open_acts {H : Type} {enc : TypeId × Value → H} {W : World} {base : Nat} {v : Value} {d : DataW H} {ps : List MemPlace} (hval : Value.okWide Try.prog W .any base 23 v) (h : DataW.Trod enc Try.prog W 0 (fun _ => true) true 23 v d ps)
    (hwt : ∀ z ∈ d.weights Try.prog 23, z ≤ reachBytes) (hbk : Rows.uptoBulk d ≤ 1048576) :
    ∃ A n c l, v = .slice A n c ∧ Acs W W.heap.size A l ∧ l.length = n ∧ (n : Int) ≤ 9223372036854775807 ∧ asum l + 1 ≤ Rows.uptoBulk d := by
  obtain ⟨A, n, c, rfl⟩ := okWide_slice Try.underlying23 hval
  obtain ⟨fuel, hf⟩ := h
  rcases open_slice Try.underlying23 hf with ⟨hcs, hx⟩ | ⟨a, len, cap, m, k, D, Pl, hcs, _, hl, hm, hmm, hx, hall⟩
  · simp [Value.cells] at hcs
    obtain ⟨rfl, rfl, rfl⟩ := hcs
    exact ⟨none, 0, 0, [], rfl, fun h0 => by simp at h0, rfl, by omega, by have := bulk_pos d; simp [asum]; omega⟩
  · simp [Value.cells] at hcs
    obtain ⟨rfl, rfl, rfl⟩ := hcs
    simp only [if_true] at hmm
    subst hmm
    simp only [Prod.mk.injEq] at hx
    obtain ⟨hd, _⟩ := hx
    subst hd
    unfold maxLen at hm
    have hwi : ∀ i, i < n → ∀ z ∈ (D i).weights Try.prog 37, z ≤ reachBytes := fun i hi z hz => hwt z (by
      simp only [DataW.weights, Try.underlying23]
      refine List.mem_cons_of_mem _ (List.mem_append_left _ (weightsAll_mem (List.mem_map.2 ⟨i, List.mem_range.2 hi, rfl⟩) z hz)))
    have hsp0 : 0 < n → a.spot = none := fun h0 => by
      obtain ⟨cs', h1, _⟩ := hall 0 (by omega)
      rw [Try.cellsAct] at h1
      obtain ⟨_, hlen, hcell⟩ := World.cells?_some h1
      have h7 := World.cell?_spot ((hcell 0 (by omega)).trans (List.getElem?_eq_getElem (by omega)))
      simpa [Addr.add] using h7
    have each0 : ∀ i, i < n → ∃ q : Ac, (∀ j, j < 6 → W.cell? ⟨a.block, a.off + i * 6 + j, none⟩ = q.cells[j]?) ∧ Es W q.A q.n q.ps (fun k => k < W.heap.size) ∧ -9223372036854775808 ≤ q.ix ∧ q.ix ≤ 9223372036854775807 ∧ q.n ≤ q.c ∧ (q.c : Int) ≤ 9223372036854775807 ∧ a.spot = none ∧ q.n + 1 ≤ Rows.uptoBulk (D i) := by
      intro i hi
      obtain ⟨cs', h1, h2⟩ := hall i (by omega)
      have hwi := hwi i hi
      rw [Try.cellsAct] at h1
      obtain ⟨_, hlen, hcell⟩ := World.cells?_some h1
      obtain ⟨ys, j, _, hxy, _, hyl, hfl⟩ := DataW.trod_struct Try.underlying37 h2
      match cs', hlen with
      | [v0, v1, v2, v3, v4, v5], _ =>
        match ys, hyl with
        | [y0, y1, y2, y3, y4, y5], _ =>
          have u0 : DataW.trod enc Try.prog W 0 (fun _ => true) true j 3 (([v0, v1, v2, v3, v4, v5].drop 0).take (Try.prog.cellsOf 3)) = some y0 := hfl 0 _ rfl
          rw [Try.cellsI] at u0
          simp only [List.drop, List.take] at u0
          have u1 : DataW.trod enc Try.prog W 0 (fun _ => true) true j 3 (([v0, v1, v2, v3, v4, v5].drop 1).take (Try.prog.cellsOf 3)) = some y1 := hfl 1 _ rfl
          rw [Try.cellsI] at u1
          simp only [List.drop, List.take] at u1
          have u2 : DataW.trod enc Try.prog W 0 (fun _ => true) true j 4 (([v0, v1, v2, v3, v4, v5].drop 2).take (Try.prog.cellsOf 4)) = some y2 := hfl 2 _ rfl
          rw [Try.cellsBo] at u2
          simp only [List.drop, List.take] at u2
          have u3 : DataW.trod enc Try.prog W 0 (fun _ => true) true j 3 (([v0, v1, v2, v3, v4, v5].drop 3).take (Try.prog.cellsOf 3)) = some y3 := hfl 3 _ rfl
          rw [Try.cellsI] at u3
          simp only [List.drop, List.take] at u3
          have u4 : DataW.trod enc Try.prog W 0 (fun _ => true) true j 4 (([v0, v1, v2, v3, v4, v5].drop 4).take (Try.prog.cellsOf 4)) = some y4 := hfl 4 _ rfl
          rw [Try.cellsBo] at u4
          simp only [List.drop, List.take] at u4
          have u5 : DataW.trod enc Try.prog W 0 (fun _ => true) true j 22 (([v0, v1, v2, v3, v4, v5].drop 5).take (Try.prog.cellsOf 22)) = some y5 := hfl 5 _ rfl
          rw [Try.cellsEs] at u5
          simp only [List.drop, List.take] at u5
          obtain ⟨z0, e0, _, w0⟩ := DataW.trod_int Try.underlying3 u0
          obtain ⟨z1, e1, _, w1⟩ := DataW.trod_int Try.underlying3 u1
          obtain ⟨q2, e2, _⟩ := DataW.trod_bool Try.underlying4 u2
          obtain ⟨z3, e3, _, w3⟩ := DataW.trod_int Try.underlying3 u3
          obtain ⟨q4, e4, _⟩ := DataW.trod_bool Try.underlying4 u4
          simp only [Prod.mk.injEq] at hxy
          obtain ⟨A5, n5, c5, ps5, e5, r1, r2, r3, _, r5⟩ := ents_trod u5 (fun z hz => hwi z (by
            rw [hxy.1]
            simp only [DataW.weights, Try.underlying37, DataW.weightsEach]
            simp [DataW.weightsEach, hz]))
          simp only [List.cons.injEq, and_true] at e0 e1 e2 e3 e4 e5
          subst e0; subst e1; subst e2; subst e3; subst e4; subst e5
          have hsp : a.spot = none := hsp0 (by omega)
          have b1 := bounds_i64 w1
          unfold maxLen at r3
          have hel := esum_len ps5
          rw [r1.len] at hel
          refine ⟨⟨z0, z1, q2, z3, q4, A5, n5, c5, ps5⟩, fun j hj => ?_, r1, b1.1, b1.2, r2, by simp only; omega, hsp, ?_⟩
          · have h9 := hcell j hj
            obtain ⟨bl, o, sp⟩ := a
            cases hsp
            rw [add_add] at h9
            rw [add_at] at h9
            simpa [Nat.add_assoc, Ac.cells] using h9
          · rw [hxy.1]
            simp only [Rows.uptoBulk, Rows.uptoBulkAll, List.map_cons, List.map_nil]
            omega
    obtain ⟨q, hq⟩ := choose_lt each0
    have hsum := acts_bulk q D n (fun i hi => (hq i hi).2.2.2.2.2.2.2)
    have hone : ∀ i, i < n → (q i).n ≤ 1048576 := fun i hi => by
      have h9 := (hq i hi).2.2.2.2.2.2.2
      have hin : Rows.uptoBulk (D i) ≤ Rows.uptoBulkAll ((List.range n).map D) := by
        have : ∀ l : List (DataW H), ∀ x ∈ l, Rows.uptoBulk x ≤ Rows.uptoBulkAll l := by
          intro l
          induction l with
          | nil => intro x hx; cases hx
          | cons y r ih =>
            intro x hx
            simp only [Rows.uptoBulkAll]
            rcases List.mem_cons.1 hx with e | e
            · subst e; omega
            · have := ih x e; omega
        exact this _ _ (List.mem_map.2 ⟨i, List.mem_range.2 hi, rfl⟩)
      simp only [Rows.uptoBulk] at hbk
      omega
    refine ⟨some a, n, m, (List.range n).map q, rfl, fun h0 => ?_, by simp, by omega, ?_⟩
    · have h0' : 0 < n := by simpa using h0
      have hsp := (hq 0 h0').2.2.2.2.2.2.1
      obtain ⟨bl, o, sp⟩ := a
      cases hsp
      refine ⟨bl, o, rfl, fun i hi => ?_⟩
      have hi' : i < n := by simpa using hi
      have e2 : ((List.range n).map q).getD i default = q i := by simp [List.getD, hi']
      rw [e2]
      obtain ⟨k1, k2, k3, k4, k5, k6, _, _⟩ := hq i hi'
      exact ⟨k1, World.block_lt_of_cell? W ⟨bl, o + i * 6 + 0, none⟩ ((k1 0 (by omega)).trans rfl), k2, ⟨k3, k4, hone i hi', k5, k6⟩⟩
    · simp only [Rows.uptoBulk]
      omega
end Go.Proofs.Ytainkckcipdknaa
