/- A slice of asks that came in, opened. -/
import Derived.Test.YtpkmmohjdcdfeaaDoorHg
import Derived.Test.YtpkmmohjdcdfeaaDoorDe
namespace Go.Proofs.YtpkmmohjdcdfeaaDoor
open Go.ChangeShapes Go.WideShapes Go.ChangeAt Go.RowKit Go.Deep

instance : Inhabited Ak := ⟨⟨0, 0, 0⟩⟩
theorem Tryd.cellsAsk : Tryd.prog.cellsOf 76 = 3 := by kernel_rfl
theorem Tryd.cellsInt : Tryd.prog.cellsOf 3 = 1 := by kernel_rfl
theorem Tryd.bytesAsk : Tryd.prog.bytesOf 76 = 24 := by kernel_rfl

set_option maxRecDepth 100000 in
theorem open_asks {H : Type} {enc : TypeId × Value → H} {W : World} {base : Nat} {v : Value} {d : DataW H} {ps : List MemPlace} (hval : Value.okWide Tryd.prog W .any base 24 v) (h : DataW.Trod enc Tryd.prog W 0 (fun _ => true) true 24 v d ps)
    (hwt : ∀ z ∈ d.weights Tryd.prog 24, z ≤ reachBytes) :
    ∃ A n c l, v = .slice A n c ∧ Asks W A l ∧ l.length = n ∧ n ≤ reachBytes := by
  obtain ⟨A, n, c, rfl⟩ := okWide_slice Tryd.underlying24 hval
  obtain ⟨fuel, hf⟩ := h
  rcases open_slice Tryd.underlying24 hf with ⟨hcs, hx⟩ | ⟨a, len, cap, m, k, D, Pl, hcs, _, hl, hm, hmm, hx, hall⟩
  · simp [Value.cells] at hcs
    obtain ⟨rfl, rfl, rfl⟩ := hcs
    exact ⟨none, 0, 0, [], rfl, fun h0 => by simp at h0, rfl, Nat.zero_le _⟩
  · simp [Value.cells] at hcs
    obtain ⟨rfl, rfl, rfl⟩ := hcs
    simp only [if_true] at hmm
    subst hmm
    simp only [Prod.mk.injEq] at hx
    obtain ⟨hd, _⟩ := hx
    subst hd
    have hn : n ≤ reachBytes := by
      have := hwt _ (by simp only [DataW.weights, Tryd.underlying24, Tryd.bytesAsk]; exact List.mem_cons_self ..)
      simp at this
      omega
    have hsp0 : 0 < n → a.spot = none := fun h0 => by
      obtain ⟨cs', h1, _⟩ := hall 0 (by omega)
      rw [Tryd.cellsAsk] at h1
      obtain ⟨_, hlen, hcell⟩ := World.cells?_some h1
      match cs', hlen with
      | [v0, v1, v2], _ =>
        have h7 := World.cell?_spot (hcell 0 (by omega))
        simpa [Addr.add] using h7
    have each : ∀ i, i < n → ∃ q : Ak, AkAt W a.block (a.off + i * 3) q ∧ a.spot = none := by
      intro i hi
      obtain ⟨cs', h1, h2⟩ := hall i (by omega)
      rw [Tryd.cellsAsk] at h1
      obtain ⟨_, hlen, hcell⟩ := World.cells?_some h1
      obtain ⟨y0, y1, y2, j, hxy, _, u0, u1, u2⟩ := trod_struct3 Tryd.underlying76 h2
      match cs', hlen with
      | [v0, v1, v2], _ =>
        simp only [Tryd.cellsInt, List.drop, List.take] at u0 u1 u2
        obtain ⟨z0, e0, _, _⟩ := DataW.trod_int Tryd.underlying3 u0
        obtain ⟨z1, e1, _, _⟩ := DataW.trod_int Tryd.underlying3 u1
        obtain ⟨z2, e2, _, _⟩ := DataW.trod_int Tryd.underlying3 u2
        simp only [List.cons.injEq, and_true] at e0 e1 e2
        subst e0; subst e1; subst e2
        have c0 := hcell 0 (by omega)
        have c1 := hcell 1 (by omega)
        have c2' := hcell 2 (by omega)
        have hsp : a.spot = none := hsp0 (by omega)
        obtain ⟨bl, o, sp⟩ := a
        cases hsp
        rw [add_add] at c0 c1 c2'
        rw [add_at] at c0 c1 c2'
        exact ⟨⟨z0, z1, z2⟩, ⟨by simpa using c0, by simpa [Nat.add_assoc] using c1, by simpa [Nat.add_assoc] using c2'⟩, rfl⟩
    obtain ⟨q, hq⟩ := choose_lt each
    refine ⟨some a, n, m, (List.range n).map q, rfl, fun h0 => ?_, by simp, hn⟩
    have h0' : 0 < n := by simpa using h0
    have hsp := (hq 0 (by omega)).2
    obtain ⟨bl, o, sp⟩ := a
    cases hsp
    refine ⟨bl, o, rfl, fun i hi => ?_⟩
    simp at hi
    simpa using (hq i (by omega)).1
end Go.Proofs.YtpkmmohjdcdfeaaDoor
