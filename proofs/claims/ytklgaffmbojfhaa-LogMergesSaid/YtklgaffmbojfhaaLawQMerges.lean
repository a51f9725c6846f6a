/- Whatever two rows of entries and whatever ints it is handed, the law LogMerges returns true, and its arguments read as they did. No condition. -/
import Derived.Test.YtklgaffmbojfhaaQq
import Derived.Test.YtklgaffmbojfhaaRowQ
import Derived.SizedLaws
import Derived.Deep.Grids
namespace Go.Proofs.Ytklgaffmbojfhaa.lmerges
open Go.ChangeShapes Go.WideShapes Go.ChangeAt Go.RowKit Go.Deep

set_option maxRecDepth 100000 in
/-- A SLICE OF INTS THAT CAME IN. -/
theorem open_ints1 {H : Type} {enc : TypeId × Value → H} {W : World} {base : Nat} {v : Value} {d : DataW H} {ps : List MemPlace} (hval : Value.okWide Try.prog W .any base 43 v) (h : DataW.Trod enc Try.prog W 0 (fun _ => true) true 43 v d ps) :
    ∃ A n c xs, v = .slice A n c ∧ RdI W A xs ∧ xs.length = n ∧ n ≤ c ∧ (c : Int) ≤ 9223372036854775807 ∧ (∀ x ∈ xs, -9223372036854775808 ≤ x ∧ x ≤ 9223372036854775807) ∧ (∀ ad, A = some ad → 0 < n → ad.block < W.heap.size) := by
  obtain ⟨A, n, c, rfl⟩ := okWide_slice Try.underlying43 hval
  obtain ⟨fuel, hf⟩ := h
  rcases open_ints Try.underlying43 Try.underlying3 Try.cellsI hf with ⟨hcs, hx⟩ | ⟨a, len', cap', zs, hcs, _, hl, hm, hz, hx, hcell, hwz⟩
  · simp [Value.cells] at hcs
    obtain ⟨rfl, rfl, rfl⟩ := hcs
    exact ⟨none, 0, 0, [], rfl, (fun h => absurd h (by simp)), rfl, Nat.le_refl _, by omega, (fun x h => absurd h (by simp)), (fun ad e => by cases e)⟩
  · simp [Value.cells] at hcs
    obtain ⟨rfl, rfl, rfl⟩ := hcs
    unfold maxLen at hm
    simp only [if_true] at hz
    have hcl : ∀ j, (hj : j < n) → (a.spot = none ∧ W.cell? ⟨a.block, a.off + j, none⟩ = some (.int .i64 ((zs.take n)[j]'(by simp; omega)))) := by
      intro j hj
      have h0 := hcell j (by omega)
      obtain ⟨b, o, sp⟩ := a
      have hsp0 : sp = none := by
        have := World.cell?_spot (hcell 0 (by omega))
        simpa [Addr.add] using this
      subst hsp0
      refine ⟨rfl, ?_⟩
      rw [add_at] at h0
      rw [h0]
      congr 2
      simp [List.getD, show j < zs.length by omega]
    refine ⟨some a, n, c, zs.take n, rfl, fun h0 => ⟨a, rfl, ?_, fun j hj => ?_⟩, by simp; omega, hl, by omega, fun x hx => ?_, fun ad e h0 => ?_⟩
    · simp at h0; exact (hcl 0 (by omega)).1
    · simp at hj
      exact (hcl j (by omega)).2
    · have := bounds_i64 (hwz x (List.mem_of_mem_take hx))
      exact ⟨this.1, this.2⟩
    · injection e with e
      subst e
      exact World.block_lt_of_cell? W ⟨a.block, a.off + 0, none⟩ (hcl 0 h0).2

set_option maxRecDepth 100000 in
theorem lifted (os : Os) (started : os.Started) (H : Type) (enc : TypeId × Value → H) :
    ReturnsInHanded {} Try.checked os 4 .any (Rows.logMergesSpec.pre6 enc Try.prog Try.f4 Rows.logMergesRow.domain false) (Rows.logMergesSpec.post enc Try.prog Try.f4 false true false false) := by
  refine returnsInHanded_of_change_sized (C := Try.checked) Try.own started (by kernel_rfl) Try.func4
    (ChangeSpec.witness6 (enc := enc) (C := Try.checked) false ⟨#[], #[.slice none 0 0, .slice none 0 0, .slice none 0 0], []⟩ 8 (by kernel_rfl) (by kernel_rfl) (by kernel_rfl) (by kernel_rfl)) ?_
  intro W base args ds gs before hval0 hW hcnd hwt _
  have hval : ∀ (j : Nat) t v, Try.f4.params[j]? = some t → args[j]? = some v → Value.okWide Try.prog W .any base t v := hval0
  have hW' := hW
  obtain ⟨p, q, hA0, hV, hpq, hfz, hnd⟩ := hW
  have hA : DataW.TrodAll enc Try.prog W 0 (fun _ => true) true Try.f4.params.toList args.toList ds p := hA0
  rw [Try.params4] at hA hval
  obtain ⟨v0, vs0, d0, ds0, p0, q0, hargs, rfl, _, h0, r0⟩ := trodAll_cons hA
  obtain ⟨v1, vs1, d1, ds1, p1, q1, rfl, rfl, _, h1, r1⟩ := trodAll_cons r0
  obtain ⟨v2, vs2, d2, ds2, p2, q2, rfl, rfl, _, h2, r2⟩ := trodAll_cons r1
  obtain ⟨rfl, rfl, _⟩ := trodAll_nil r2
  obtain rfl : args = #[v0, v1, v2] := by cases args; simp_all
  obtain ⟨rfl, _⟩ := trodVars_none hV
  have hw : ∀ z ∈ DataW.weightsEach Try.prog [22, 22, 43] [d0, d1, d2], z ≤ reachBytes := fun z hz => by
    have := List.all_eq_true.1 hwt z (by rw [Try.params4]; exact hz)
    simpa using this
  obtain ⟨A, n, c, l, rfl, hl, _, _, hn, _⟩ := open_ents (hval 0 22 v0 rfl rfl) h0 (fun z hz => hw z (by simp [DataW.weightsEach, hz]))
  obtain ⟨A2, n2, c2, l2, rfl, hl2, hnc2, hcm2, hn2, _⟩ := open_ents (hval 1 22 v1 rfl rfl) h1 (fun z hz => hw z (by simp [DataW.weightsEach, hz]))
  obtain ⟨A3, n3, c3, xs, rfl, hr3, hl3, hnc3, hc3, hx3, hb3⟩ := open_ints1 (hval 2 43 v2 rfl rfl) h2
  have C := merges_any A n c l A2 n2 c2 l2 A3 n3 c3 xs W hl hn hl2 hn2 hnc2 (by unfold maxLen at hcm2; omega) hr3 hl3 hb3 (by omega) hx3
  refine C.mono fun e W' ⟨he, hf⟩ => ?_
  subst he
  exact ⟨_, rfl, post_true true false hW' rfl rfl rfl (by kernel_rfl) hf⟩

/-- THE STATEMENT. -/
theorem said : Rows.LogMergesSaid :=
  OpenClaim.holds_of_wide 4 Try.f4 rfl rfl rfl rfl rfl rfl rfl ⟨rfl, rfl, rfl, rfl, rfl⟩ rfl rfl rfl rfl rfl (by kernel_rfl) Try.func4 (by kernel_rfl)
    (of_decide_eq_true (by kernel_rfl)) (by unfold Func.isWrapper; first | (rw [if_pos (by decide +kernel)]; kernel_rfl) | (rw [if_neg (by decide +kernel)]; exact ⟨rfl, rfl⟩))
    (fun os started H enc _ => lifted os started H enc)
#print axioms said
end Go.Proofs.Ytklgaffmbojfhaa.lmerges
