/- dedup's acts that came in, for plain rows. -/
import Derived.Test.YtdfkoehcmgcoiaaRowG
import Derived.Test.YtdfkoehcmgcoiaaJn
import Derived.Deep.Strs
namespace Go.Proofs.Ytdfkoehcmgcoiaa
open Go.ChangeShapes Go.WideShapes Go.ChangeAt Go.RowKit Go.Deep

theorem Try.cellsU8 : Try.prog.cellsOf 5 = 1 := by kernel_rfl
theorem Try.cellsDc : Try.prog.cellsOf 32 = 4 := by kernel_rfl
theorem Try.cellsInt : Try.prog.cellsOf 3 = 1 := by kernel_rfl
theorem Try.cellsBs : Try.prog.cellsOf 30 = 1 := by kernel_rfl
theorem Try.bytesU8 : Try.prog.bytesOf 5 = 1 := by kernel_rfl
theorem weightsAll_at {H : Type} {P : Program} {e : TypeId} {d : DataW H} : ∀ {l : List (DataW H)}, d ∈ l → ∀ z ∈ d.weights P e, z ∈ DataW.weightsAll P e l
  | [], h, _, _ => by cases h
  | x :: r, h, z, hz => by
    rw [DataW.weightsAll]
    rcases List.mem_cons.1 h with e | e
    · subst e; exact List.mem_append_left _ hz
    · exact List.mem_append_right _ (weightsAll_at e z hz)

/-- What a reading of bytes among cells tells. -/
theorem bytes_trod {H : Type} {enc : TypeId × Value → H} {W : World} {fuel : Nat} {cs : List Value} {x : DataW H × List MemPlace} (hf : DataW.trod enc Try.prog W 0 (fun _ => true) true fuel 30 cs = some x) :
    ∃ A n c xs, cs = [.slice A n c] ∧ Rd8 W A xs ∧ xs.length = n ∧ n ≤ c ∧ c ≤ maxLen ∧ (∀ ad, A = some ad → 0 < n → ad.block < W.heap.size) ∧ ((∀ z ∈ x.1.weights Try.prog 30, z ≤ reachBytes) → n ≤ reachBytes) := by
  rcases open_ints Try.underlying30 Try.underlying5 Try.cellsU8 hf with ⟨hcs, hx⟩ | ⟨a, n, c, zs, hcs, _, hl, hm, hz, hx, hcell, hwz⟩
  · exact ⟨none, 0, 0, [], hcs, Rd8.nil _ _, rfl, Nat.le_refl _, Nat.zero_le _, fun ad e => (by cases e), fun _ => Nat.zero_le _⟩
  · simp only [if_true] at hz
    have hcl : ∀ j, j < n → (a.spot = none ∧ W.cell? ⟨a.block, a.off + j, none⟩ = some (.int .u8 (((zs.take n).map fun z => UInt8.ofNat z.toNat).getD j 0).toNat)) := by
      intro j hj
      have h0 := hcell j (by omega)
      have hsp := World.cell?_spot h0
      obtain ⟨b, o, sp⟩ := a
      have hsp0 : sp = none := by
        have := World.cell?_spot (hcell 0 (by omega))
        simpa [Addr.add] using this
      subst hsp0
      refine ⟨rfl, ?_⟩
      rw [add_at] at h0
      rw [h0]
      have hw := bounds_u8 (hwz (zs.getD j 0) (by simp [List.getD, show j < zs.length by omega]))
      have e : ((zs.take n).map fun z => UInt8.ofNat z.toNat).getD j 0 = UInt8.ofNat (zs.getD j 0).toNat := by
        simp [List.getD, show j < n from hj, show j < zs.length by omega]
      rw [e, UInt8.toNat_ofNat', Nat.mod_eq_of_lt (by omega)]
      congr 2
      omega
    refine ⟨some a, n, c, (zs.take n).map fun z => UInt8.ofNat z.toNat, hcs, fun h0 => ⟨a, rfl, ?_, fun j hj => ?_⟩, by simp; omega, hl, hm, fun ad e h0 => ?_, fun hw => ?_⟩
    · simp at h0; exact (hcl 0 (by omega)).1
    · simp at hj
      have := (hcl j (by omega)).2
      simpa [List.getD, show j < n by omega, show j < zs.length by omega] using this
    · injection e with e
      subst e
      have := World.block_lt_of_cell? W _ (hcl 0 h0).2
      exact this
    · subst hx
      have hw0 := hw ((lits (H := H) .u8 (zs.take n)).length + (lits (H := H) .u8 (zs.drop n)).length) (by simp [DataW.weights, Try.underlying30, Try.bytesU8])
      simp [lits] at hw0
      omega



set_option maxRecDepth 100000 in
set_option maxHeartbeats 1000000 in
theorem open_dcs {H : Type} {enc : TypeId × Value → H} {W : World} {base : Nat} {v : Value} {d : DataW H} {ps : List MemPlace} (hval : Value.okWide Try.prog W .any base 22 v) (h : DataW.Trod enc Try.prog W 0 (fun _ => true) true 22 v d ps)
    (hwt : ∀ z ∈ d.weights Try.prog 22, z ≤ reachBytes) :
    ∃ A n c f, v = .slice A n c ∧ Dcs W W.heap.size A n f ∧ (∀ j, (f j).a.length ≤ 140737488355328) ∧ (n : Int) ≤ 9223372036854775807 := by
  obtain ⟨A, n, c, rfl⟩ := okWide_slice Try.underlying22 hval
  obtain ⟨fuel, hf⟩ := h
  rcases open_slice Try.underlying22 hf with ⟨hcs, hx⟩ | ⟨a, len, cap, m, k, D, Pl, hcs, _, hl, hm, hmm, hx, hall⟩
  · simp [Value.cells] at hcs
    obtain ⟨rfl, rfl, rfl⟩ := hcs
    exact ⟨none, 0, 0, fun _ => default, rfl, fun j h0 => by omega, fun j => Nat.zero_le _, by omega⟩
  · simp [Value.cells] at hcs
    obtain ⟨rfl, rfl, rfl⟩ := hcs
    simp only [if_true] at hmm
    subst hmm
    simp only [Prod.mk.injEq] at hx
    obtain ⟨hd, _⟩ := hx
    subst hd
    unfold maxLen at hm
    have hwi : ∀ i, i < n → ∀ z ∈ (D i).weights Try.prog 32, z ≤ reachBytes := fun i hi z hz => hwt z (by
      simp only [DataW.weights, Try.underlying22]
      refine List.mem_cons_of_mem _ (List.mem_append_left _ (weightsAll_at (List.mem_map.2 ⟨i, List.mem_range.2 hi, rfl⟩) z hz)))
    have hsp0 : 0 < n → a.spot = none := fun h0 => by
      obtain ⟨cs', h1, _⟩ := hall 0 (by omega)
      rw [Try.cellsDc] at h1
      obtain ⟨_, hlen, hcell⟩ := World.cells?_some h1
      have h7 := World.cell?_spot ((hcell 0 (by omega)).trans (List.getElem?_eq_getElem (by omega)))
      simpa [Addr.add] using h7
    have each : ∀ i, i < n → ∃ q : Dc, (∃ b o B m, some a = some (⟨b, o, none⟩ : Addr) ∧ DcAt W W.heap.size b (o + i * 4) q B m) := by
      intro i hi
      obtain ⟨cs', h1, h2⟩ := hall i (by omega)
      have hwi := hwi i hi
      rw [Try.cellsDc] at h1
      obtain ⟨_, hlen, hcell⟩ := World.cells?_some h1
      obtain ⟨ys, j, _, hxy, _, hyl, hfl⟩ := DataW.trod_struct Try.underlying32 h2
      match cs', hlen with
      | [v0, v1, v2, v3], _ =>
        match ys, hyl with
        | [y0, y1, y2, y3], _ =>
          have u0 : DataW.trod enc Try.prog W 0 (fun _ => true) true j 3 (([v0, v1, v2, v3].drop 0).take (Try.prog.cellsOf 3)) = some y0 := hfl 0 _ rfl
          rw [Try.cellsInt] at u0
          simp only [List.drop, List.take] at u0
          have u1 : DataW.trod enc Try.prog W 0 (fun _ => true) true j 3 (([v0, v1, v2, v3].drop 1).take (Try.prog.cellsOf 3)) = some y1 := hfl 1 _ rfl
          rw [Try.cellsInt] at u1
          simp only [List.drop, List.take] at u1
          have u2 : DataW.trod enc Try.prog W 0 (fun _ => true) true j 3 (([v0, v1, v2, v3].drop 2).take (Try.prog.cellsOf 3)) = some y2 := hfl 2 _ rfl
          rw [Try.cellsInt] at u2
          simp only [List.drop, List.take] at u2
          have u3 : DataW.trod enc Try.prog W 0 (fun _ => true) true j 30 (([v0, v1, v2, v3].drop 3).take (Try.prog.cellsOf 30)) = some y3 := hfl 3 _ rfl
          rw [Try.cellsBs] at u3
          simp only [List.drop, List.take] at u3
          obtain ⟨z0, e0, _, w0⟩ := DataW.trod_int Try.underlying3 u0
          obtain ⟨z1, e1, _, w1⟩ := DataW.trod_int Try.underlying3 u1
          obtain ⟨z2, e2, _, w2⟩ := DataW.trod_int Try.underlying3 u2
          obtain ⟨A5, n5, c5, xs, e5, r1, r2, r3, r4, r5, r6⟩ := bytes_trod u3
          simp only [List.cons.injEq, and_true] at e0 e1 e2 e5
          subst e0; subst e1; subst e2; subst e5
          have c0 := hcell 0 (by omega)
          have c1 := hcell 1 (by omega)
          have c2' := hcell 2 (by omega)
          have c3' := hcell 3 (by omega)
          have hsp : a.spot = none := hsp0 (by omega)
          obtain ⟨bl, o, sp⟩ := a
          cases hsp
          rw [add_add] at c0 c1 c2' c3'
          rw [add_at] at c0 c1 c2' c3'
          simp only [Prod.mk.injEq] at hxy
          have r7 := r6 (fun z hz => hwi z (by
            rw [hxy.1]
            simp only [DataW.weights, Try.underlying32, DataW.weightsEach]
            simp [DataW.weightsEach, hz]))
          subst r2
          unfold reachBytes at r7
          have hbl : bl < W.heap.size := by
            have h9 := World.block_lt_of_cell? W ⟨bl, o + i * 4 + 0, none⟩ (by simpa using c0)
            exact h9
          exact ⟨⟨z0, z1, z2, xs⟩, bl, o, A5, c5, rfl, ⟨by simpa using c0, by simpa [Nat.add_assoc] using c1, by simpa [Nat.add_assoc] using c2', by simpa [Nat.add_assoc] using c3', r1, r5, hbl, bounds_i64 w0, bounds_i64 w1, bounds_i64 w2, by show xs.length ≤ _; omega⟩⟩
    obtain ⟨q, hq⟩ := choose_lt each
    refine ⟨some a, n, m, fun j => if j < n then q j else default, rfl, fun j hj => ?_, fun j => ?_, by omega⟩
    · simp only [if_pos hj]; exact hq j hj
    · simp only []
      split
      · obtain ⟨_, _, _, _, _, h⟩ := hq j (by assumption); exact h.ln
      · exact Nat.zero_le _
end Go.Proofs.Ytdfkoehcmgcoiaa
