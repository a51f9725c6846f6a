/- A list of items that came in, opened. -/
import Derived.Test.YtpkmmohjdcdfeaaDoorDd
import Derived.Test.YtpkmmohjdcdfeaaDoorRow
import Derived.Deep.Strs
namespace Go.Proofs.YtpkmmohjdcdfeaaDoor
open Go.ChangeShapes Go.WideShapes Go.ChangeAt Go.RowKit Go.Deep

instance : Inhabited It := ⟨⟨false, 0, none, 0, []⟩⟩
theorem Tryd.cellsItem : Tryd.prog.cellsOf 30 = 3 := by kernel_rfl
theorem Tryd.cellsBool : Tryd.prog.cellsOf 4 = 1 := by kernel_rfl
theorem Tryd.cellsI64 : Tryd.prog.cellsOf 2 = 1 := by kernel_rfl
theorem Tryd.cellsBs : Tryd.prog.cellsOf 23 = 1 := by kernel_rfl

theorem Tryd.bytesU8 : Tryd.prog.bytesOf 5 = 1 := by kernel_rfl
theorem Tryd.bytesItem : Tryd.prog.bytesOf 30 = 40 := by kernel_rfl
theorem weightsAll_mem {H : Type} {P : Program} {e : TypeId} {d : DataW H} : ∀ {l : List (DataW H)}, d ∈ l → ∀ z ∈ d.weights P e, z ∈ DataW.weightsAll P e l
  | [], h, _, _ => by cases h
  | x :: r, h, z, hz => by
    rw [DataW.weightsAll]
    rcases List.mem_cons.1 h with e | e
    · subst e; exact List.mem_append_left _ hz
    · exact List.mem_append_right _ (weightsAll_mem e z hz)

/-- What a reading of bytes among cells tells. -/
theorem bytes_of_trod {H : Type} {enc : TypeId × Value → H} {W : World} {fuel : Nat} {cs : List Value} {x : DataW H × List MemPlace} (hf : DataW.trod enc Tryd.prog W 0 (fun _ => true) true fuel 23 cs = some x) :
    ∃ A n c xs, cs = [.slice A n c] ∧ Rd8 W A xs ∧ xs.length = n ∧ n ≤ c ∧ c ≤ maxLen ∧ (∀ ad, A = some ad → 0 < n → ad.block < W.heap.size) ∧ ((∀ z ∈ x.1.weights Tryd.prog 23, z ≤ reachBytes) → n ≤ reachBytes) := by
  rcases open_ints Tryd.underlying23 Tryd.underlying5 Tryd.cellsU8 hf with ⟨hcs, hx⟩ | ⟨a, n, c, zs, hcs, _, hl, hm, hz, hx, hcell, hwz⟩
  · exact ⟨none, 0, 0, [], hcs, Rd8.nil _ _, rfl, Nat.le_refl _, Nat.zero_le _, fun ad e => (by cases e), fun _ => Nat.zero_le _⟩
  · simp only [if_true] at hz
    have hcl : ∀ j, j < n → (a.spot = none ∧ W.cell? ⟨a.block, a.off + j, none⟩ = some (.int .u8 (((zs.take n).map fun z => UInt8.ofNat z.toNat).getD j 0).toNat)) := by
      intro j hj
      have h0 := hcell j (by omega)
      have hsp := World.cell?_spot h0
      obtain ⟨b, o, sp⟩ := a
      have hsp0 : sp = none := by
        have := World.cell?_spot (hcell 0 (by omega))
        simpa [Addr.add] using this
      subst hsp0
      refine ⟨rfl, ?_⟩
      rw [add_at] at h0
      rw [h0]
      have hw := bounds_u8 (hwz (zs.getD j 0) (by simp [List.getD, show j < zs.length by omega]))
      have e : ((zs.take n).map fun z => UInt8.ofNat z.toNat).getD j 0 = UInt8.ofNat (zs.getD j 0).toNat := by
        simp [List.getD, show j < n from hj, show j < zs.length by omega]
      rw [e, UInt8.toNat_ofNat', Nat.mod_eq_of_lt (by omega)]
      congr 2
      omega
    refine ⟨some a, n, c, (zs.take n).map fun z => UInt8.ofNat z.toNat, hcs, fun h0 => ⟨a, rfl, ?_, fun j hj => ?_⟩, by simp; omega, hl, hm, fun ad e h0 => ?_, fun hw => ?_⟩
    · simp at h0; exact (hcl 0 (by omega)).1
    · simp at hj
      have := (hcl j (by omega)).2
      simpa [List.getD, show j < n by omega, show j < zs.length by omega] using this
    · injection e with e
      subst e
      have := World.block_lt_of_cell? W _ (hcl 0 h0).2
      exact this
    · subst hx
      have hw0 := hw ((lits (H := H) .u8 (zs.take n)).length + (lits (H := H) .u8 (zs.drop n)).length) (by simp [DataW.weights, Tryd.underlying23, Tryd.bytesU8])
      simp [lits] at hw0
      omega

set_option maxRecDepth 100000 in
theorem open_items {H : Type} {enc : TypeId × Value → H} {W : World} {base : Nat} {v : Value} {d : DataW H} {ps : List MemPlace} (hval : Value.okWide Tryd.prog W .any base 22 v) (h : DataW.Trod enc Tryd.prog W 0 (fun _ => true) true 22 v d ps)
    (hwt : ∀ z ∈ d.weights Tryd.prog 22, z ≤ reachBytes) :
    ∃ A n c l, v = .slice A n c ∧ Its W A l ∧ l.length = n ∧ n ≤ reachBytes := by
  obtain ⟨A, n, c, rfl⟩ := okWide_slice Tryd.underlying22 hval
  obtain ⟨fuel, hf⟩ := h
  rcases open_slice Tryd.underlying22 hf with ⟨hcs, hx⟩ | ⟨a, len, cap, m, k, D, Pl, hcs, _, hl, hm, hmm, hx, hall⟩
  · simp [Value.cells] at hcs
    obtain ⟨rfl, rfl, rfl⟩ := hcs
    exact ⟨none, 0, 0, [], rfl, fun h0 => by simp at h0, rfl, Nat.zero_le _⟩
  · simp [Value.cells] at hcs
    obtain ⟨rfl, rfl, rfl⟩ := hcs
    simp only [if_true] at hmm
    subst hmm
    simp only [Prod.mk.injEq] at hx
    obtain ⟨hd, _⟩ := hx
    subst hd
    have hn : n ≤ reachBytes := by
      have := hwt _ (by simp only [DataW.weights, Tryd.underlying22, Tryd.bytesItem]; exact List.mem_cons_self ..)
      simp at this
      omega
    have hwi : ∀ i, i < n → ∀ z ∈ (D i).weights Tryd.prog 30, z ≤ reachBytes := fun i hi z hz => hwt z (by
      simp only [DataW.weights, Tryd.underlying22]
      refine List.mem_cons_of_mem _ (List.mem_append_left _ (weightsAll_mem (List.mem_map.2 ⟨i, List.mem_range.2 hi, rfl⟩) z hz)))
    have hsp0 : 0 < n → a.spot = none := fun h0 => by
      obtain ⟨cs', h1, _⟩ := hall 0 (by omega)
      rw [Tryd.cellsItem] at h1
      obtain ⟨_, hlen, hcell⟩ := World.cells?_some h1
      match cs', hlen with
      | [v0, v1, v2], _ =>
        have h7 := World.cell?_spot (hcell 0 (by omega))
        simpa [Addr.add] using h7
    have each : ∀ i, i < n → ∃ q : It, ItAt W a.block (a.off + i * 3) q ∧ a.spot = none := by
      intro i hi
      obtain ⟨cs', h1, h2⟩ := hall i (by omega)
      have hwi := hwi i hi
      rw [Tryd.cellsItem] at h1
      obtain ⟨_, hlen, hcell⟩ := World.cells?_some h1
      obtain ⟨y0, y1, y2, j, hxy, _, u0, u1, u2⟩ := trod_struct3 Tryd.underlying30 h2
      match cs', hlen with
      | [v0, v1, v2], _ =>
        simp only [Tryd.cellsBool, Tryd.cellsI64, Tryd.cellsBs, List.drop, List.take] at u0 u1 u2
        obtain ⟨b, e0, _⟩ := DataW.trod_bool Tryd.underlying4 u0
        obtain ⟨z, e1, _, wz⟩ := DataW.trod_int Tryd.underlying2 u1
        obtain ⟨A2, n2, c2, xs, e2, r1, r2, r3, r4, r5, r6⟩ := bytes_of_trod u2
        simp only [List.cons.injEq, and_true] at e0 e1 e2
        subst e0; subst e1; subst e2
        have c0 := hcell 0 (by omega)
        have c1 := hcell 1 (by omega)
        have c2' := hcell 2 (by omega)
        have hsp : a.spot = none := hsp0 (by omega)
        obtain ⟨bl, o, sp⟩ := a
        cases hsp
        rw [add_add] at c0 c1 c2'
        rw [add_at] at c0 c1 c2'
        have hb := bounds_i64 wz
        simp only [Prod.mk.injEq] at hxy
        have r7 := r6 (fun z hz => hwi z (by
          rw [hxy.1]
          simp only [DataW.weights, Tryd.underlying30, DataW.weightsEach]
          simp [DataW.weightsEach, hz]))
        subst r2
        unfold reachBytes at r7
        exact ⟨⟨b, z, A2, c2, xs⟩, ⟨by simpa using c0, by simpa [Nat.add_assoc] using c1, by simpa [Nat.add_assoc] using c2', r1, hb.1, hb.2, by simp only; omega, r5⟩, rfl⟩
    obtain ⟨q, hq⟩ := choose_lt each
    refine ⟨some a, n, m, (List.range n).map q, rfl, fun h0 => ?_, by simp, hn⟩
    have h0' : 0 < n := by simpa using h0
    have hsp := (hq 0 (by omega)).2
    obtain ⟨bl, o, sp⟩ := a
    cases hsp
    refine ⟨bl, o, rfl, fun i hi => ?_⟩
    simp at hi
    simpa using (hq i (by omega)).1
end Go.Proofs.YtpkmmohjdcdfeaaDoor
