/- Entries that came in, opened, with their bulk. -/
import Derived.Test.YtainkckcipdknaaRowG
import Derived.Test.YtainkckcipdknaaQa
import Derived.Deep.Strs
import Derived.Deep.Grids
namespace Go.Proofs.Ytainkckcipdknaa
open Go.ChangeShapes Go.WideShapes Go.ChangeAt Go.RowKit Go.Deep

theorem Try.cellsU8 : Try.prog.cellsOf 5 = 1 := by kernel_rfl
theorem Try.cellsEnt : Try.prog.cellsOf 51 = 2 := by kernel_rfl
theorem Try.cellsI : Try.prog.cellsOf 3 = 1 := by kernel_rfl
theorem Try.cellsBs : Try.prog.cellsOf 49 = 1 := by kernel_rfl
theorem Try.bytesU8 : Try.prog.bytesOf 5 = 1 := by kernel_rfl
theorem Try.bytesEnt : Try.prog.bytesOf 51 = 32 := by kernel_rfl
theorem weightsAll_mem {H : Type} {P : Program} {e : TypeId} {d : DataW H} : ∀ {l : List (DataW H)}, d ∈ l → ∀ z ∈ d.weights P e, z ∈ DataW.weightsAll P e l
  | [], h, _, _ => by cases h
  | x :: r, h, z, hz => by
    rw [DataW.weightsAll]
    rcases List.mem_cons.1 h with e | e
    · subst e; exact List.mem_append_left _ hz
    · exact List.mem_append_right _ (weightsAll_mem e z hz)
theorem bulk_pos {H : Type} (d : DataW H) : 1 ≤ Rows.uptoBulk d := by
  cases d with
  | lit l => cases l <;> simp [Rows.uptoBulk]
  | _ => simp [Rows.uptoBulk]
theorem bulk_len {H : Type} : ∀ l : List (DataW H), l.length ≤ Rows.uptoBulkAll l
  | [] => Nat.zero_le _
  | d :: r => by
    have h1 := bulk_pos d
    have h2 := bulk_len r
    simp only [Rows.uptoBulkAll, List.length_cons]
    omega
theorem bulk_append {H : Type} : ∀ l r : List (DataW H), Rows.uptoBulkAll (l ++ r) = Rows.uptoBulkAll l + Rows.uptoBulkAll r
  | [], r => by simp [Rows.uptoBulkAll]
  | d :: l, r => by simp only [List.cons_append, Rows.uptoBulkAll, bulk_append l r]; omega
/-- What entries take. -/
def esum (ps : List EL) : Nat := (ps.map fun p => p.e.d.length + 1).sum
theorem ents_bulk {H : Type} (q : Nat → EL) (D : Nat → DataW H) : ∀ n, (∀ i, i < n → (q i).e.d.length + 1 ≤ Rows.uptoBulk (D i)) → esum ((List.range n).map q) ≤ Rows.uptoBulkAll ((List.range n).map D)
  | 0, _ => by simp [esum]
  | n + 1, h => by
    have h1 := ents_bulk q D n (fun i hi => h i (by omega))
    have h2 := h n (by omega)
    rw [List.range_succ, List.map_append, List.map_append, bulk_append]
    simp only [esum, List.map_append, List.sum_append, List.map_map, List.map_cons, List.map_nil, List.sum_cons, List.sum_nil, Rows.uptoBulkAll] at *
    omega

/-- What a reading of bytes among cells tells. -/
theorem bytes_of_trod_b {H : Type} {enc : TypeId × Value → H} {W : World} {fuel : Nat} {cs : List Value} {x : DataW H × List MemPlace} (hf : DataW.trod enc Try.prog W 0 (fun _ => true) true fuel 49 cs = some x) :
    ∃ A n c xs, cs = [.slice A n c] ∧ Rd8 W A xs ∧ xs.length = n ∧ n ≤ c ∧ c ≤ maxLen ∧ (∀ ad, A = some ad → 0 < n → ad.block < W.heap.size) ∧ ((∀ z ∈ x.1.weights Try.prog 49, z ≤ reachBytes) → n ≤ reachBytes) ∧ n + 1 ≤ Rows.uptoBulk x.1 := by
  rcases open_ints Try.underlying49 Try.underlying5 Try.cellsU8 hf with ⟨hcs, hx⟩ | ⟨a, n, c, zs, hcs, _, hl, hm, hz, hx, hcell, hwz⟩
  · exact ⟨none, 0, 0, [], hcs, Rd8.nil _ _, rfl, Nat.le_refl _, Nat.zero_le _, fun ad e => (by cases e), fun _ => Nat.zero_le _, bulk_pos _⟩
  · simp only [if_true] at hz
    have hcl : ∀ j, j < n → (a.spot = none ∧ W.cell? ⟨a.block, a.off + j, none⟩ = some (.int .u8 (((zs.take n).map fun z => UInt8.ofNat z.toNat).getD j 0).toNat)) := by
      intro j hj
      have h0 := hcell j (by omega)
      have hsp := World.cell?_spot h0
      obtain ⟨b, o, sp⟩ := a
      have hsp0 : sp = none := by
        have := World.cell?_spot (hcell 0 (by omega))
        simpa [Addr.add] using this
      subst hsp0
      refine ⟨rfl, ?_⟩
      rw [add_at] at h0
      rw [h0]
      have hw := bounds_u8 (hwz (zs.getD j 0) (by simp [List.getD, show j < zs.length by omega]))
      have e : ((zs.take n).map fun z => UInt8.ofNat z.toNat).getD j 0 = UInt8.ofNat (zs.getD j 0).toNat := by
        simp [List.getD, show j < n from hj, show j < zs.length by omega]
      rw [e, UInt8.toNat_ofNat', Nat.mod_eq_of_lt (by omega)]
      congr 2
      omega
    refine ⟨some a, n, c, (zs.take n).map fun z => UInt8.ofNat z.toNat, hcs, fun h0 => ⟨a, rfl, ?_, fun j hj => ?_⟩, by simp; omega, hl, hm, fun ad e h0 => ?_, fun hw => ?_, ?_⟩
    · simp at h0; exact (hcl 0 (by omega)).1
    · simp at hj
      have := (hcl j (by omega)).2
      simpa [List.getD, show j < n by omega, show j < zs.length by omega] using this
    · injection e with e
      subst e
      have := World.block_lt_of_cell? W _ (hcl 0 h0).2
      exact this
    · subst hx
      have hw0 := hw ((lits (H := H) .u8 (zs.take n)).length + (lits (H := H) .u8 (zs.drop n)).length) (by simp [DataW.weights, Try.underlying49, Try.bytesU8])
      simp [lits] at hw0
      omega
    · subst hx
      have h9 := bulk_len (lits (H := H) .u8 (zs.take n))
      simp only [Rows.uptoBulk]
      simp [lits] at h9
      simp [lits] at *
      omega

set_option maxRecDepth 100000 in
theorem ents_trod {H : Type} {enc : TypeId × Value → H} {W : World} {fuel : Nat} {cs : List Value} {x : DataW H × List MemPlace} (hf : DataW.trod enc Try.prog W 0 (fun _ => true) true fuel 22 cs = some x)
    (hwt : ∀ z ∈ x.1.weights Try.prog 22, z ≤ reachBytes) :
    ∃ A n c ps, cs = [.slice A n c] ∧ Es W A n ps (fun k => k < W.heap.size) ∧ n ≤ c ∧ c ≤ maxLen ∧ n ≤ 4398046511104 ∧ esum ps + 1 ≤ Rows.uptoBulk x.1 := by
  rcases open_slice Try.underlying22 hf with ⟨hcs, hx⟩ | ⟨a, n, cap, m, k, D, Pl, hcs, _, hl, hm, hmm, hx, hall⟩
  · exact ⟨none, 0, 0, [], hcs, Es.nil _ _ _, Nat.le_refl _, Nat.zero_le _, by omega, by have := bulk_pos x.1; simp [esum]; omega⟩
  · simp only [if_true] at hmm
    subst hmm
    subst hx
    have hn : n ≤ 4398046511104 := by
      have := hwt _ (by simp only [DataW.weights, Try.underlying22, Try.bytesEnt]; exact List.mem_cons_self ..)
      unfold reachBytes at this
      simp at this
      omega
    have hwi : ∀ i, i < n → ∀ z ∈ (D i).weights Try.prog 51, z ≤ reachBytes := fun i hi z hz => hwt z (by
      simp only [DataW.weights, Try.underlying22]
      refine List.mem_cons_of_mem _ (List.mem_append_left _ (weightsAll_mem (List.mem_map.2 ⟨i, List.mem_range.2 hi, rfl⟩) z hz)))
    have hsp0 : 0 < n → a.spot = none := fun h0 => by
      obtain ⟨cs', h1, _⟩ := hall 0 (by omega)
      rw [Try.cellsEnt] at h1
      obtain ⟨_, hlen, hcell⟩ := World.cells?_some h1
      have h7 := World.cell?_spot ((hcell 0 (by omega)).trans (List.getElem?_eq_getElem (by omega)))
      simpa [Addr.add] using h7
    have each : ∀ i, i < n → ∃ q : EL, W.cell? ⟨a.block, a.off + i * 2, none⟩ = some (.int .i64 q.e.t) ∧ W.cell? ⟨a.block, a.off + i * 2 + 1, none⟩ = some q.bv ∧ RdE W (fun k => k < W.heap.size) q ∧ a.spot = none ∧ q.e.d.length + 1 ≤ Rows.uptoBulk (D i) := by
      intro i hi
      obtain ⟨cs', h1, h2⟩ := hall i (by omega)
      have hwi := hwi i hi
      rw [Try.cellsEnt] at h1
      obtain ⟨_, hlen, hcell⟩ := World.cells?_some h1
      obtain ⟨ys, j, _, hxy, _, hyl, hfl⟩ := DataW.trod_struct Try.underlying51 h2
      match cs', hlen with
      | [v0, v1], _ =>
        match ys, hyl with
        | [y0, y1], _ =>
          have u0 : DataW.trod enc Try.prog W 0 (fun _ => true) true j 3 (([v0, v1].drop 0).take (Try.prog.cellsOf 3)) = some y0 := hfl 0 _ rfl
          rw [Try.cellsI] at u0
          simp only [List.drop, List.take] at u0
          have u1 : DataW.trod enc Try.prog W 0 (fun _ => true) true j 49 (([v0, v1].drop 1).take (Try.prog.cellsOf 49)) = some y1 := hfl 1 _ rfl
          rw [Try.cellsBs] at u1
          simp only [List.drop, List.take] at u1
          obtain ⟨z0, e0, _, w0⟩ := DataW.trod_int Try.underlying3 u0
          obtain ⟨A2, n2, c2, xs, e2, r1, r2, r3, r4, r5, r6, r8⟩ := bytes_of_trod_b u1
          simp only [List.cons.injEq, and_true] at e0 e2
          subst e0; subst e2
          have c0 := hcell 0 (by omega)
          have c1 := hcell 1 (by omega)
          have hsp : a.spot = none := hsp0 (by omega)
          obtain ⟨bl, o, sp⟩ := a
          cases hsp
          rw [add_add] at c0 c1
          rw [add_at] at c0 c1
          have hb := bounds_i64 w0
          simp only [Prod.mk.injEq] at hxy
          have r7 := r6 (fun z hz => hwi z (by
            rw [hxy.1]
            simp only [DataW.weights, Try.underlying51, DataW.weightsEach]
            simp [DataW.weightsEach, hz]))
          subst r2
          unfold reachBytes at r7
          exact ⟨⟨⟨z0, xs⟩, A2, c2⟩, by simpa using c0, by simpa [Nat.add_assoc, EL.bv] using c1, ⟨r1, ⟨hb.1, hb.2, by simp only; omega⟩, r5⟩, rfl, by
            rw [hxy.1]
            simp only [Rows.uptoBulk, Rows.uptoBulkAll, List.map_cons, List.map_nil]
            omega⟩
    obtain ⟨q, hq⟩ := choose_lt each
    refine ⟨some a, n, m, (List.range n).map q, hcs, ⟨by simp, fun h0 => ?_, fun p hp => ?_⟩, hl, hm, hn, ?_⟩
    · have hsp := (hq 0 h0).2.2.2.1
      have hc0 := (hq 0 h0).1
      obtain ⟨bl, o, sp⟩ := a
      cases hsp
      refine ⟨bl, o, rfl, World.block_lt_of_cell? W _ hc0, fun j u hu => ?_⟩
      have hj : j < n * 2 := by
        have := (List.getElem?_eq_some_iff.1 hu).1
        rw [elc_len] at this
        simpa using this
      have e := elc_at (ps := (List.range n).map q) (i := j / 2) (j := j % 2) (by simp; omega) (by omega)
      rw [show j / 2 * 2 + j % 2 = j by omega, hu] at e
      have e2 : ((List.range n).map q).getD (j / 2) default = q (j / 2) := by simp [List.getD, show j / 2 < n by omega]
      rw [e2] at e
      obtain ⟨k0, k1, _⟩ := hq (j / 2) (by omega)
      by_cases hm2 : j % 2 = 0
      · rw [hm2] at e
        rw [show o + j = o + j / 2 * 2 by omega]
        exact k0.trans (e.trans rfl).symm
      · have hm3 : j % 2 = 1 := by omega
        rw [hm3] at e
        rw [show o + j = o + j / 2 * 2 + 1 by omega]
        exact k1.trans (e.trans rfl).symm
    · obtain ⟨i, hi, rfl⟩ := List.mem_map.1 hp
      exact (hq i (List.mem_range.1 hi)).2.2.1
    · simp only [Rows.uptoBulk]
      have := ents_bulk q D n (fun i hi => (hq i hi).2.2.2.2)
      omega
theorem open_ents {H : Type} {enc : TypeId × Value → H} {W : World} {base : Nat} {v : Value} {d : DataW H} {ps : List MemPlace} (hval : Value.okWide Try.prog W .any base 22 v) (h : DataW.Trod enc Try.prog W 0 (fun _ => true) true 22 v d ps)
    (hwt : ∀ z ∈ d.weights Try.prog 22, z ≤ reachBytes) :
    ∃ A n c ps, v = .slice A n c ∧ Es W A n ps (fun k => k < W.heap.size) ∧ n ≤ c ∧ c ≤ maxLen ∧ n ≤ 4398046511104 ∧ esum ps + 1 ≤ Rows.uptoBulk d := by
  obtain ⟨A, n, c, rfl⟩ := okWide_slice Try.underlying22 hval
  obtain ⟨fuel, hf⟩ := h
  obtain ⟨A', n', c', ps', e, h1⟩ := ents_trod hf hwt
  simp [Value.cells] at e
  obtain ⟨rfl, rfl, rfl⟩ := e
  exact ⟨A, n, c, ps', rfl, h1⟩
end Go.Proofs.Ytainkckcipdknaa
