/- A call that came in, opened, and its bulk. -/
import Derived.Test.YtblfnbmgijppmaaDoorKl
import Derived.Test.YtblfnbmgijppmaaDoorRow
import Derived.Deep.Strs
namespace Go.Proofs.YtblfnbmgijppmaaDoor
open Go.ChangeShapes Go.WideShapes Go.ChangeAt Go.RowKit Go.Deep

theorem Tryd.cellsInt : Tryd.prog.cellsOf 3 = 1 := by kernel_rfl
theorem Tryd.cellsBs : Tryd.prog.cellsOf 24 = 1 := by kernel_rfl
theorem Tryd.cellsDs : Tryd.prog.cellsOf 25 = 1 := by kernel_rfl
theorem Tryd.cellsDecision : Tryd.prog.cellsOf 30 = 5 := by kernel_rfl
theorem Tryd.cellsToken : Tryd.prog.cellsOf 23 = 4 := by kernel_rfl
theorem Tryd.cellsCall : Tryd.prog.cellsOf 27 = 10 := by kernel_rfl

section
variable {H : Type} {enc : TypeId × Value → H} {P : Program} {w : World} {base : Nat} {spare : TypeId → Bool} {held : Bool}
theorem trod_struct4 {t : TypeId} {f0 f1 f2 f3 : Field} {fuel : Nat} {cs : List Value} {x : DataW H × List MemPlace} (ht : P.underlying t = some (.struct #[f0, f1, f2, f3])) (h : DataW.trod enc P w base spare held fuel t cs = some x) :
    ∃ y0 y1 y2 y3 n, x.1 = .agg [y0.1, y1.1, y2.1, y3.1] ∧ DataW.trod enc P w base spare held n f0.type ((cs.drop f0.offset).take (P.cellsOf f0.type)) = some y0 ∧
      DataW.trod enc P w base spare held n f1.type ((cs.drop f1.offset).take (P.cellsOf f1.type)) = some y1 ∧ DataW.trod enc P w base spare held n f2.type ((cs.drop f2.offset).take (P.cellsOf f2.type)) = some y2 ∧
      DataW.trod enc P w base spare held n f3.type ((cs.drop f3.offset).take (P.cellsOf f3.type)) = some y3 := by
  obtain ⟨xs, n, _, rfl, hl, hlen, hf⟩ := DataW.trod_struct ht h
  match xs, hlen with
  | [y0, y1, y2, y3], _ => exact ⟨y0, y1, y2, y3, n, by simp, by simpa using hf 0 f0 rfl, by simpa using hf 1 f1 rfl, by simpa using hf 2 f2 rfl, by simpa using hf 3 f3 rfl⟩
theorem trod_struct5 {t : TypeId} {f0 f1 f2 f3 f4 : Field} {fuel : Nat} {cs : List Value} {x : DataW H × List MemPlace} (ht : P.underlying t = some (.struct #[f0, f1, f2, f3, f4])) (h : DataW.trod enc P w base spare held fuel t cs = some x) :
    ∃ y0 y1 y2 y3 y4 n, x.1 = .agg [y0.1, y1.1, y2.1, y3.1, y4.1] ∧ DataW.trod enc P w base spare held n f0.type ((cs.drop f0.offset).take (P.cellsOf f0.type)) = some y0 ∧
      DataW.trod enc P w base spare held n f1.type ((cs.drop f1.offset).take (P.cellsOf f1.type)) = some y1 ∧ DataW.trod enc P w base spare held n f2.type ((cs.drop f2.offset).take (P.cellsOf f2.type)) = some y2 ∧
      DataW.trod enc P w base spare held n f3.type ((cs.drop f3.offset).take (P.cellsOf f3.type)) = some y3 ∧ DataW.trod enc P w base spare held n f4.type ((cs.drop f4.offset).take (P.cellsOf f4.type)) = some y4 := by
  obtain ⟨xs, n, _, rfl, hl, hlen, hf⟩ := DataW.trod_struct ht h
  match xs, hlen with
  | [y0, y1, y2, y3, y4], _ => exact ⟨y0, y1, y2, y3, y4, n, by simp, by simpa using hf 0 f0 rfl, by simpa using hf 1 f1 rfl, by simpa using hf 2 f2 rfl, by simpa using hf 3 f3 rfl, by simpa using hf 4 f4 rfl⟩
theorem trod_struct7 {t : TypeId} {f0 f1 f2 f3 f4 f5 f6 : Field} {fuel : Nat} {cs : List Value} {x : DataW H × List MemPlace} (ht : P.underlying t = some (.struct #[f0, f1, f2, f3, f4, f5, f6])) (h : DataW.trod enc P w base spare held fuel t cs = some x) :
    ∃ y0 y1 y2 y3 y4 y5 y6 n, x.1 = .agg [y0.1, y1.1, y2.1, y3.1, y4.1, y5.1, y6.1] ∧ DataW.trod enc P w base spare held n f0.type ((cs.drop f0.offset).take (P.cellsOf f0.type)) = some y0 ∧
      DataW.trod enc P w base spare held n f1.type ((cs.drop f1.offset).take (P.cellsOf f1.type)) = some y1 ∧ DataW.trod enc P w base spare held n f2.type ((cs.drop f2.offset).take (P.cellsOf f2.type)) = some y2 ∧
      DataW.trod enc P w base spare held n f3.type ((cs.drop f3.offset).take (P.cellsOf f3.type)) = some y3 ∧ DataW.trod enc P w base spare held n f4.type ((cs.drop f4.offset).take (P.cellsOf f4.type)) = some y4 ∧
      DataW.trod enc P w base spare held n f5.type ((cs.drop f5.offset).take (P.cellsOf f5.type)) = some y5 ∧ DataW.trod enc P w base spare held n f6.type ((cs.drop f6.offset).take (P.cellsOf f6.type)) = some y6 := by
  obtain ⟨xs, n, _, rfl, hl, hlen, hf⟩ := DataW.trod_struct ht h
  match xs, hlen with
  | [y0, y1, y2, y3, y4, y5, y6], _ => exact ⟨y0, y1, y2, y3, y4, y5, y6, n, by simp, by simpa using hf 0 f0 rfl, by simpa using hf 1 f1 rfl, by simpa using hf 2 f2 rfl, by simpa using hf 3 f3 rfl, by simpa using hf 4 f4 rfl, by simpa using hf 5 f5 rfl, by simpa using hf 6 f6 rfl⟩
end

theorem bulk_pos {H : Type} (d : DataW H) : 1 ≤ Rows.uptoBulk d := by
  cases d with
  | lit l => cases l <;> simp [Rows.uptoBulk]
  | _ => simp [Rows.uptoBulk]
theorem bulk_len {H : Type} : ∀ l : List (DataW H), l.length ≤ Rows.uptoBulkAll l
  | [] => Nat.zero_le _
  | d :: r => by
    have h1 := bulk_pos d
    have h2 := bulk_len r
    simp only [Rows.uptoBulkAll, List.length_cons]
    omega
theorem bulk_append {H : Type} : ∀ l r : List (DataW H), Rows.uptoBulkAll (l ++ r) = Rows.uptoBulkAll l + Rows.uptoBulkAll r
  | [], r => by simp [Rows.uptoBulkAll]
  | d :: l, r => by simp only [List.cons_append, Rows.uptoBulkAll, bulk_append l r]; omega
theorem decs_bulk {H : Type} (q : Nat → DI) (D : Nat → DataW H) : ∀ n, (∀ i, i < n → (q i).d.bs.length + 1 ≤ Rows.uptoBulk (D i)) → sumD (((List.range n).map q).map DI.d) ≤ Rows.uptoBulkAll ((List.range n).map D)
  | 0, _ => by simp [sumD]
  | n + 1, h => by
    have h1 := decs_bulk q D n (fun i hi => h i (by omega))
    have h2 := h n (by omega)
    rw [List.range_succ, List.map_append, List.map_append, List.map_append, bulk_append]
    simp only [List.map_cons, List.map_nil, sumD_snoc, Rows.uptoBulkAll]
    omega

/-- What a reading of bytes among cells tells. -/
theorem bytes_of_trod_c {H : Type} {enc : TypeId × Value → H} {W : World} {fuel : Nat} {cs : List Value} {x : DataW H × List MemPlace} (hf : DataW.trod enc Tryd.prog W 0 (fun _ => true) true fuel 24 cs = some x) :
    ∃ A n c xs, cs = [.slice A n c] ∧ Rd8 W A xs ∧ xs.length = n ∧ n ≤ c ∧ c ≤ maxLen ∧ (∀ ad, A = some ad → 0 < n → ad.block < W.heap.size) ∧ n + 1 ≤ Rows.uptoBulk x.1 := by
  rcases open_ints Tryd.underlying24 Tryd.underlying5 Tryd.cellsU8 hf with ⟨hcs, hx⟩ | ⟨a, n, c, zs, hcs, _, hl, hm, hz, hx, hcell, hwz⟩
  · exact ⟨none, 0, 0, [], hcs, Rd8.nil _ _, rfl, Nat.le_refl _, Nat.zero_le _, fun ad e => (by cases e), bulk_pos _⟩
  · simp only [if_true] at hz
    have hcl : ∀ j, j < n → (a.spot = none ∧ W.cell? ⟨a.block, a.off + j, none⟩ = some (.int .u8 (((zs.take n).map fun z => UInt8.ofNat z.toNat).getD j 0).toNat)) := by
      intro j hj
      have h0 := hcell j (by omega)
      have hsp := World.cell?_spot h0
      obtain ⟨b, o, sp⟩ := a
      have hsp0 : sp = none := by
        have := World.cell?_spot (hcell 0 (by omega))
        simpa [Addr.add] using this
      subst hsp0
      refine ⟨rfl, ?_⟩
      rw [add_at] at h0
      rw [h0]
      have hw := bounds_u8 (hwz (zs.getD j 0) (by simp [List.getD, show j < zs.length by omega]))
      have e : ((zs.take n).map fun z => UInt8.ofNat z.toNat).getD j 0 = UInt8.ofNat (zs.getD j 0).toNat := by
        simp [List.getD, show j < n from hj, show j < zs.length by omega]
      rw [e, UInt8.toNat_ofNat', Nat.mod_eq_of_lt (by omega)]
      congr 2
      omega
    refine ⟨some a, n, c, (zs.take n).map fun z => UInt8.ofNat z.toNat, hcs, fun h0 => ⟨a, rfl, ?_, fun j hj => ?_⟩, by simp; omega, hl, hm, fun ad e h0 => ?_, ?_⟩
    · simp at h0; exact (hcl 0 (by omega)).1
    · simp at hj
      have := (hcl j (by omega)).2
      simpa [List.getD, show j < n by omega, show j < zs.length by omega] using this
    · injection e with e
      subst e
      have := World.block_lt_of_cell? W _ (hcl 0 h0).2
      exact this
    · subst hx
      have h9 := bulk_len (lits (H := H) .u8 (zs.take n))
      simp only [Rows.uptoBulk]
      simp [lits] at h9
      simp [lits] at *
      omega

set_option maxRecDepth 100000 in
theorem decs_of_trod {H : Type} {enc : TypeId × Value → H} {W : World} {fuel : Nat} {cs : List Value} {x : DataW H × List MemPlace} (hf : DataW.trod enc Tryd.prog W 0 (fun _ => true) true fuel 25 cs = some x) :
    ∃ A n c l, cs = [.slice A n c] ∧ DsAt W (fun k => k < W.heap.size) A l ∧ l.length = n ∧ (∀ d ∈ l.map DI.d, d.ok) ∧ n ≤ Rows.uptoBulk x.1 ∧ sumD (l.map DI.d) ≤ Rows.uptoBulk x.1 ∧ n ≤ maxLen := by
  rcases open_slice Tryd.underlying25 hf with ⟨hcs, hx⟩ | ⟨a, len, cap, m, k, D, Pl, hcs, _, hl, hm, hmm, hx, hall⟩
  · exact ⟨none, 0, 0, [], hcs, fun h0 => by simp at h0, rfl, by simp, Nat.zero_le _, by simp [sumD], Nat.zero_le _⟩
  · simp only [if_true] at hmm
    subst hmm
    subst hx
    have hsp0 : 0 < len → a.spot = none := fun h0 => by
      obtain ⟨cs', h1, _⟩ := hall 0 (by omega)
      rw [Tryd.cellsDecision] at h1
      obtain ⟨_, hlen, hcell⟩ := World.cells?_some h1
      match cs', hlen with
      | [v0, v1, v2, v3, v4], _ =>
        have h7 := World.cell?_spot (hcell 0 (by omega))
        simpa [Addr.add] using h7
    have each : ∀ i, i < len → ∃ q : DI, DAt W (fun k => k < W.heap.size) a.block (a.off + i * 5) q ∧ q.d.ok ∧ q.d.bs.length + 1 ≤ Rows.uptoBulk (D i) := by
      intro i hi
      obtain ⟨cs', h1, h2⟩ := hall i (by omega)
      rw [Tryd.cellsDecision] at h1
      obtain ⟨_, hlen, hcell⟩ := World.cells?_some h1
      obtain ⟨y0, y1, y2, y3, y4, j, hxy, u0, u1, u2, u3, u4⟩ := trod_struct5 Tryd.underlying30 h2
      match cs', hlen with
      | [v0, v1, v2, v3, v4], _ =>
        simp only [Tryd.cellsInt, Tryd.cellsBs, List.drop, List.take] at u0 u1 u2 u3 u4
        obtain ⟨z0, e0, _, w0⟩ := DataW.trod_int Tryd.underlying3 u0
        obtain ⟨z1, e1, _, w1⟩ := DataW.trod_int Tryd.underlying3 u1
        obtain ⟨z2, e2, _, w2⟩ := DataW.trod_int Tryd.underlying3 u2
        obtain ⟨z3, e3, _, w3⟩ := DataW.trod_int Tryd.underlying3 u3
        obtain ⟨A2, n2, c2, xs, e4, r1, r2, r3, r4, r5, r8⟩ := bytes_of_trod_c u4
        simp only [List.cons.injEq, and_true] at e0 e1 e2 e3 e4
        subst e0; subst e1; subst e2; subst e3; subst e4
        have c0 := hcell 0 (by omega)
        have c1 := hcell 1 (by omega)
        have c2' := hcell 2 (by omega)
        have c3 := hcell 3 (by omega)
        have c4 := hcell 4 (by omega)
        have hsp : a.spot = none := hsp0 (by omega)
        obtain ⟨bl, o, sp⟩ := a
        cases hsp
        rw [add_add] at c0 c1 c2' c3 c4
        rw [add_at] at c0 c1 c2' c3 c4
        subst r2
        have hb0 := bounds_i64 w0
        have hb1 := bounds_i64 w1
        have hb2 := bounds_i64 w2
        have hb3 := bounds_i64 w3
        have hbk := World.block_lt_of_cell? W _ c0
        refine ⟨⟨⟨z0, z1, z2, z3, xs⟩, A2, c2⟩, ⟨by simpa using c0, by simpa [Nat.add_assoc] using c1, by simpa [Nat.add_assoc] using c2', by simpa [Nat.add_assoc] using c3, by simpa [Nat.add_assoc] using c4, r1, hbk, r5⟩, ⟨⟨hb0.1, hb0.2⟩, ⟨hb1.1, hb1.2⟩, ⟨hb2.1, hb2.2⟩, ⟨hb3.1, hb3.2⟩, by unfold maxLen at r4; simp only; omega⟩, ?_⟩
        simp only at hxy
        rw [hxy]
        simp only [Rows.uptoBulk, Rows.uptoBulkAll]
        omega
    obtain ⟨q, hq⟩ := choose_lt each
    refine ⟨some a, len, m, (List.range len).map q, hcs, fun h0 => ?_, by simp, ?_, ?_, ?_, Nat.le_trans hl hm⟩
    · have h0' : 0 < len := by simpa using h0
      have hsp := hsp0 (by omega)
      obtain ⟨bl, o, sp⟩ := a
      cases hsp
      refine ⟨bl, o, rfl, fun i hi => ?_⟩
      simp at hi
      simpa using (hq i (by omega)).1
    · intro d hd
      simp only [List.mem_map, List.mem_range] at hd
      obtain ⟨p, ⟨i, hi, rfl⟩, rfl⟩ := hd
      exact (hq i hi).2.1
    · have := bulk_len ((List.range len).map D)
      simp only [Rows.uptoBulk]
      simp at this
      omega
    · have := decs_bulk q D len (fun i hi => (hq i hi).2.2)
      simp only [Rows.uptoBulk]
      omega

set_option maxRecDepth 100000 in
theorem open_call {H : Type} {enc : TypeId × Value → H} {W : World} {base : Nat} {v : Value} {d : DataW H} {ps : List MemPlace} (hval : Value.okWide Tryd.prog W .any base 27 v) (h : DataW.Trod enc Tryd.prog W 0 (fun _ => true) true 27 v d ps) :
    ∃ x : CI, v = .agg x.cells ∧ x.At W (fun k => k < W.heap.size) ∧ x.cl.ok ∧ x.bs.length + 1 ≤ Rows.uptoBulk d ∧ x.ds.length ≤ Rows.uptoBulk d ∧ sumD (x.ds.map DI.d) ≤ Rows.uptoBulk d := by
  obtain ⟨cs, rfl, hsz⟩ := okWide_struct Tryd.underlying27 hval
  obtain ⟨fuel, hf⟩ := h
  rw [Tryd.cellsCall] at hsz
  obtain ⟨cs⟩ := cs
  simp only [Value.cells, List.size_toArray] at hf hsz
  obtain ⟨y0, y1, y2, y3, y4, y5, y6, j, hxy, u0, u1, u2, u3, u4, u5, u6⟩ := trod_struct7 Tryd.underlying27 hf
  match cs, hsz with
  | [v0, v1, v2, v3, v4, v5, v6, v7, v8, v9], _ =>
    simp only [Tryd.cellsInt, Tryd.cellsBs, Tryd.cellsDs, Tryd.cellsToken, List.drop, List.take] at u0 u1 u2 u3 u4 u5 u6
    obtain ⟨p0, p1, p2, p3, _, _, t0, t1, t2, t3⟩ := trod_struct4 Tryd.underlying23 u4
    simp only [Tryd.cellsInt, List.drop, List.take] at t0 t1 t2 t3
    obtain ⟨z0, e0, _, w0⟩ := DataW.trod_int Tryd.underlying3 u0
    obtain ⟨z1, e1, _, w1⟩ := DataW.trod_int Tryd.underlying3 u1
    obtain ⟨z2, e2, _, w2⟩ := DataW.trod_int Tryd.underlying3 u2
    obtain ⟨z3, e3, _, w3⟩ := DataW.trod_int Tryd.underlying3 u3
    obtain ⟨z4, e4, _, w4⟩ := DataW.trod_int Tryd.underlying3 t0
    obtain ⟨z5, e5, _, w5⟩ := DataW.trod_int Tryd.underlying3 t1
    obtain ⟨z6, e6, _, w6⟩ := DataW.trod_int Tryd.underlying3 t2
    obtain ⟨z7, e7, _, w7⟩ := DataW.trod_int Tryd.underlying3 t3
    obtain ⟨A8, n8, c8, xs, e8, r1, r2, r3, r4, r5, r6⟩ := bytes_of_trod_c u5
    obtain ⟨A9, n9, c9, l, e9, s1, s2, s3, s4, s5, s6⟩ := decs_of_trod u6
    simp only [List.cons.injEq, and_true] at e0 e1 e2 e3 e4 e5 e6 e7 e8 e9
    subst e0; subst e1; subst e2; subst e3; subst e4; subst e5; subst e6; subst e7; subst e8; subst e9; subst r2; subst s2
    have hb0 := bounds_i64 w0
    have hb1 := bounds_i64 w1
    have hb2 := bounds_i64 w2
    have hb3 := bounds_i64 w3
    have hb4 := bounds_i64 w4
    have hb5 := bounds_i64 w5
    have hb6 := bounds_i64 w6
    have hb7 := bounds_i64 w7
    have hd : Rows.uptoBulk y5.1 ≤ Rows.uptoBulk d ∧ Rows.uptoBulk y6.1 ≤ Rows.uptoBulk d := by
      simp only at hxy
      rw [hxy]
      simp only [Rows.uptoBulk, Rows.uptoBulkAll]
      omega
    obtain ⟨hd5, hd6⟩ := hd
    refine ⟨⟨z0, z1, z2, z3, z4, z5, z6, z7, A8, c8, xs, A9, c9, l⟩, rfl, ⟨r1, r5, s1⟩, ⟨⟨hb0.1, hb0.2⟩, ⟨hb1.1, hb1.2⟩, ⟨hb2.1, hb2.2⟩, ⟨hb3.1, hb3.2⟩, ⟨hb4.1, hb4.2⟩, ⟨hb5.1, hb5.2⟩, ⟨hb6.1, hb6.2⟩, ⟨hb7.1, hb7.2⟩, ?_, ?_, s3⟩, Nat.le_trans r6 hd5, Nat.le_trans s4 hd6, Nat.le_trans s5 hd6⟩
    · unfold maxLen at r4
      simp only [CI.cl]
      omega
    · have := s6
      unfold maxLen at this
      simp only [CI.cl, List.length_map]
      omega
end Go.Proofs.YtblfnbmgijppmaaDoor
