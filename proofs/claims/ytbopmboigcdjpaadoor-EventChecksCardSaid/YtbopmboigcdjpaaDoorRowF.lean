/- The listed variables of event's laws; events that came in. -/
import Derived.Test.YtbopmboigcdjpaaDoorMn
import Derived.Test.YtbopmboigcdjpaaDoorRow
import Derived.Test.YtbopmboigcdjpaaDoorCards
import Derived.Test.YtbopmboigcdjpaaDoorTie
import Derived.Deep.Strs
import Derived.Deep.Grids
namespace Go.Proofs.YtbopmboigcdjpaaDoor
open Go.ChangeShapes Go.WideShapes Go.ChangeAt Go.RowKit Go.Deep

/-! ### the variables -/
theorem mapM_at' {α β : Type} {f : α → Option β} {l : List α} {r : List β} (h : l.mapM f = some r) (i : Nat) (a : α) (ha : l[i]? = some a) : ∃ b, r[i]? = some b ∧ f a = some b := Lib.mapM_at h i a ha
/-- An array of strings that reads so holds these strings. -/
theorem strs_of_tab {H : Type} {enc : TypeId × Value → H} {P : Program} {w : World} {base : Nat} {sp : Nat → Bool} {held : Bool} {fuel : Nat} {t e : TypeId} {n : Nat} {cs : List Value} {zs : List (List UInt8)} {p : List MemPlace}
    (ht : P.underlying t = some (.array n e)) (he : P.underlying e = some .string) (hce : P.cellsOf e = 1) (hct : P.cellsOf t = n)
    (h : DataW.trod enc P w base sp held fuel t cs = some (.agg (zs.map fun z => .lit (.string z)), p)) (i : Nat) (z : List UInt8) (hz : zs[i]? = some z) : ∃ s : ByteArray, cs[i]? = some (.string s) ∧ s.data.toList = z := by
  cases fuel with
  | zero => simp [DataW.trod] at h
  | succ fuel =>
    simp only [DataW.trod, ht, hce, hct, Nat.mul_one] at h
    split at h
    · rename_i hl
      obtain ⟨xs, hm, hx⟩ := Option.map_eq_some_iff.1 h
      have hxs : xs.map (·.1) = zs.map fun z => (DataW.lit (.string z) : DataW H) := by
        have := congrArg Prod.fst hx
        simpa using this
      have hxl : xs.length = n := by simpa using Lib.mapM_length hm
      have hzl : zs.length = n := by
        have := congrArg List.length hxs
        simp at this
        omega
      have hi : i < n := by
        have := (List.getElem?_eq_some_iff.1 hz).1
        omega
      obtain ⟨b, hb, hf⟩ := Lib.mapM_at hm i i (by simp [hi])
      obtain ⟨s, hc, rfl, _⟩ := DataW.trod_string he hf
      have h1 : cs[i]? = some (.string s) := by
        have := congrArg (·[0]?) hc
        simpa [List.getElem?_take, List.getElem?_drop] using this
      have h2 : (xs.map (·.1))[i]? = some (DataW.lit (.string s.data.toList) : DataW H) := by simp [hb]
      rw [hxs] at h2
      simp only [List.getElem?_map, hz, Option.map_some, Option.some.injEq, DataW.lit.injEq, Lit.string.injEq] at h2
      exact ⟨s, h1, h2.symm⟩
    · cases h
theorem Tryd.gNames : Tryd.prog.globalNamed "teasel/event.names" = some 1 := by kernel_rfl
theorem Tryd.gNamesType : (Tryd.prog.globals[1]?).map (·.type) = some 83 := by kernel_rfl
theorem Tryd.cellsNames : Tryd.prog.cellsOf 83 = 24 := by kernel_rfl
theorem Tryd.cellsStr : Tryd.prog.cellsOf 9 = 1 := by kernel_rfl
theorem names_data : (Rows.laid_teasel_event_names : DataW Unit) = .agg ((nameTab.map fun s => s.data.toList).map fun z => .lit (.string z)) := by kernel_rfl
theorem nam_of_laid {W : World} {l : List (String × DataW Unit)} (h : laidMet Tryd.prog l W) (hm : ("teasel/event.names", (Rows.laid_teasel_event_names : DataW Unit)) ∈ l) : NamT W := by
  obtain ⟨ps, hl, _, _⟩ := h
  obtain ⟨g, t, cs, fuel, p, h1, h2, h3, h4⟩ := laid_mem hl hm
  obtain rfl := Option.some.inj (Tryd.gNames.symm.trans h1)
  obtain rfl := Option.some.inj (Tryd.gNamesType.symm.trans h2)
  rw [names_data] at h4
  intro j hj
  have hlen : nameTab.length = 24 := rfl
  obtain ⟨s, e1, e2⟩ := strs_of_tab Tryd.underlying83 Tryd.underlying9 Tryd.cellsStr Tryd.cellsNames h4 j (nameTab.getD j ⟨#[]⟩).data.toList (by simp [List.getD, show j < nameTab.length by omega])
  have hs : s = nameTab.getD j ⟨#[]⟩ := by
    have : s.data = (nameTab.getD j ⟨#[]⟩).data := Array.toList_inj.1 e2
    cases s; cases hx : nameTab.getD j ⟨#[]⟩; rw [hx] at this; simp only at this; rw [this]
  rw [hs] at e1
  exact (World.var?_cell Tryd.gNames h3 j).trans (by simpa using e1)
def fiveE : List (String × DataW Unit) := [("math/bits.deBruijn32tab", Rows.laid_math_bits_deBruijn32tab), ("math/bits.deBruijn64tab", Rows.laid_math_bits_deBruijn64tab), ("internal/strconv.uint64pow10", Rows.laid_internal_strconv_uint64pow10), ("errors.errorType", Rows.laid_errors_errorType), ("teasel/event.names", Rows.laid_teasel_event_names)]
theorem met_of_laidE {W : World} (h : laidMetH Tryd.prog fiveE W) : ErrT W ∧ NamT W := by
  have h' : laidMet Tryd.prog [("math/bits.deBruijn32tab", Rows.laid_math_bits_deBruijn32tab), ("math/bits.deBruijn64tab", Rows.laid_math_bits_deBruijn64tab), ("internal/strconv.uint64pow10", Rows.laid_internal_strconv_uint64pow10), ("teasel/event.names", Rows.laid_teasel_event_names)] W ∧ handlesMet Tryd.prog [("errors.errorType", Rows.laid_errors_errorType)] W := h
  exact ⟨errT_of_laid h'.2 (List.mem_cons_self ..), nam_of_laid h'.1 (List.mem_cons_of_mem _ (List.mem_cons_of_mem _ (List.mem_cons_of_mem _ (List.mem_cons_self ..))))⟩
def listOfE : DataW Unit → List Value
  | .agg ds => ds.map fun d => match d with | .lit (.int k n) => .int k n | .lit (.string z) => .string ⟨z.toArray⟩ | _ => undef
  | _ => []
/-- A WORLD FOR THE WITNESS: the settled one, the five variables holding what they must. -/
noncomputable def laidWorldE (os : Os) : World :=
  let w0 := World.holding Tryd.prog os ⟨#[], #[], []⟩
  let put (d : DataW Unit) (o : Obj) : Obj := match o with | .cells _ t frozen => .cells (listOfE d).toArray t frozen | o => o
  { w0 with heap := ((((w0.heap.modify 1 (put Rows.laid_teasel_event_names)).modify 2 (put Rows.laid_internal_strconv_uint64pow10)).modify 3 (put Rows.laid_math_bits_deBruijn32tab)).modify 4 (put Rows.laid_math_bits_deBruijn64tab)).modify 0 fun
      | .cells _ t frozen => .cells #[.iface 99 (.agg #[.pointer (some ⟨5, 28, none⟩)])] t frozen
      | o => o }

/-! ### events -/
theorem Tryd.cellsEv : Tryd.prog.cellsOf 47 = 7 := by kernel_rfl
theorem Tryd.cellsI : Tryd.prog.cellsOf 3 = 1 := by kernel_rfl
theorem Tryd.cellsBs : Tryd.prog.cellsOf 45 = 1 := by kernel_rfl
theorem Tryd.bytesU8 : Tryd.prog.bytesOf 5 = 1 := by kernel_rfl
theorem Tryd.bytesEv : Tryd.prog.bytesOf 47 = 72 := by kernel_rfl
section
variable {H : Type} {enc : TypeId × Value → H} {P : Program} {w : World} {base : Nat} {spare : TypeId → Bool} {held : Bool}

theorem trod_struct7 {t : TypeId} {f0 f1 f2 f3 f4 f5 f6 : Field} {fuel : Nat} {cs : List Value} {x : DataW H × List MemPlace} (ht : P.underlying t = some (.struct #[f0, f1, f2, f3, f4, f5, f6])) (h : DataW.trod enc P w base spare held fuel t cs = some x) :
    ∃ y0 y1 y2 y3 y4 y5 y6 n, x.1 = .agg [y0.1, y1.1, y2.1, y3.1, y4.1, y5.1, y6.1] ∧ DataW.trod enc P w base spare held n f0.type ((cs.drop f0.offset).take (P.cellsOf f0.type)) = some y0 ∧
      DataW.trod enc P w base spare held n f1.type ((cs.drop f1.offset).take (P.cellsOf f1.type)) = some y1 ∧ DataW.trod enc P w base spare held n f2.type ((cs.drop f2.offset).take (P.cellsOf f2.type)) = some y2 ∧
      DataW.trod enc P w base spare held n f3.type ((cs.drop f3.offset).take (P.cellsOf f3.type)) = some y3 ∧ DataW.trod enc P w base spare held n f4.type ((cs.drop f4.offset).take (P.cellsOf f4.type)) = some y4 ∧
      DataW.trod enc P w base spare held n f5.type ((cs.drop f5.offset).take (P.cellsOf f5.type)) = some y5 ∧ DataW.trod enc P w base spare held n f6.type ((cs.drop f6.offset).take (P.cellsOf f6.type)) = some y6 := by
  obtain ⟨xs, n, _, rfl, hl, hlen, hf⟩ := DataW.trod_struct ht h
  match xs, hlen with
  | [y0, y1, y2, y3, y4, y5, y6], _ => exact ⟨y0, y1, y2, y3, y4, y5, y6, n, by simp, by simpa using hf 0 f0 rfl, by simpa using hf 1 f1 rfl, by simpa using hf 2 f2 rfl, by simpa using hf 3 f3 rfl, by simpa using hf 4 f4 rfl, by simpa using hf 5 f5 rfl, by simpa using hf 6 f6 rfl⟩
end

theorem weightsAll_mem {H : Type} {P : Program} {e : TypeId} {d : DataW H} : ∀ {l : List (DataW H)}, d ∈ l → ∀ z ∈ d.weights P e, z ∈ DataW.weightsAll P e l
  | [], h, _, _ => by cases h
  | x :: r, h, z, hz => by
    rw [DataW.weightsAll]
    rcases List.mem_cons.1 h with e | e
    · subst e; exact List.mem_append_left _ hz
    · exact List.mem_append_right _ (weightsAll_mem e z hz)
theorem bulk_pos {H : Type} (d : DataW H) : 1 ≤ Rows.uptoBulk d := by
  cases d with
  | lit l => cases l <;> simp [Rows.uptoBulk]
  | _ => simp [Rows.uptoBulk]
theorem bulk_len {H : Type} : ∀ l : List (DataW H), l.length ≤ Rows.uptoBulkAll l
  | [] => Nat.zero_le _
  | d :: r => by
    have h1 := bulk_pos d
    have h2 := bulk_len r
    simp only [Rows.uptoBulkAll, List.length_cons]
    omega
theorem bulk_append {H : Type} : ∀ l r : List (DataW H), Rows.uptoBulkAll (l ++ r) = Rows.uptoBulkAll l + Rows.uptoBulkAll r
  | [], r => by simp [Rows.uptoBulkAll]
  | d :: l, r => by simp only [List.cons_append, Rows.uptoBulkAll, bulk_append l r]; omega
/-- What a reading of bytes among cells tells. -/
theorem bytes_of_trod_b {H : Type} {enc : TypeId × Value → H} {W : World} {fuel : Nat} {cs : List Value} {x : DataW H × List MemPlace} (hf : DataW.trod enc Tryd.prog W 0 (fun _ => true) true fuel 45 cs = some x) :
    ∃ A n c xs, cs = [.slice A n c] ∧ Rd8 W A xs ∧ xs.length = n ∧ n ≤ c ∧ c ≤ maxLen ∧ (∀ ad, A = some ad → 0 < n → ad.block < W.heap.size) ∧ ((∀ z ∈ x.1.weights Tryd.prog 45, z ≤ reachBytes) → n ≤ reachBytes) ∧ n + 1 ≤ Rows.uptoBulk x.1 := by
  rcases open_ints Tryd.underlying45 Tryd.underlying5 Tryd.cellsU8 hf with ⟨hcs, hx⟩ | ⟨a, n, c, zs, hcs, _, hl, hm, hz, hx, hcell, hwz⟩
  · exact ⟨none, 0, 0, [], hcs, Rd8.nil _ _, rfl, Nat.le_refl _, Nat.zero_le _, fun ad e => (by cases e), fun _ => Nat.zero_le _, bulk_pos _⟩
  · simp only [if_true] at hz
    have hcl : ∀ j, j < n → (a.spot = none ∧ W.cell? ⟨a.block, a.off + j, none⟩ = some (.int .u8 (((zs.take n).map fun z => UInt8.ofNat z.toNat).getD j 0).toNat)) := by
      intro j hj
      have h0 := hcell j (by omega)
      have hsp := World.cell?_spot h0
      obtain ⟨b, o, sp⟩ := a
      have hsp0 : sp = none := by
        have := World.cell?_spot (hcell 0 (by omega))
        simpa [Addr.add] using this
      subst hsp0
      refine ⟨rfl, ?_⟩
      rw [add_at] at h0
      rw [h0]
      have hw := bounds_u8 (hwz (zs.getD j 0) (by simp [List.getD, show j < zs.length by omega]))
      have e : ((zs.take n).map fun z => UInt8.ofNat z.toNat).getD j 0 = UInt8.ofNat (zs.getD j 0).toNat := by
        simp [List.getD, show j < n from hj, show j < zs.length by omega]
      rw [e, UInt8.toNat_ofNat', Nat.mod_eq_of_lt (by omega)]
      congr 2
      omega
    refine ⟨some a, n, c, (zs.take n).map fun z => UInt8.ofNat z.toNat, hcs, fun h0 => ⟨a, rfl, ?_, fun j hj => ?_⟩, by simp; omega, hl, hm, fun ad e h0 => ?_, fun hw => ?_, ?_⟩
    · simp at h0; exact (hcl 0 (by omega)).1
    · simp at hj
      have := (hcl j (by omega)).2
      simpa [List.getD, show j < n by omega, show j < zs.length by omega] using this
    · injection e with e
      subst e
      have := World.block_lt_of_cell? W _ (hcl 0 h0).2
      exact this
    · subst hx
      have hw0 := hw ((lits (H := H) .u8 (zs.take n)).length + (lits (H := H) .u8 (zs.drop n)).length) (by simp [DataW.weights, Tryd.underlying45, Tryd.bytesU8])
      simp [lits] at hw0
      omega
    · subst hx
      have h9 := bulk_len (lits (H := H) .u8 (zs.take n))
      simp only [Rows.uptoBulk]
      simp [lits] at h9
      simp [lits] at *
      omega


/-- One event among cells. -/
theorem ev_trod {H : Type} {enc : TypeId × Value → H} {W : World} {fuel : Nat} {v0 v1 v2 v3 v4 v5 v6 : Value} {x : DataW H × List MemPlace} (hf : DataW.trod enc Tryd.prog W 0 (fun _ => true) true fuel 47 [v0, v1, v2, v3, v4, v5, v6] = some x)
    (hwt : ∀ z ∈ x.1.weights Tryd.prog 47, z ≤ reachBytes) : ∃ q : VL, [v0, v1, v2, v3, v4, v5, v6] = q.cells ∧ RdV W (fun k => k < W.heap.size) q := by
  obtain ⟨y0, y1, y2, y3, y4, y5, y6, j, hxy, u0, u1, u2, u3, u4, u5, u6⟩ := trod_struct7 Tryd.underlying47 hf
  simp only [Tryd.cellsI, Tryd.cellsBs, List.drop, List.take] at u0 u1 u2 u3 u4 u5 u6
  obtain ⟨z0, e0, _, w0⟩ := DataW.trod_int Tryd.underlying3 u0
  obtain ⟨z1, e1, _, w1⟩ := DataW.trod_int Tryd.underlying3 u1
  obtain ⟨z2, e2, _, w2⟩ := DataW.trod_int Tryd.underlying3 u2
  obtain ⟨z3, e3, _, w3⟩ := DataW.trod_int Tryd.underlying3 u3
  obtain ⟨z4, e4, _, w4⟩ := DataW.trod_int Tryd.underlying3 u4
  obtain ⟨z5, e5, _, w5⟩ := DataW.trod_int Tryd.underlying3 u5
  obtain ⟨A2, n2, c2, xs, e6, r1, r2, r3, r4, r5, r6, r8⟩ := bytes_of_trod_b u6
  simp only [List.cons.injEq, and_true] at e0 e1 e2 e3 e4 e5 e6
  subst e0; subst e1; subst e2; subst e3; subst e4; subst e5; subst e6
  have r7 := r6 (fun z hz => hwt z (by
    rw [hxy]
    simp only [DataW.weights, Tryd.underlying47, DataW.weightsEach]
    simp [DataW.weightsEach, hz]))
  subst r2
  unfold reachBytes at r7
  exact ⟨⟨⟨z0, z1, z2, z3, z4, z5, xs⟩, A2, c2⟩, rfl, r1, { k := bounds_i64 w0, a := bounds_i64 w1, r := bounds_i64 w2, i := bounds_i64 w3, l := bounds_i64 w4, n := bounds_i64 w5, d := by simp only; omega }, r5⟩

theorem list_seven {l : List Value} (h : l.length = 7) : ∃ a b c d e f g, l = [a, b, c, d, e, f, g] := by
  match l, h with
  | [a, b, c, d, e, f, g], _ => exact ⟨a, b, c, d, e, f, g, rfl⟩
set_option maxRecDepth 100000 in
theorem evs_trod {H : Type} {enc : TypeId × Value → H} {W : World} {fuel : Nat} {cs : List Value} {x : DataW H × List MemPlace} (hf : DataW.trod enc Tryd.prog W 0 (fun _ => true) true fuel 22 cs = some x)
    (hwt : ∀ z ∈ x.1.weights Tryd.prog 22, z ≤ reachBytes) :
    ∃ A n c ps, cs = [.slice A n c] ∧ Vs W A n ps (fun k => k < W.heap.size) ∧ n ≤ c ∧ c ≤ maxLen ∧ n ≤ 4398046511104 := by
  rcases open_slice Tryd.underlying22 hf with ⟨hcs, hx⟩ | ⟨a, n, cap, m, k, D, Pl, hcs, _, hl, hm, hmm, hx, hall⟩
  · exact ⟨none, 0, 0, [], hcs, Vs.nil _ _ _, Nat.le_refl _, Nat.zero_le _, by omega⟩
  · simp only [if_true] at hmm
    subst hmm
    subst hx
    have hn : n ≤ 4398046511104 := by
      have := hwt _ (by simp only [DataW.weights, Tryd.underlying22, Tryd.bytesEv]; exact List.mem_cons_self ..)
      unfold reachBytes at this
      simp at this
      omega
    have hwi : ∀ i, i < n → ∀ z ∈ (D i).weights Tryd.prog 47, z ≤ reachBytes := fun i hi z hz => hwt z (by
      simp only [DataW.weights, Tryd.underlying22]
      refine List.mem_cons_of_mem _ (List.mem_append_left _ (weightsAll_mem (List.mem_map.2 ⟨i, List.mem_range.2 hi, rfl⟩) z hz)))
    have hsp0 : 0 < n → a.spot = none := fun h0 => by
      obtain ⟨cs', h1, _⟩ := hall 0 (by omega)
      rw [Tryd.cellsEv] at h1
      obtain ⟨_, hlen, hcell⟩ := World.cells?_some h1
      have h7 := World.cell?_spot ((hcell 0 (by omega)).trans (List.getElem?_eq_getElem (by omega)))
      simpa [Addr.add] using h7
    have each : ∀ i, i < n → ∃ q : VL, (∀ j u, q.cells[j]? = some u → W.cell? ⟨a.block, a.off + (i * 7 + j), none⟩ = some u) ∧ RdV W (fun k => k < W.heap.size) q := by
      intro i hi
      obtain ⟨cs', h1, h2⟩ := hall i (by omega)
      rw [Tryd.cellsEv] at h1
      obtain ⟨_, hlen, hcell⟩ := World.cells?_some h1
      obtain ⟨v0, v1, v2, v3, v4, v5, v6, rfl⟩ := list_seven hlen
      obtain ⟨q, hq, hr⟩ := ev_trod h2 (hwi i hi)
      refine ⟨q, fun j u hu => ?_, hr⟩
      have hj : j < 7 := by
        have := (List.getElem?_eq_some_iff.1 hu).1
        rw [VL.cells_len] at this; exact this
      have c0 := hcell j hj
      rw [hq, hu] at c0
      have hsp : a.spot = none := hsp0 (by omega)
      obtain ⟨bl, o, sp⟩ := a
      cases hsp
      rw [add_add, add_at] at c0
      exact c0
    obtain ⟨q, hq⟩ := choose_lt each
    refine ⟨some a, n, m, (List.range n).map q, hcs, ⟨by simp, fun h0 => ?_, fun p hp => ?_⟩, hl, hm, hn⟩
    · have hsp := hsp0 h0
      have hc0 := (hq 0 h0).1 0 _ rfl
      obtain ⟨bl, o, sp⟩ := a
      cases hsp
      refine ⟨bl, o, rfl, World.block_lt_of_cell? W _ hc0, fun j u hu => ?_⟩
      have hj : j < n * 7 := by
        have := (List.getElem?_eq_some_iff.1 hu).1
        rw [vlc_len] at this
        simpa using this
      have e := vlc_at (ps := (List.range n).map q) (i := j / 7) (j := j % 7) (by simp; omega) (by omega)
      rw [show j / 7 * 7 + j % 7 = j by omega, hu] at e
      have e2 : ((List.range n).map q).getD (j / 7) default = q (j / 7) := by simp [List.getD, show j / 7 < n by omega]
      rw [e2] at e
      have := (hq (j / 7) (by omega)).1 (j % 7) u e.symm
      rw [show j / 7 * 7 + j % 7 = j by omega] at this
      exact this
    · obtain ⟨i, hi, rfl⟩ := List.mem_map.1 hp
      exact (hq i (List.mem_range.1 hi)).2
set_option maxRecDepth 100000 in
theorem open_evs {H : Type} {enc : TypeId × Value → H} {W : World} {base : Nat} {v : Value} {d : DataW H} {ps : List MemPlace} (hval : Value.okWide Tryd.prog W .any base 22 v) (h : DataW.Trod enc Tryd.prog W 0 (fun _ => true) true 22 v d ps)
    (hwt : ∀ z ∈ d.weights Tryd.prog 22, z ≤ reachBytes) :
    ∃ A n c ps, v = .slice A n c ∧ Vs W A n ps (fun k => k < W.heap.size) ∧ n ≤ c ∧ c ≤ maxLen ∧ n ≤ 4398046511104 := by
  obtain ⟨A, n, c, rfl⟩ := okWide_slice Tryd.underlying22 hval
  obtain ⟨fuel, hf⟩ := h
  obtain ⟨A', n', c', ps', e, h1⟩ := evs_trod hf hwt
  simp [Value.cells] at e
  obtain ⟨rfl, rfl, rfl⟩ := e
  exact ⟨A, n, c, ps', rfl, h1⟩
set_option maxRecDepth 100000 in
theorem open_ev {H : Type} {enc : TypeId × Value → H} {W : World} {base : Nat} {v : Value} {d : DataW H} {ps : List MemPlace} (hval : Value.okWide Tryd.prog W .any base 47 v) (h : DataW.Trod enc Tryd.prog W 0 (fun _ => true) true 47 v d ps)
    (hwt : ∀ z ∈ d.weights Tryd.prog 47, z ≤ reachBytes) : ∃ q : VL, v = q.val ∧ RdV W (fun k => k < W.heap.size) q := by
  obtain ⟨cs, rfl, hsz⟩ := okWide_struct Tryd.underlying47 hval
  obtain ⟨fuel, hf⟩ := h
  rw [Tryd.cellsEv] at hsz
  obtain ⟨cs⟩ := cs
  simp only [Value.cells, List.size_toArray] at hf hsz
  obtain ⟨v0, v1, v2, v3, v4, v5, v6, rfl⟩ := list_seven hsz
  obtain ⟨q, hq, hr⟩ := ev_trod hf hwt
  exact ⟨q, by unfold VL.val; rw [← hq], hr⟩
end Go.Proofs.YtbopmboigcdjpaaDoor
