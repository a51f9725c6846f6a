/- slices.IndexFunc and slices.DeleteFunc of packets under a closure. -/
import Derived.Test.YtmlckocgahfnkaaNm
namespace Go.Proofs.Ytmlckocgahfnkaa
open Go.RowKit

/-- The packet as the closure gets it. -/
def PL.agg (p : PL) : Value := .agg #[.int .i64 p.pk.fr, .int .i64 p.pk.to, .int .i64 (p.pk.n : Int), p.fn]
/-- In each world that differs from w in block b alone the closure says t of each packet. -/
def Says (w : World) (b : Nat) (F : FuncId) (caps : Array Value) (ps : List PL) (t : PL → Bool) : Prop :=
  (∀ args (W : World), (callFunc F args).run Try.prog W = .ok (.enter F args) W) ∧ ∀ W, Fr (fun k => k = b) w W → ∀ p ∈ ps, Calls Try.prog F (#[p.agg] ++ caps) W fun e w' => e = .returned (.bool (t p)) ∧ Fr (fun _ => False) W w'
theorem Says.fr {w W : World} {b : Nat} {F : FuncId} {caps : Array Value} {ps : List PL} {t : PL → Bool} (h : Says w b F caps ps t) (hf : Fr (fun k => k = b) w W) : Says W b F caps ps t :=
  ⟨h.1, fun W' hf' => h.2 W' (hf.trans hf' (fun _ _ h => h))⟩

/-- What IndexFunc says. -/
def Idx (ps : List PL) (t : PL → Bool) (r : Int) : Prop := (r = -1 ∧ ∀ p ∈ ps, t p = false) ∨ ∃ i : Nat, r = i ∧ i < ps.length ∧ t (ps.getD i default) = true ∧ ∀ k, k < i → t (ps.getD k default) = false

set_option maxRecDepth 100000 in
set_option maxHeartbeats 4000000 in
theorem index_any (A : Option Addr) (n c bb : Nat) (ps : List PL) (t : PL → Bool) (F : FuncId) (caps : Array Value) (w : World) (h : Row w 67 4 (.slice A n c) n (plc ps)) (hl : ps.length = n) (hn : n ≤ 1048576) (hs : Says w bb F caps ps t) :
    Calls Try.prog 48 #[.slice A n c, .func (.func F) #[] caps] w fun e w' => ∃ r, e = .returned (.int .i64 r) ∧ Idx ps t r ∧ Fr (fun _ => False) w w' := by
  obtain ⟨A', c', e0, hlc, hcm, hA⟩ := h.form
  injection e0 with e1 _ e3
  subst e1 e3
  have hcf := hs.1
  have H := Lib.hid h
  have HS := Lib.hid hs
  have HA := Lib.hid hA
  have HL := Lib.hid hl
  have hnb : (n : Int) ≤ 1048576 := by omega
  clear h hs hA hlc hcm hl
  go_enter Try.func48, Try.ntmps48
  go_wp2_with fail
  go_loopw [8] (fun u wr => ∃ k : Nat, u = .int .i64 (k : Int) ∧ k ≤ n ∧ (∀ j, j < k → t (ps.getD j default) = false) ∧ Fr (fun _ => False) w wr) (fun u _ => n - (intOf u).toNat)
  case atStart => exact ⟨0, rfl, Nat.zero_le _, fun j hj => absurd hj (Nat.not_lt_zero _), Fr.refl _ _⟩
  case round =>
    obtain ⟨k, rfl, hk, hall, hf⟩ := hrel
    have hk0 : (0 : Int) ≤ (k : Int) := by omega
    have HALL := Lib.hid hall
    have HF := Lib.hid hf
    clear hall hf
    by_cases hlt : k < n
    · have hlt' : (k : Int) < n := by omega
      have hkp : k < ps.length := by rw [HL.out]; exact hlt
      obtain ⟨b, off, rfl⟩ := HA.out (by omega)
      obtain ⟨e0, e1, e2, e3⟩ := (H.out.fr0 HF.out).at4 (i := k) (fun j hj => plc_at hkp hj)
      have C := Lib.hid (HS.out.2 wr (HF.out.mono (fun _ _ h => h.elim)) _ (getD_mem hkp))
      obtain ⟨q, hq⟩ : ∃ q, t (ps.getD k default) = q := ⟨_, rfl⟩
      rw [hq] at C
      unfold PL.agg at C
      obtain ⟨p, hp⟩ : ∃ p, ps.getD k default = p := ⟨_, rfl⟩
      have HP := Lib.hid hp
      rw [hp] at e0 e1 e2 e3 C hq
      have HQ := Lib.hid hq
      have HKP := Lib.hid hkp
      clear hq hkp hp
      cases q with
      | true =>
        go_wp2_with fail
        refine C.out.mono ?_; rintro e w1 ⟨rfl, hf1⟩
        have HF1 := Lib.hid hf1
        clear hf1
        go_wp2
        go_ret
        exact ⟨_, rfl, .inr ⟨k, rfl, HKP.out, by rw [← HQ.out, ← HP.out], HALL.out⟩, HF.out.trans HF1.out (fun _ _ h => h)⟩
      | false =>
        go_wp2_with fail
        refine C.out.mono ?_; rintro e w1 ⟨rfl, hf1⟩
        have HF1 := Lib.hid hf1
        clear hf1
        go_wp2
        refine ⟨⟨k + 1, by simp, by omega, fun j hj => ?_, HF.out.trans HF1.out (fun _ _ h => h)⟩, ?_⟩
        · by_cases e : j = k
          · rw [e, ← HQ.out, ← HP.out]
          · exact HALL.out j (by omega)
        · first | omega | (show _ < _; simp [intOf]; omega)
    · obtain rfl : k = n := by omega
      go_wp2
      go_ret
      refine ⟨_, rfl, .inl ⟨rfl, fun p hp => ?_⟩, HF.out⟩
      obtain ⟨j, hj, rfl⟩ := List.getElem_of_mem hp
      have := HALL.out j (by have := HL.out; omega)
      rw [show ps.getD j default = ps[j] by simp [List.getD, hj]] at this
      exact this

theorem run_clearR {w : World} {b off m c : Nat} {cur : Array Value} (hb : Bk w b 67 cur) (h0 : 0 < m) (hfit : off + m * 4 ≤ cur.size) (ty : TypeId) :
    ∃ zs : List Value, zs.length = m * 4 ∧ (Builtin.clear_ #[57] ty #[.slice (some ⟨b, off, none⟩) m c]).run Try.prog w = .ok (.tuple #[]) (w.setCells b off zs) := by
  have hz : (zeroValue 67).run Try.prog w = .ok (.agg #[.int .i64 0, .int .i64 0, .int .i64 0, .nilFunc]) w := by simp [go_sem]
  obtain ⟨k, rfl⟩ : ∃ k, m = k + 1 := ⟨m - 1, by omega⟩
  have hl : (Builtin.zeroCells (Value.agg #[.int .i64 0, .int .i64 0, .int .i64 0, .nilFunc]).cells (k + 1)).toList.length = (k + 1) * 4 := by
    rw [Array.length_toList, size_zeroCells]; rfl
  have h1 : ∀ u ∈ (Builtin.zeroCells (Value.agg #[.int .i64 0, .int .i64 0, .int .i64 0, .nilFunc]).cells (k + 1)).toList, u.oneCell' = true := by
    intro u hu
    simp only [Builtin.zeroCells, Array.toList_map, List.mem_map] at hu
    obtain ⟨i, _, rfl⟩ := hu
    have hi : i % (Value.agg #[.int .i64 0, .int .i64 0, .int .i64 0, .nilFunc]).cells.size < 4 := Nat.mod_lt _ (by decide)
    generalize i % (Value.agg #[.int .i64 0, .int .i64 0, .int .i64 0, .nilFunc]).cells.size = j at hi
    match j, hi with
    | 0, _ => rfl
    | 1, _ => rfl
    | 2, _ => rfl
    | 3, _ => rfl
  refine ⟨_, hl, ?_⟩
  have hst := run_storeCells_cells (P := Try.prog) b off _ 0 w (fun j hj => hb.there (by rw [hl] at hj; omega)) (fun j hj => hb.frozen _) h1
  simp only [Nat.add_zero] at hst
  simp [Builtin.clear_, run_underlying Try.underlying57, hz, hst]

/-- What is kept of the first j. -/
def keptN (ps : List PL) (t : PL → Bool) (j : Nat) : List PL := (ps.take j).filter fun p => !t p
theorem keptN_yes {ps : List PL} {t : PL → Bool} {j : Nat} (hj : j < ps.length) (ht : t (ps.getD j default) = true) : keptN ps t (j + 1) = keptN ps t j := by
  unfold keptN; rw [take_succ_getD hj, List.filter_append]; generalize ps.getD j default = p at ht ⊢; simp [ht]
theorem keptN_no {ps : List PL} {t : PL → Bool} {j : Nat} (hj : j < ps.length) (ht : t (ps.getD j default) = false) : keptN ps t (j + 1) = keptN ps t j ++ [ps.getD j default] := by
  unfold keptN; rw [take_succ_getD hj, List.filter_append]; generalize ps.getD j default = p at ht ⊢; simp [ht]
theorem keptN_all {ps : List PL} {t : PL → Bool} : ∀ j, j ≤ ps.length → (∀ k, k < j → t (ps.getD k default) = false) → keptN ps t j = ps.take j
  | 0, _, _ => by simp [keptN]
  | j + 1, hj, h => by
    rw [keptN_no (by omega) (h j (by omega)), keptN_all j (by omega) (fun k hk => h k (by omega)), ← take_succ_getD (by omega)]
/-- The row under way: i are kept of the first j, the others are as they were. -/
structure Del (w wr : World) (b off n : Nat) (cur : Array Value) (ps : List PL) (t : PL → Bool) (i j : Nat) : Prop where
  fr : Fr (fun k => k = b) w wr
  len : (keptN ps t j).length = i
  row : ∃ cur', Bk wr b 67 cur' ∧ cur'.size = cur.size ∧ (∀ x, x < i * 4 → cur'[off + x]? = (plc (keptN ps t j))[x]?) ∧ ∀ x, j * 4 ≤ x → x < n * 4 → cur'[off + x]? = (plc ps)[x]?
theorem Del.fr0 {w wr w' : World} {b off n : Nat} {cur : Array Value} {ps : List PL} {t : PL → Bool} {i j : Nat} (h : Del w wr b off n cur ps t i j) (hf : Fr (fun _ => False) wr w') : Del w w' b off n cur ps t i j := by
  obtain ⟨h1, h2, cur', h3, h4⟩ := h
  exact ⟨h1.trans hf (fun _ _ h => h.elim), h2, cur', h3.fr hf (fun h => h), h4⟩
theorem Del.skip {w wr : World} {b off n : Nat} {cur : Array Value} {ps : List PL} {t : PL → Bool} {i j : Nat} (h : Del w wr b off n cur ps t i j) (hj : j < ps.length) (ht : t (ps.getD j default) = true) : Del w wr b off n cur ps t i (j + 1) := by
  obtain ⟨h1, h2, cur', h3, h4, h5, h6⟩ := h
  refine ⟨h1, by rw [keptN_yes hj ht]; exact h2, cur', h3, h4, by rw [keptN_yes hj ht]; exact h5, fun x hx hn => h6 x (by omega) hn⟩
theorem Del.put {w wr : World} {b off n : Nat} {cur : Array Value} {ps : List PL} {t : PL → Bool} {i j : Nat} {p : PL} (h : Del w wr b off n cur ps t i j) (hij : i < j) (hn : ps.length = n) (hj : j < n) (hp : ps.getD j default = p) (ht : t p = false) (hfit : off + n * 4 ≤ cur.size) :
    Del w ((((wr.setCell ⟨b, off + i * 4, none⟩ (.int .i64 p.pk.fr)).setCell ⟨b, off + i * 4 + 1, none⟩ (.int .i64 p.pk.to)).setCell ⟨b, off + i * 4 + 2, none⟩ (.int .i64 (p.pk.n : Int))).setCell ⟨b, off + i * 4 + 3, none⟩ p.fn) b off n cur ps t (i + 1) (j + 1) := by
  obtain ⟨h1, h2, cur', h3, h4, h5, h6⟩ := h
  have hk := keptN_no (ps := ps) (t := t) (j := j) (by omega) (by rw [hp]; exact ht)
  rw [hp] at hk
  have hi4 : i * 4 + 4 ≤ n * 4 := by omega
  have e1 : (plc (keptN ps t j)).length = i * 4 := by rw [plc_len, h2]
  have e2 : p.cells.length = 4 := rfl
  refine ⟨h1.trans ((((Bk.fr_set _ _).set _ _).set _ _).set _ _) (fun _ _ h => h), by rw [hk]; simp [h2], lay cur' (off + i * 4) p.cells, (((h3.set _ (.int .i64 p.pk.fr)).set _ (.int .i64 p.pk.to)).set _ (.int .i64 (p.pk.n : Int))).set _ p.fn, by rw [lay_size]; exact h4, fun x hx => ?_, fun x hx hxn => ?_⟩
  · have e3 : plc (keptN ps t (j + 1)) = plc (keptN ps t j) ++ p.cells := by rw [hk]; simp [plc]
    rw [e3]
    by_cases hx0 : x < i * 4
    · rw [lay_out _ _ _ _ (.inl (by omega)), h5 x hx0, List.getElem?_append_left (by omega)]
    · rw [List.getElem?_append_right (by omega), e1, show off + x = off + i * 4 + (x - i * 4) by omega, lay_in _ _ _ _ (by omega) (by omega)]
  · rw [lay_out _ _ _ _ (.inr (by omega))]
    exact h6 x (by omega) hxn
theorem Del.four {w wr : World} {b off n : Nat} {cur : Array Value} {ps : List PL} {t : PL → Bool} {i j : Nat} {p : PL} (h : Del w wr b off n cur ps t i j) (hn : ps.length = n) (hj : j < n) (hp : ps.getD j default = p) :
    wr.cell? ⟨b, off + j * 4, none⟩ = some (.int .i64 p.pk.fr) ∧ wr.cell? ⟨b, off + j * 4 + 1, none⟩ = some (.int .i64 p.pk.to) ∧ wr.cell? ⟨b, off + j * 4 + 2, none⟩ = some (.int .i64 (p.pk.n : Int)) ∧ wr.cell? ⟨b, off + j * 4 + 3, none⟩ = some p.fn := by
  obtain ⟨h1, h2, cur', h3, h4, h5, h6⟩ := h
  have c : ∀ k, k < 4 → wr.cell? ⟨b, off + j * 4 + k, none⟩ = p.cells[k]? := fun k hk => by
    rw [h3.cell, Nat.add_assoc, h6 (j * 4 + k) (by omega) (by omega), plc_at (by omega) hk, hp]
  exact ⟨c 0 (by omega), c 1 (by omega), c 2 (by omega), c 3 (by omega)⟩
theorem Del.there {w wr : World} {b off n : Nat} {cur : Array Value} {ps : List PL} {t : PL → Bool} {i j : Nat} (h : Del w wr b off n cur ps t i j) (hi : i < n) (hfit : off + n * 4 ≤ cur.size) :
    (∃ v0 v1 v2 v3, wr.cell? ⟨b, off + i * 4, none⟩ = some v0 ∧ wr.cell? ⟨b, off + i * 4 + 1, none⟩ = some v1 ∧ wr.cell? ⟨b, off + i * 4 + 2, none⟩ = some v2 ∧ wr.cell? ⟨b, off + i * 4 + 3, none⟩ = some v3) ∧
      wr.frozen? ⟨b, off + i * 4, none⟩ = false ∧ wr.frozen? ⟨b, off + i * 4 + 1, none⟩ = false ∧ wr.frozen? ⟨b, off + i * 4 + 2, none⟩ = false ∧ wr.frozen? ⟨b, off + i * 4 + 3, none⟩ = false := by
  obtain ⟨h1, h2, cur', h3, h4, h5, h6⟩ := h
  obtain ⟨v0, s0⟩ := Option.isSome_iff_exists.1 (h3.there (i := off + i * 4) (by omega))
  obtain ⟨v1, s1⟩ := Option.isSome_iff_exists.1 (h3.there (i := off + i * 4 + 1) (by omega))
  obtain ⟨v2, s2⟩ := Option.isSome_iff_exists.1 (h3.there (i := off + i * 4 + 2) (by omega))
  obtain ⟨v3, s3⟩ := Option.isSome_iff_exists.1 (h3.there (i := off + i * 4 + 3) (by omega))
  exact ⟨⟨v0, v1, v2, v3, s0, s1, s2, s3⟩, h3.frozen _, h3.frozen _, h3.frozen _, h3.frozen _⟩

set_option maxRecDepth 100000 in
set_option maxHeartbeats 4000000 in
theorem deletef_some (b off n c : Nat) (ps : List PL) (t : PL → Bool) (F : FuncId) (caps : Array Value) (w : World) (h : Row w 67 4 (.slice (some ⟨b, off, none⟩) n c) n (plc ps)) (hl : ps.length = n) (hn : n ≤ 1048576) (hs : Says w b F caps ps t) :
    Calls Try.prog 42 #[.slice (some ⟨b, off, none⟩) n c, .func (.func F) #[] caps] w fun e w' => ∃ k, e = .returned (.slice (some ⟨b, off, none⟩) k c) ∧ k = (ps.filter fun p => !t p).length ∧ Row w' 67 4 (.slice (some ⟨b, off, none⟩) k c) k (plc (ps.filter fun p => !t p)) ∧ Fr (fun x => x = b) w w' := by
  have CI := Lib.hid (index_any (some ⟨b, off, none⟩) n c b ps t F caps w h hl hn hs)
  have hcf := hs.1
  obtain ⟨hlen, hh⟩ := h
  rcases hh with ⟨e, _⟩ | ⟨b', off', cap, cur, e, hb, hnc, hcm, hsz, hc⟩
  · cases e
  injection e with e1 _ e3
  injection e1 with e1
  injection e1 with e1 e4
  subst e1 e4 e3
  unfold maxLen at hcm
  have hnc4 : n * 4 ≤ c * 4 := Nat.mul_le_mul_right _ hnc
  have HS := Lib.hid hs
  have HL := Lib.hid hl
  have HB := Lib.hid hb
  have HC := Lib.hid hc
  have HLEN := Lib.hid hlen
  have HSZ := Lib.hid hsz
  have HFIT := Lib.hid (show off + n * 4 ≤ cur.size by omega)
  have hnb : (n : Int) ≤ 1048576 := by omega
  have hcm' : (c : Int) ≤ 9223372036854775807 := by omega
  clear hs hb hc hlen hl hsz hnc4
  go_enter Try.func42, Try.ntmps42
  go_wp2_with fail
  refine CI.out.mono ?_; rintro e w1 ⟨r, rfl, hr, hf1⟩
  rcases hr with ⟨rfl, hr⟩ | ⟨i0, rfl, hi0, hr1, hr2⟩
  · have HR := Lib.hid hr
    have HF1 := Lib.hid hf1
    clear hr hf1 CI
    go_wp2
    go_ret
    have e0 : ps.filter (fun p => !t p) = ps := by rw [List.filter_eq_self]; intro p hp; simp [HR.out p hp]
    rw [e0]
    exact ⟨n, rfl, HL.out.symm, ⟨HLEN.out, .inr ⟨b, off, c, cur, rfl, HB.out.fr HF1.out (fun h => h), hnc, by unfold maxLen; omega, HSZ.out, HC.out⟩⟩, HF1.out.mono (fun _ _ h => h.elim)⟩
  · have hd : Del w w1 b off n cur ps t i0 (i0 + 1) := by
      have hk := keptN_yes (ps := ps) (t := t) hi0 hr1
      have hk2 := keptN_all (ps := ps) (t := t) i0 (by omega) hr2
      refine ⟨hf1.mono (fun _ _ h => h.elim), by rw [hk, hk2, List.length_take]; omega, cur, HB.out.fr hf1 (fun h => h), rfl, fun x hx => ?_, fun x hx hn' => HC.out x (by rw [HLEN.out]; exact hn')⟩
      rw [hk, hk2, HC.out x (by rw [HLEN.out]; have := HL.out; omega)]
      unfold plc
      rw [← flat_take PL.cells_len, List.getElem?_take, if_pos hx]
    have HD := Lib.hid hd
    have hi0n : i0 < n := by have := HL.out; omega
    have hi0I : (0 : Int) ≤ (i0 : Int) := by omega
    have hneg : ((i0 : Int) == -1) = false := by rw [beq_eq_false_iff_ne]; omega
    have hneg2 : ¬ ((i0 : Int) = -1) := by omega
    clear hd hf1 hr1 hr2 hi0 CI
    go_wp2_with fail
    go_loopw [5, 6] (fun u v wr => ∃ i j : Nat, u = .int .i64 (i : Int) ∧ v = .int .i64 (j : Int) ∧ i < j ∧ j ≤ n ∧ Del w wr b off n cur ps t i j) (fun _ v _ => n - (intOf v).toNat)
    case atStart => exact ⟨i0, i0 + 1, rfl, by simp, by omega, by omega, HD.out⟩
    case round =>
      obtain ⟨i, j, rfl, rfl, hij, hjn, hd⟩ := hrel
      have HDD := Lib.hid hd
      have hi0' : (0 : Int) ≤ (i : Int) := by omega
      have hj0 : (0 : Int) ≤ (j : Int) := by omega
      by_cases hlt : j < n
      · have hlt' : (j : Int) < n := by omega
        obtain ⟨p, hp⟩ : ∃ p, ps.getD j default = p := ⟨_, rfl⟩
        obtain ⟨e0, e1, e2, e3⟩ := hd.four HL.out hlt hp
        have hpm : p ∈ ps := by rw [← hp]; exact getD_mem (by rw [HL.out]; exact hlt)
        obtain ⟨cp, hcp⟩ : ∃ cp, p.fn = .func (.func 44) #[] cp := ⟨_, rfl⟩
        rw [hcp] at e3
        have fa : Fr (fun _ => False) wr (wr.alloc (.cells #[.int .i64 p.pk.fr, .int .i64 p.pk.to, .int .i64 (p.pk.n : Int), .func (.func 44) #[] cp] 67)) := (Fr.refl _ _).alloc _
        have C := Lib.hid (HS.out.2 _ (hd.fr.trans fa (fun _ _ h => h.elim)) p hpm)
        unfold PL.agg at C
        rw [hcp] at C
        obtain ⟨q, hq⟩ : ∃ q, t p = q := ⟨_, rfl⟩
        rw [hq] at C
        have HQ := Lib.hid hq
        have HP := Lib.hid hp
        have HCP := Lib.hid hcp
        have FA := Lib.hid fa
        have hin : (i : Int) < (n : Int) := by omega
        have ka := Lib.hid (Bk.new wr 67 #[.int .i64 p.pk.fr, .int .i64 p.pk.to, .int .i64 (p.pk.n : Int), .func (.func 44) #[] cp])
        clear hd hp hcp hq hpm fa
        cases q with
        | true =>
          go_wp2_with fail
          refine C.out.mono ?_; rintro e w1 ⟨rfl, hf1⟩
          have HF1 := Lib.hid (FA.out.trans hf1 (fun _ _ h => h))
          clear hf1 C
          go_wp2
          refine ⟨⟨i, j + 1, rfl, by simp, by omega, by omega, (HDD.out.fr0 HF1.out).skip (by have := HL.out; omega) (by rw [HP.out]; exact HQ.out)⟩, ?_⟩
          first | omega | (show _ < _; simp [intOf]; omega)
        | false =>
          go_wp2_with fail
          refine C.out.mono ?_; rintro e w1 ⟨rfl, hf1⟩
          have hd1 := HDD.out.fr0 (FA.out.trans hf1 (fun _ _ h => h))
          obtain ⟨⟨v0, v1, v2, v3, s0, s1, s2, s3⟩, t0, t1, t2, t3⟩ := hd1.there (by omega) HFIT.out
          have kb := ka.out.fr hf1 (fun h => h)
          have p0 : w1.cell? ⟨wr.heap.size, 0, none⟩ = some (.int .i64 p.pk.fr) := kb.cell 0
          have p1 : w1.cell? ⟨wr.heap.size, 1, none⟩ = some (.int .i64 p.pk.to) := kb.cell 1
          have p2 : w1.cell? ⟨wr.heap.size, 2, none⟩ = some (.int .i64 (p.pk.n : Int)) := kb.cell 2
          have p3 : w1.cell? ⟨wr.heap.size, 3, none⟩ = some (.func (.func 44) #[] cp) := kb.cell 3
          have HD1 := Lib.hid hd1
          clear hf1 C hd1 kb e0 e1 e2 e3
          go_wp2
          have hput := HD1.out.put hij HL.out hlt HP.out HQ.out HFIT.out
          rw [HCP.out] at hput
          refine ⟨⟨i + 1, j + 1, by simp, by simp, by omega, by omega, hput⟩, ?_⟩
          first | omega | (show _ < _; simp [intOf]; omega)
      · obtain rfl : j = n := by omega
        have hin : (i : Int) ≤ (j : Int) := by omega
        have hic : (i : Int) ≤ (c : Int) := by omega
        have hci : ¬ (c = i) := by omega
        obtain ⟨h1, h2, cur', h3, h4, h5, _⟩ := hd
        obtain ⟨zs, hz1, hz2⟩ := run_clearR (w := wr) (b := b) (off := off + i * 4) (m := j - i) (c := c - i) h3 (by omega) (by have := HFIT.out; omega) 0
        have hk : keptN ps t j = ps.filter fun p => !t p := by unfold keptN; rw [List.take_of_length_le (by rw [HL.out]; exact Nat.le_refl _)]
        rw [hk] at h2 h5
        have H1 := Lib.hid h1
        have H2 := Lib.hid h2
        have H3 := Lib.hid h3
        have H4 := Lib.hid h4
        have H5 := Lib.hid h5
        clear h1 h2 h3 h4 h5 hz1 hk
        go_wp2
        go_ret
        have hpl : (plc (ps.filter fun p => !t p)).length = i * 4 := by rw [plc_len, H2.out]
        refine ⟨i, rfl, H2.out.symm, ⟨hpl, .inr ⟨b, off, c, _, rfl, H3.out.setCells zs _, by omega, by unfold maxLen; omega, by rw [lay_size, H4.out]; exact HSZ.out, fun x hx => ?_⟩⟩, H1.out.trans (Fr.setCells (g := b) (S := fun k => k = b) zs _ (Fr.refl _ _) (fun _ => rfl)) (fun _ _ h => h)⟩
        rw [hpl] at hx
        rw [lay_out _ _ _ _ (.inl (by omega))]
        exact H5.out x hx
end Go.Proofs.Ytmlckocgahfnkaa
