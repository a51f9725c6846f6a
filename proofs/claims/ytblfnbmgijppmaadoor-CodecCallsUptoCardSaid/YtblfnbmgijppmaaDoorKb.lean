/- A call's bytes, read: that call, or a fault. -/
import Derived.Test.YtblfnbmgijppmaaDoorKa
namespace Go.Proofs.YtblfnbmgijppmaaDoor

theorem int_at {xs p r : List UInt8} {a : Int} (h : xs = p ++ (eI a ++ r)) (ha : okI a) (wh : ByteArray) : stInt xs wh (.at_ p.length) = (a, .at_ (p ++ eI a).length) := by rw [h]; exact back_int a ha wh p r
theorem bytes_at {xs p r bs : List UInt8} (h : xs = p ++ (eB bs ++ r)) (hb : (bs.length : Int) ≤ 4096) (wh : ByteArray) : stBytes xs wh 4096 (.at_ p.length) = (bs, .at_ (p ++ eB bs).length) := by rw [h]; exact back_bytes bs hb wh p r
structure Dn.ok (d : Dn) : Prop where
  k : okI d.k
  i : okI d.i
  l : okI d.l
  n : okI d.n
  b : (d.bs.length : Int) ≤ 9223372036854775807
/-- One decision, read where it begins. -/
theorem back_d4 {xs p r : List UInt8} {d : Dn} (h : xs = p ++ (eD d ++ r)) (hd : d.ok) :
    d4 xs (.at_ p.length) = .at_ (p ++ eI d.k ++ eI d.i ++ eI d.l ++ eI d.n).length ∧ (stInt xs wDec (.at_ p.length)).1 = d.k ∧ (stInt xs wDec (d1 xs (.at_ p.length))).1 = d.i ∧ (stInt xs wDec (d2 xs (.at_ p.length))).1 = d.l ∧ (stInt xs wDec (d3 xs (.at_ p.length))).1 = d.n := by
  have e1 := int_at (xs := xs) (p := p) (a := d.k) (r := eI d.i ++ (eI d.l ++ (eI d.n ++ (eB d.bs ++ r)))) (by rw [h]; simp [eD]) hd.k wDec
  have f1 : d1 xs (.at_ p.length) = .at_ (p ++ eI d.k).length := by unfold d1; rw [e1]
  have e2 := int_at (xs := xs) (p := p ++ eI d.k) (a := d.i) (r := eI d.l ++ (eI d.n ++ (eB d.bs ++ r))) (by rw [h]; simp [eD]) hd.i wDec
  have f2 : d2 xs (.at_ p.length) = .at_ (p ++ eI d.k ++ eI d.i).length := by unfold d2; rw [f1, e2]
  have e3 := int_at (xs := xs) (p := p ++ eI d.k ++ eI d.i) (a := d.l) (r := eI d.n ++ (eB d.bs ++ r)) (by rw [h]; simp [eD]) hd.l wDec
  have f3 : d3 xs (.at_ p.length) = .at_ (p ++ eI d.k ++ eI d.i ++ eI d.l).length := by unfold d3; rw [f2, e3]
  have e4 := int_at (xs := xs) (p := p ++ eI d.k ++ eI d.i ++ eI d.l) (a := d.n) (r := eB d.bs ++ r) (by rw [h]; simp [eD]) hd.n wDec
  refine ⟨by unfold d4; rw [f3, e4], by rw [e1], by rw [f1, e2], by rw [f2, e3], by rw [f3, e4]⟩
theorem back_dec {xs p r : List UInt8} {d : Dn} (h : xs = p ++ (eD d ++ r)) (hd : d.ok) (hb : (d.bs.length : Int) ≤ 4096) : rdDv xs (.at_ p.length) = d ∧ rdDs xs (.at_ p.length) = .at_ (p ++ eD d).length := by
  obtain ⟨e, e1, e2, e3, e4⟩ := back_d4 h hd
  have e5 := bytes_at (xs := xs) (p := p ++ eI d.k ++ eI d.i ++ eI d.l ++ eI d.n) (bs := d.bs) (r := r) (by rw [h]; simp [eD]) hb wDec
  refine ⟨?_, ?_⟩
  · unfold rdDv; rw [e1, e2, e3, e4, e, e5]
  · unfold rdDs; rw [e, e5]; simp [eD]
theorem long_dec {xs p r : List UInt8} {d : Dn} (h : xs = p ++ (eD d ++ r)) (hd : d.ok) (hb : (4096 : Int) < d.bs.length) : (rdDs xs (.at_ p.length)).isBad := by
  obtain ⟨e, _⟩ := back_d4 h hd
  unfold rdDs
  rw [e, show xs = (p ++ eI d.k ++ eI d.i ++ eI d.l ++ eI d.n) ++ (eB d.bs ++ r) by rw [h]; simp [eD]]
  exact long_bytes d.bs hb hd.b wDec _ r
theorem eDs_cons (d : Dn) (l : List Dn) : eDs (d :: l) = eD d ++ eDs l := by simp [eDs]
theorem eDs_split {l : List Dn} {k : Nat} (hk : k < l.length) : eDs l = eDs (l.take k) ++ (eD (l.getD k default) ++ eDs (l.drop (k + 1))) := by
  have e : l.getD k default = l[k] := by simp [List.getD, hk]
  rw [e]
  have h1 : l = l.take k ++ (l[k] :: l.drop (k + 1)) := by rw [← List.drop_eq_getElem_cons hk, List.take_append_drop]
  conv => lhs; rw [h1]
  unfold eDs
  rw [List.flatMap_append, List.flatMap_cons]
theorem take_succ_getD {l : List Dn} {k : Nat} (hk : k < l.length) : l.take (k + 1) = l.take k ++ [l.getD k default] := by
  rw [List.take_succ_eq_append_getElem hk]; simp [List.getD, hk]
theorem back_decs {xs p : List UInt8} {l : List Dn} (h : xs = p ++ eDs l) (hl : ∀ d ∈ l, d.ok) (hb : ∀ d ∈ l, (d.bs.length : Int) ≤ 4096) (k : Nat) (hk : k ≤ l.length) :
    rdS xs k (.at_ p.length) = .at_ (p ++ eDs (l.take k)).length ∧ rdV xs k (.at_ p.length) = l.take k := by
  induction k with
  | zero => simp [rdS, rdV, eDs]
  | succ k ih =>
    obtain ⟨h1, h2⟩ := ih (by omega)
    have hm : l.getD k default ∈ l := by rw [show l.getD k default = l[k] by simp [List.getD, show k < l.length from hk]]; exact List.getElem_mem _
    obtain ⟨e1, e2⟩ := back_dec (xs := xs) (p := p ++ eDs (l.take k)) (d := l.getD k default) (r := eDs (l.drop (k + 1))) (by rw [h, eDs_split (k := k) (by omega)]; simp) (hl _ hm) (hb _ hm)
    refine ⟨?_, ?_⟩
    · show rdDs xs (rdS xs k _) = _
      rw [h1, e2, take_succ_getD (by omega)]
      simp [eDs]
    · show rdV xs k _ ++ [rdDv xs (rdS xs k _)] = _
      rw [h1, h2, e1, take_succ_getD (by omega)]
theorem long_decs {xs p : List UInt8} {l : List Dn} (h : xs = p ++ eDs l) (hl : ∀ d ∈ l, d.ok) (hb : ¬ ∀ d ∈ l, (d.bs.length : Int) ≤ 4096) : (rdS xs l.length (.at_ p.length)).isBad := by
  -- the first k that all fit
  have key : ∀ k, k ≤ l.length → (∀ d ∈ l.take k, (d.bs.length : Int) ≤ 4096) → rdS xs k (.at_ p.length) = .at_ (p ++ eDs (l.take k)).length := by
    intro k
    induction k with
    | zero => intro _ _; simp [rdS, eDs]
    | succ k ih =>
      intro hk hf
      have h1 := ih (by omega) (fun d hd => hf d (by rw [take_succ_getD (by omega)]; exact List.mem_append_left _ hd))
      have hm : l.getD k default ∈ l := by rw [show l.getD k default = l[k] by simp [List.getD, show k < l.length from hk]]; exact List.getElem_mem _
      have e2 := (back_dec (xs := xs) (p := p ++ eDs (l.take k)) (d := l.getD k default) (r := eDs (l.drop (k + 1))) (by rw [h, eDs_split (k := k) (by omega)]; simp) (hl _ hm) (hf _ (by rw [take_succ_getD (by omega)]; simp))).2
      show rdDs xs (rdS xs k _) = _
      rw [h1, e2, take_succ_getD (by omega)]
      simp [eDs]
  have : ∃ k, k < l.length ∧ (∀ d ∈ l.take k, (d.bs.length : Int) ≤ 4096) ∧ (4096 : Int) < (l.getD k default).bs.length := by
    refine Classical.byContradiction fun hno => hb ?_
    have all : ∀ k, k ≤ l.length → ∀ d ∈ l.take k, (d.bs.length : Int) ≤ 4096 := by
      intro k
      induction k with
      | zero => intro _ d hd; simp at hd
      | succ k ih =>
        intro hk d hd
        rw [take_succ_getD (by omega)] at hd
        rcases List.mem_append.1 hd with hd | hd
        · exact ih (by omega) d hd
        · simp at hd; subst hd
          refine Classical.byContradiction fun h2 => hno ⟨k, by omega, ih (by omega), ?_⟩
          simp only [List.getD_eq_getElem?_getD] at *
          omega
    have := all l.length (Nat.le_refl _)
    rwa [List.take_length] at this
  obtain ⟨k, hk, hf, hlong⟩ := this
  have hm : l.getD k default ∈ l := by rw [show l.getD k default = l[k] by simp [List.getD, hk]]; exact List.getElem_mem _
  have h1 := key k (by omega) hf
  have h2 := long_dec (xs := xs) (p := p ++ eDs (l.take k)) (d := l.getD k default) (r := eDs (l.drop (k + 1))) (by rw [h, eDs_split (k := k) hk]; simp) (hl _ hm) hlong
  have h3 : (rdS xs (k + 1) (.at_ p.length)).isBad := by
    show (rdDs xs (rdS xs k _)).isBad
    rw [h1]; exact h2
  rw [rdS_bad h3 (by omega)]; exact h3

structure Cl.ok (c : Cl) : Prop where
  a0 : okI c.a0
  a1 : okI c.a1
  a2 : okI c.a2
  a3 : okI c.a3
  t0 : okI c.t0
  t1 : okI c.t1
  t2 : okI c.t2
  t3 : okI c.t3
  b : (c.bs.length : Int) ≤ 9223372036854775807
  n : (c.L.length : Int) ≤ 9223372036854775807
  L : ∀ d ∈ c.L, d.ok
/-- Where the head ends. -/
theorem back_head {c : Cl} (hc : c.ok) : h8 (eC c) = .at_ (eH c).length ∧
    (stInt (eC c) wKind (.at_ 0)).1 = c.a0 ∧ (stInt (eC c) wFlow (h1 (eC c))).1 = c.a1 ∧ (stInt (eC c) wList (h2 (eC c))).1 = c.a2 ∧ (stInt (eC c) wN (h3 (eC c))).1 = c.a3 ∧
    (stInt (eC c) wTok (h4 (eC c))).1 = c.t0 ∧ (stInt (eC c) wTok (h5 (eC c))).1 = c.t1 ∧ (stInt (eC c) wTok (h6 (eC c))).1 = c.t2 ∧ (stInt (eC c) wTok (h7 (eC c))).1 = c.t3 := by
  generalize hX : eC c = X
  have hx := hX.symm
  unfold eC eH at hx
  simp only [List.append_assoc] at hx
  generalize eB c.bs ++ (eI ↑c.L.length ++ eDs c.L) = R at hx
  have e1 := int_at (xs := X) (p := []) (a := c.a0) (by rw [hx, List.nil_append]) hc.a0 wKind
  have f1 : h1 X = .at_ ([] ++ eI c.a0).length := by unfold h1; rw [show (0 : Nat) = ([] : List UInt8).length from rfl, e1]
  have e2 := int_at (xs := X) (p := [] ++ eI c.a0) (a := c.a1) (r := eI c.a2 ++ (eI c.a3 ++ (eI c.t0 ++ (eI c.t1 ++ (eI c.t2 ++ (eI c.t3 ++ R)))))) (by rw [hx]; simp) hc.a1 wFlow
  have f2 : h2 X = .at_ ([] ++ eI c.a0 ++ eI c.a1).length := by unfold h2; rw [f1, e2]
  have e3 := int_at (xs := X) (p := [] ++ eI c.a0 ++ eI c.a1) (a := c.a2) (r := eI c.a3 ++ (eI c.t0 ++ (eI c.t1 ++ (eI c.t2 ++ (eI c.t3 ++ R))))) (by rw [hx]; simp) hc.a2 wList
  have f3 : h3 X = .at_ ([] ++ eI c.a0 ++ eI c.a1 ++ eI c.a2).length := by unfold h3; rw [f2, e3]
  have e4 := int_at (xs := X) (p := [] ++ eI c.a0 ++ eI c.a1 ++ eI c.a2) (a := c.a3) (r := eI c.t0 ++ (eI c.t1 ++ (eI c.t2 ++ (eI c.t3 ++ R)))) (by rw [hx]; simp) hc.a3 wN
  have f4 : h4 X = .at_ ([] ++ eI c.a0 ++ eI c.a1 ++ eI c.a2 ++ eI c.a3).length := by unfold h4; rw [f3, e4]
  have e5 := int_at (xs := X) (p := [] ++ eI c.a0 ++ eI c.a1 ++ eI c.a2 ++ eI c.a3) (a := c.t0) (r := eI c.t1 ++ (eI c.t2 ++ (eI c.t3 ++ R))) (by rw [hx]; simp) hc.t0 wTok
  have f5 : h5 X = .at_ ([] ++ eI c.a0 ++ eI c.a1 ++ eI c.a2 ++ eI c.a3 ++ eI c.t0).length := by unfold h5; rw [f4, e5]
  have e6 := int_at (xs := X) (p := [] ++ eI c.a0 ++ eI c.a1 ++ eI c.a2 ++ eI c.a3 ++ eI c.t0) (a := c.t1) (r := eI c.t2 ++ (eI c.t3 ++ R)) (by rw [hx]; simp) hc.t1 wTok
  have f6 : h6 X = .at_ ([] ++ eI c.a0 ++ eI c.a1 ++ eI c.a2 ++ eI c.a3 ++ eI c.t0 ++ eI c.t1).length := by unfold h6; rw [f5, e6]
  have e7 := int_at (xs := X) (p := [] ++ eI c.a0 ++ eI c.a1 ++ eI c.a2 ++ eI c.a3 ++ eI c.t0 ++ eI c.t1) (a := c.t2) (r := eI c.t3 ++ R) (by rw [hx]; simp) hc.t2 wTok
  have f7 : h7 X = .at_ ([] ++ eI c.a0 ++ eI c.a1 ++ eI c.a2 ++ eI c.a3 ++ eI c.t0 ++ eI c.t1 ++ eI c.t2).length := by unfold h7; rw [f6, e7]
  have e8 := int_at (xs := X) (p := [] ++ eI c.a0 ++ eI c.a1 ++ eI c.a2 ++ eI c.a3 ++ eI c.t0 ++ eI c.t1 ++ eI c.t2) (a := c.t3) (r := R) (by rw [hx]; simp) hc.t3 wTok
  refine ⟨by unfold h8; rw [f7, e8]; unfold eH; simp, by rw [show (0 : Nat) = ([] : List UInt8).length from rfl, e1], by rw [f1, e2], by rw [f2, e3], by rw [f3, e4], by rw [f4, e5], by rw [f5, e6], by rw [f6, e7], by rw [f7, e8]⟩
/-- May it be read back? -/
def Cl.may (c : Cl) : Prop := (c.bs.length : Int) ≤ 4096 ∧ (c.L.length : Int) ≤ 32 ∧ ∀ d ∈ c.L, (d.bs.length : Int) ≤ 4096
theorem back_yes {c : Cl} (hc : c.ok) (hm : c.may) : rdC (eC c) = c ∧ stEnd (eC c) (rdCs (eC c)) = none := by
  obtain ⟨g8, v0, v1, v2, v3, v4, v5, v6, v7⟩ := back_head hc
  obtain ⟨m1, m2, m3⟩ := hm
  have e9 := bytes_at (xs := eC c) (p := eH c) (bs := c.bs) (r := eI c.L.length ++ eDs c.L) rfl m1 wData
  have g9 : h9 (eC c) = .at_ (eH c ++ eB c.bs).length := by unfold h9; rw [g8, e9]
  have e10 : stBetween (eC c) wCount 0 32 (.at_ (eH c ++ eB c.bs).length) = ((c.L.length : Int), .at_ (eH c ++ eB c.bs ++ eI c.L.length).length) := by
    have := back_between (c.L.length : Int) (by omega) m2 wCount (eH c ++ eB c.bs) (eDs c.L)
    rw [show eC c = (eH c ++ eB c.bs) ++ (eI c.L.length ++ eDs c.L) by unfold eC; simp]
    exact this
  have gN : hN (eC c) = c.L.length := by unfold hN; rw [g9, e10]
  have g10 : h10 (eC c) = .at_ (eH c ++ eB c.bs ++ eI c.L.length).length := by unfold h10; rw [g9, e10]
  obtain ⟨b1, b2⟩ := back_decs (xs := eC c) (p := eH c ++ eB c.bs ++ eI c.L.length) (l := c.L) (by unfold eC; simp) hc.L m3 c.L.length (Nat.le_refl _)
  rw [List.take_length] at b1 b2
  refine ⟨?_, ?_⟩
  · unfold rdC
    rw [v0, v1, v2, v3, v4, v5, v6, v7, g8, e9, gN, g10, Int.toNat_natCast, b2]
  · unfold rdCs
    rw [gN, g10, Int.toNat_natCast, b1]
    have hl : (eC c).length = (eH c ++ eB c.bs ++ eI c.L.length ++ eDs c.L).length := by unfold eC; simp
    unfold stEnd
    simp only
    rw [if_neg (by rw [hl]; exact Nat.lt_irrefl _)]
theorem stBetween_bad {xs : List UInt8} {wh : ByteArray} {lo hi : Int} {s : St} (h : s.isBad) : stBetween xs wh lo hi s = (0, s) := by cases s with | bad => rfl | at_ => exact h.elim
theorem back_no {c : Cl} (hc : c.ok) (hm : ¬ c.may) : stEnd (eC c) (rdCs (eC c)) ≠ none := by
  obtain ⟨g8, _⟩ := back_head hc
  by_cases m1 : (c.bs.length : Int) ≤ 4096
  · have e9 := bytes_at (xs := eC c) (p := eH c) (bs := c.bs) (r := eI c.L.length ++ eDs c.L) rfl m1 wData
    have g9 : h9 (eC c) = .at_ (eH c ++ eB c.bs).length := by unfold h9; rw [g8, e9]
    by_cases m2 : (c.L.length : Int) ≤ 32
    · have e10 : stBetween (eC c) wCount 0 32 (.at_ (eH c ++ eB c.bs).length) = ((c.L.length : Int), .at_ (eH c ++ eB c.bs ++ eI c.L.length).length) := by
        have := back_between (c.L.length : Int) (by omega) m2 wCount (eH c ++ eB c.bs) (eDs c.L)
        rw [show eC c = (eH c ++ eB c.bs) ++ (eI c.L.length ++ eDs c.L) by unfold eC; simp]
        exact this
      have gN : hN (eC c) = c.L.length := by unfold hN; rw [g9, e10]
      have g10 : h10 (eC c) = .at_ (eH c ++ eB c.bs ++ eI c.L.length).length := by unfold h10; rw [g9, e10]
      have hb := long_decs (xs := eC c) (p := eH c ++ eB c.bs ++ eI c.L.length) (l := c.L) (by unfold eC; simp) hc.L (fun h => hm ⟨m1, m2, h⟩)
      refine stEnd_bad ?_
      unfold rdCs
      rw [gN, g10, Int.toNat_natCast]; exact hb
    · have hb : (h10 (eC c)).isBad := by
        have := far_between (c.L.length : Int) (by omega) hc.n wCount (eH c ++ eB c.bs) (eDs c.L)
        unfold h10
        rw [g9, show eC c = (eH c ++ eB c.bs) ++ (eI c.L.length ++ eDs c.L) by unfold eC; simp]
        exact this
      refine stEnd_bad ?_
      unfold rdCs
      rw [rdS_bad (i := 0) (show (rdS (eC c) 0 (h10 (eC c))).isBad from hb) (Nat.zero_le _)]; exact hb
  · have hb : (h9 (eC c)).isBad := by
      unfold h9
      rw [g8]
      exact long_bytes c.bs (by omega) hc.b wData (eH c) (eI c.L.length ++ eDs c.L)
    have hb10 : (h10 (eC c)).isBad := by unfold h10; rw [stBetween_bad hb]; exact hb
    refine stEnd_bad ?_
    unfold rdCs
    rw [rdS_bad (i := 0) (show (rdS (eC c) 0 (h10 (eC c))).isBad from hb10) (Nat.zero_le _)]; exact hb10
end Go.Proofs.YtblfnbmgijppmaaDoor
