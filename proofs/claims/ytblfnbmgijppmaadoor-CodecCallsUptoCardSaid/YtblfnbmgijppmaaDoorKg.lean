/- A call, read by the program. -/
import Derived.Test.YtblfnbmgijppmaaDoorKf
namespace Go.Proofs.YtblfnbmgijppmaaDoor
open Go.RowKit

def zC : Array Value := #[.int .i64 0, .int .i64 0, .int .i64 0, .int .i64 0, .int .i64 0, .int .i64 0, .int .i64 0, .int .i64 0, .slice none 0 0, .slice none 0 0]
def CI.LV (x : CI) : Value := .slice x.lA x.ds.length x.lc
def CI.BV (x : CI) : Value := .slice x.bA x.bs.length x.bc
/-- A call that is being read: ga: the result's block; ga + 1: the local one. -/
structure RC (w : World) (ga g : Nat) (A : Option Addr) (n c : Nat) (xs : List UInt8) (wk : World) (s : St) (x : CI) : Prop where
  rs : RS w ga g A n c xs wk s
  res : Bk wk ga 27 zC
  loc : Bk wk (ga + 1) 27 x.cells
  row : OwnD wk x.LV x.ds
  rowB : From ga x.LV
  each : ∀ p ∈ x.ds, Own8 wk 5 (.slice p.A p.d.bs.length p.c) p.d.bs ∧ From ga (.slice p.A p.d.bs.length p.c)
  data : Own8 wk 5 x.BV x.bs
  dataB : From ga x.BV
section
variable {w wk w2 : World} {ga g : Nat} {A : Option Addr} {n c : Nat} {xs : List UInt8} {s s2 : St} {x : CI}
/-- What turns below ga turns nothing of it but the reader. -/
theorem RC.low {S : Nat → Prop} (h : RC w ga g A n c xs wk s x) (r : RS w ga g A n c xs w2 s2) (hf : Fr S wk w2) (hS : ∀ k, S k → k < ga) : RC w ga g A n c xs w2 s2 x :=
  ⟨r, h.res.fr hf (fun e => by have := hS _ e; omega), h.loc.fr hf (fun e => by have := hS _ e; omega), h.row.fr hf (fun k e e2 => by have := h.rowB k e; have := hS _ e2; omega), h.rowB,
    fun p hp => ⟨(h.each p hp).1.fr hf (fun k e e2 => by have := (h.each p hp).2 k e; have := hS _ e2; omega), (h.each p hp).2⟩, h.data.fr hf (fun k e e2 => by have := h.dataB k e; have := hS _ e2; omega), h.dataB⟩
theorem RC.quiet (h : RC w ga g A n c xs wk s x) (hf : Fr (fun _ => False) wk w2) : RC w ga g A n c xs w2 s x := h.low (h.rs.own hf (fun _ h => h.elim)) hf (fun _ h => h.elim)
theorem RC.dec (h : RC w ga g A n c xs wk s x) :
    Calls Tryd.prog 47 #[.pointer (some ⟨g, 0, none⟩)] wk fun e w' => ∃ (A' : Option Addr) (c' : Nat), e = .returned (.agg #[.int .i64 (rdDv xs s).k, .int .i64 (rdDv xs s).i, .int .i64 (rdDv xs s).l, .int .i64 (rdDv xs s).n, .slice A' (rdDv xs s).bs.length c']) ∧
      Own8 w' 5 (.slice A' (rdDv xs s).bs.length c') (rdDv xs s).bs ∧ From ga (.slice A' (rdDv xs s).bs.length c') ∧ RC w ga g A n c xs w' (rdDs xs s) x ∧ Fr (fun x => x = g) wk w' := by
  have r := h.rs
  have hsz := r.sz
  refine (readDec_any (w := wk) (s := s) ⟨r.rd, r.er, Fr.refl _ _, Nat.lt_of_lt_of_le r.gl hsz, fun ad e h0 => Nat.lt_of_lt_of_le (r.src ad e h0) hsz, r.hg, Nat.lt_of_lt_of_le r.el hsz, Nat.le_refl _⟩).mono ?_
  rintro e w' ⟨A', c', rfl, ho, hk, hr, hf⟩
  exact ⟨A', c', rfl, ho, fun k e => Nat.le_trans hsz (hk k e), h.low (r.to hr hf) hf (fun k e => by rw [e]; exact r.gl), hf⟩
/-- One more decision. -/
theorem RC.push {w3 : World} (h : RC w ga g A n c xs wk s x) {p : DI} (ho : Own8 wk 5 (.slice p.A p.d.bs.length p.c) p.d.bs) (hB : From ga (.slice p.A p.d.bs.length p.c)) {lb c' : Nat}
    (hr : OwnD w3 (.slice (some ⟨lb, 0, none⟩) (x.ds.length + 1) c') (x.ds ++ [p])) (hf : Fr (fun k => x.LV.ownBlock = some k) wk w3) (hm : Moved wk x.LV (.slice (some ⟨lb, 0, none⟩) (x.ds.length + 1) c')) :
    RC w ga g A n c xs (w3.setCell ⟨ga + 1, 9, none⟩ (.slice (some ⟨lb, 0, none⟩) (x.ds.length + 1) c')) s { x with lA := some ⟨lb, 0, none⟩, lc := c', ds := x.ds ++ [p] } := by
  have nga : ¬ x.LV.ownBlock = some ga := h.row.ne h.res (by decide)
  have nga1 : ¬ x.LV.ownBlock = some (ga + 1) := h.row.ne h.loc (by decide)
  have n8 : ∀ {v : Value} {bs : List UInt8}, Own8 wk 5 v bs → ∀ k, v.ownBlock = some k → ¬ x.LV.ownBlock = some k := fun ho k e e2 => by
    obtain ⟨cs, hb⟩ := h.row.bk e2
    exact ho.ne hb (by decide) e
  have lbk : ∀ k, (Value.slice (some ⟨lb, 0, none⟩) (x.ds.length + 1) c').ownBlock = some k → ga ≤ k := fun k e => by
    rcases hm with e1 | ⟨y, e1, h1⟩
    · exact h.rowB k (e1.symm.trans e)
    · rw [e1] at e; injection e with e; have := h.rs.sz; omega
  have hs : Fr (fun k => k = ga + 1) w3 (w3.setCell ⟨ga + 1, 9, none⟩ (.slice (some ⟨lb, 0, none⟩) (x.ds.length + 1) c')) := fr_set
  have hl3 : Bk w3 (ga + 1) 27 x.cells := h.loc.fr hf nga1
  have e8 : ∀ {v : Value} {bs : List UInt8}, Own8 wk 5 v bs → Own8 (w3.setCell ⟨ga + 1, 9, none⟩ (.slice (some ⟨lb, 0, none⟩) (x.ds.length + 1) c')) 5 v bs := fun ho => by
    have h3 := ho.fr hf (n8 ho)
    exact h3.fr hs (fun k e e2 => h3.ne hl3 (by decide) (by rw [e, e2]))
  have he : (({ x with lA := some ⟨lb, 0, none⟩, lc := c', ds := x.ds ++ [p] } : CI)).LV = .slice (some ⟨lb, 0, none⟩) (x.ds.length + 1) c' := by simp [CI.LV]
  refine ⟨(h.rs.own hf (fun k e => h.rowB k e)).own hs (fun k e => by omega), (h.res.fr hf nga).fr hs (by omega), ?_, ?_, ?_, ?_, e8 h.data, h.dataB⟩
  · have := hl3.set 9 (.slice (some ⟨lb, 0, none⟩) (x.ds.length + 1) c')
    have e : x.cells.setIfInBounds 9 (.slice (some ⟨lb, 0, none⟩) (x.ds.length + 1) c') = (({ x with lA := some ⟨lb, 0, none⟩, lc := c', ds := x.ds ++ [p] } : CI)).cells := by simp [CI.cells]
    rw [e] at this; exact this
  · rw [he]; exact hr.fr hs (fun k e e2 => hr.ne hl3 (by decide) (by rw [e, e2]))
  · rw [he]; exact lbk
  · intro q hq
    rcases List.mem_append.1 hq with hq | hq
    · exact ⟨e8 (h.each q hq).1, (h.each q hq).2⟩
    · simp at hq; subst hq; exact ⟨e8 ho, hB⟩
end
theorem hN_range (xs : List UInt8) : 0 ≤ hN xs ∧ hN xs ≤ 32 := by
  unfold hN stBetween
  cases h9 xs with
  | bad er a w0 => show (0 : Int) ≤ 0 ∧ (0 : Int) ≤ 32; exact ⟨by decide, by decide⟩
  | at_ k =>
    simp only
    unfold srWithin
    cases rdNum (xs.drop k) with
    | bad b => show (0 : Int) ≤ 0 ∧ (0 : Int) ≤ 32; exact ⟨by decide, by decide⟩
    | ok u m =>
      simp only
      by_cases h : unfN u < 0 ∨ 32 < unfN u
      · rw [if_pos h]; show (0 : Int) ≤ 0 ∧ (0 : Int) ≤ 32; exact ⟨by decide, by decide⟩
      · rw [if_neg h]; simp only; omega
theorem RS.between {w wk : World} {B g : Nat} {A : Option Addr} {n c : Nat} {xs : List UInt8} {s : St} (h : RS w B g A n c xs wk s) (wh : ByteArray) (lo hi : Int) :
    Calls Tryd.prog 46 #[.pointer (some ⟨g, 0, none⟩), .string wh, .int .i64 lo, .int .i64 hi] wk fun e w' => e = .returned (.int .i64 (stBetween xs wh lo hi s).1) ∧ RS w B g A n c xs w' (stBetween xs wh lo hi s).2 ∧ Fr (fun x => x = g) wk w' :=
  (rBetween_any h.rd h.er wh h.hg lo hi).mono fun _ _ ⟨h1, h2, h3⟩ => ⟨h1, h.to h2 h3, h3⟩

set_option maxRecDepth 100000 in
set_option maxHeartbeats 8000000 in
theorem readCall_any {w : World} {g : Nat} {A : Option Addr} {n c : Nat} {xs : List UInt8} (h : RS w w.heap.size g A n c xs w (.at_ 0)) :
    Calls Tryd.prog 23 #[.pointer (some ⟨g, 0, none⟩)] w fun e w' => ∃ x : CI, e = .returned (.agg x.cells) ∧ x.cl = rdC xs ∧ x.At w' (fun k => w.heap.size ≤ k) ∧ RdAt w' g A n c xs (rdCs xs) ∧ Fr (fun x => x = g) w w' := by
  obtain ⟨W1, hW⟩ : ∃ W1, (w.alloc (.cells zC 27)).alloc (.cells zC 27) = W1 := ⟨_, rfl⟩
  obtain ⟨ga, hga⟩ : ∃ ga, w.heap.size = ga := ⟨_, rfl⟩
  have fW : Fr (fun _ => False) w W1 := by rw [← hW]; exact ((Fr.refl _ _).alloc _).alloc _
  have b1 : Bk W1 ga 27 zC := by rw [← hW, ← hga]; exact (Bk.new _ _ _).alloc _
  have b2 : Bk W1 (ga + 1) 27 zC := by
    rw [← hW, ← hga]
    have := Bk.new (w.alloc (.cells zC 27)) 27 zC
    simpa using this
  have R1 : RS w ga g A n c xs W1 (.at_ 0) := by
    have := h.own fW (fun _ h => h.elim)
    rwa [hga] at this
  have hgl := h.gl
  have HR1 := Lib.hid R1
  have HB1 := Lib.hid b1
  have HB2 := Lib.hid b2
  have HGA := Lib.hid hga
  have K0 := Lib.hid (show Calls Tryd.prog 45 #[.pointer (some ⟨g, 0, none⟩), .string ⟨#[107, 105, 110, 100]⟩] (W1) (fun e w' => e = .returned (.int .i64 (stInt xs wKind (.at_ 0)).1) ∧ RS w ga g A n c xs w' (h1 xs) ∧ Fr (fun x => x = g) (W1) w') from whole_any R1 wKind)
  have HG0 := Lib.hid (show Fr (fun x => x = g ∨ x = ga + 1) W1 W1 from Fr.refl _ _)
  have HR0 := HR1
  have HC0 := HB2
  have hne1 : ¬ ga = g := by omega
  have hne2 : ¬ ga + 1 = g := by omega
  clear h R1 b1 b2 fW hgl
  unfold zC at hW HC0
  go_enter Tryd.func23, Tryd.ntmps23
  go_wp2_with fail
  clear hW hga
  refine K0.out.mono ?_; rintro e w0 ⟨rfl, R, f⟩
  have B := HC0.out.fr f hne2
  have c0 := B.cell 0
  have f0 : w0.frozen? ⟨ga + 1, 0, none⟩ = false := B.frozen 0
  simp only [List.getElem?_toArray, List.getElem?_cons_zero, List.getElem?_cons_succ] at c0
  have HR1 := Lib.hid (show RS w ga g A n c xs (w0.setCell ⟨ga + 1, 0, none⟩ (.int .i64 (stInt xs wKind (.at_ 0)).1)) (h1 xs) from R.own fr_set (fun k e => by omega))
  have HC10 := B.set 0 (.int .i64 (stInt xs wKind (.at_ 0)).1)
  simp only [List.setIfInBounds_toArray, List.set_cons_zero, List.set_cons_succ] at HC10
  have HC1 := Lib.hid HC10
  have HG1 := Lib.hid (show Fr (fun x => x = g ∨ x = ga + 1) W1 (w0.setCell ⟨ga + 1, 0, none⟩ (.int .i64 (stInt xs wKind (.at_ 0)).1)) from (HG0.out.trans f (fun _ _ e => .inl e)).trans fr_set (fun _ _ e => .inr e))
  have K1 := Lib.hid (show Calls Tryd.prog 45 #[.pointer (some ⟨g, 0, none⟩), .string ⟨#[102, 108, 111, 119]⟩] (w0.setCell ⟨ga + 1, 0, none⟩ (.int .i64 (stInt xs wKind (.at_ 0)).1)) (fun e w' => e = .returned (.int .i64 (stInt xs wFlow (h1 xs)).1) ∧ RS w ga g A n c xs w' (h2 xs) ∧ Fr (fun x => x = g) (w0.setCell ⟨ga + 1, 0, none⟩ (.int .i64 (stInt xs wKind (.at_ 0)).1)) w') from whole_any HR1.out wFlow)
  clear R f B HC10 K0 HC0 HG0 HR0
  go_wp2_with fail
  clear c0 f0
  refine K1.out.mono ?_; rintro e w1 ⟨rfl, R, f⟩
  have B := HC1.out.fr f hne2
  have c0 := B.cell 1
  have f0 : w1.frozen? ⟨ga + 1, 1, none⟩ = false := B.frozen 1
  simp only [List.getElem?_toArray, List.getElem?_cons_zero, List.getElem?_cons_succ] at c0
  have HR2 := Lib.hid (show RS w ga g A n c xs (w1.setCell ⟨ga + 1, 1, none⟩ (.int .i64 (stInt xs wFlow (h1 xs)).1)) (h2 xs) from R.own fr_set (fun k e => by omega))
  have HC20 := B.set 1 (.int .i64 (stInt xs wFlow (h1 xs)).1)
  simp only [List.setIfInBounds_toArray, List.set_cons_zero, List.set_cons_succ] at HC20
  have HC2 := Lib.hid HC20
  have HG2 := Lib.hid (show Fr (fun x => x = g ∨ x = ga + 1) W1 (w1.setCell ⟨ga + 1, 1, none⟩ (.int .i64 (stInt xs wFlow (h1 xs)).1)) from (HG1.out.trans f (fun _ _ e => .inl e)).trans fr_set (fun _ _ e => .inr e))
  have K2 := Lib.hid (show Calls Tryd.prog 45 #[.pointer (some ⟨g, 0, none⟩), .string ⟨#[108, 105, 115, 116]⟩] (w1.setCell ⟨ga + 1, 1, none⟩ (.int .i64 (stInt xs wFlow (h1 xs)).1)) (fun e w' => e = .returned (.int .i64 (stInt xs wList (h2 xs)).1) ∧ RS w ga g A n c xs w' (h3 xs) ∧ Fr (fun x => x = g) (w1.setCell ⟨ga + 1, 1, none⟩ (.int .i64 (stInt xs wFlow (h1 xs)).1)) w') from whole_any HR2.out wList)
  clear R f B HC20 K1 HC1 HG1 HR1
  go_wp2_with fail
  clear c0 f0
  refine K2.out.mono ?_; rintro e w2 ⟨rfl, R, f⟩
  have B := HC2.out.fr f hne2
  have c0 := B.cell 2
  have f0 : w2.frozen? ⟨ga + 1, 2, none⟩ = false := B.frozen 2
  simp only [List.getElem?_toArray, List.getElem?_cons_zero, List.getElem?_cons_succ] at c0
  have HR3 := Lib.hid (show RS w ga g A n c xs (w2.setCell ⟨ga + 1, 2, none⟩ (.int .i64 (stInt xs wList (h2 xs)).1)) (h3 xs) from R.own fr_set (fun k e => by omega))
  have HC30 := B.set 2 (.int .i64 (stInt xs wList (h2 xs)).1)
  simp only [List.setIfInBounds_toArray, List.set_cons_zero, List.set_cons_succ] at HC30
  have HC3 := Lib.hid HC30
  have HG3 := Lib.hid (show Fr (fun x => x = g ∨ x = ga + 1) W1 (w2.setCell ⟨ga + 1, 2, none⟩ (.int .i64 (stInt xs wList (h2 xs)).1)) from (HG2.out.trans f (fun _ _ e => .inl e)).trans fr_set (fun _ _ e => .inr e))
  have K3 := Lib.hid (show Calls Tryd.prog 45 #[.pointer (some ⟨g, 0, none⟩), .string ⟨#[110]⟩] (w2.setCell ⟨ga + 1, 2, none⟩ (.int .i64 (stInt xs wList (h2 xs)).1)) (fun e w' => e = .returned (.int .i64 (stInt xs wN (h3 xs)).1) ∧ RS w ga g A n c xs w' (h4 xs) ∧ Fr (fun x => x = g) (w2.setCell ⟨ga + 1, 2, none⟩ (.int .i64 (stInt xs wList (h2 xs)).1)) w') from whole_any HR3.out wN)
  clear R f B HC30 K2 HC2 HG2 HR2
  go_wp2_with fail
  clear c0 f0
  refine K3.out.mono ?_; rintro e w3 ⟨rfl, R, f⟩
  have B := HC3.out.fr f hne2
  have c0 := B.cell 3
  have f0 : w3.frozen? ⟨ga + 1, 3, none⟩ = false := B.frozen 3
  simp only [List.getElem?_toArray, List.getElem?_cons_zero, List.getElem?_cons_succ] at c0
  have HR4 := Lib.hid (show RS w ga g A n c xs (w3.setCell ⟨ga + 1, 3, none⟩ (.int .i64 (stInt xs wN (h3 xs)).1)) (h4 xs) from R.own fr_set (fun k e => by omega))
  have HC40 := B.set 3 (.int .i64 (stInt xs wN (h3 xs)).1)
  simp only [List.setIfInBounds_toArray, List.set_cons_zero, List.set_cons_succ] at HC40
  have HC4 := Lib.hid HC40
  have HG4 := Lib.hid (show Fr (fun x => x = g ∨ x = ga + 1) W1 (w3.setCell ⟨ga + 1, 3, none⟩ (.int .i64 (stInt xs wN (h3 xs)).1)) from (HG3.out.trans f (fun _ _ e => .inl e)).trans fr_set (fun _ _ e => .inr e))
  have K4 := Lib.hid (show Calls Tryd.prog 45 #[.pointer (some ⟨g, 0, none⟩), .string ⟨#[116, 111, 107, 101, 110]⟩] (w3.setCell ⟨ga + 1, 3, none⟩ (.int .i64 (stInt xs wN (h3 xs)).1)) (fun e w' => e = .returned (.int .i64 (stInt xs wTok (h4 xs)).1) ∧ RS w ga g A n c xs w' (h5 xs) ∧ Fr (fun x => x = g) (w3.setCell ⟨ga + 1, 3, none⟩ (.int .i64 (stInt xs wN (h3 xs)).1)) w') from whole_any HR4.out wTok)
  clear R f B HC40 K3 HC3 HG3 HR3
  go_wp2_with fail
  clear c0 f0
  refine K4.out.mono ?_; rintro e w4 ⟨rfl, R, f⟩
  have B := HC4.out.fr f hne2
  have c0 := B.cell 4
  have f0 : w4.frozen? ⟨ga + 1, 4, none⟩ = false := B.frozen 4
  simp only [List.getElem?_toArray, List.getElem?_cons_zero, List.getElem?_cons_succ] at c0
  have HR5 := Lib.hid (show RS w ga g A n c xs (w4.setCell ⟨ga + 1, 4, none⟩ (.int .i64 (stInt xs wTok (h4 xs)).1)) (h5 xs) from R.own fr_set (fun k e => by omega))
  have HC50 := B.set 4 (.int .i64 (stInt xs wTok (h4 xs)).1)
  simp only [List.setIfInBounds_toArray, List.set_cons_zero, List.set_cons_succ] at HC50
  have HC5 := Lib.hid HC50
  have HG5 := Lib.hid (show Fr (fun x => x = g ∨ x = ga + 1) W1 (w4.setCell ⟨ga + 1, 4, none⟩ (.int .i64 (stInt xs wTok (h4 xs)).1)) from (HG4.out.trans f (fun _ _ e => .inl e)).trans fr_set (fun _ _ e => .inr e))
  have K5 := Lib.hid (show Calls Tryd.prog 45 #[.pointer (some ⟨g, 0, none⟩), .string ⟨#[116, 111, 107, 101, 110]⟩] (w4.setCell ⟨ga + 1, 4, none⟩ (.int .i64 (stInt xs wTok (h4 xs)).1)) (fun e w' => e = .returned (.int .i64 (stInt xs wTok (h5 xs)).1) ∧ RS w ga g A n c xs w' (h6 xs) ∧ Fr (fun x => x = g) (w4.setCell ⟨ga + 1, 4, none⟩ (.int .i64 (stInt xs wTok (h4 xs)).1)) w') from whole_any HR5.out wTok)
  clear R f B HC50 K4 HC4 HG4 HR4
  go_wp2_with fail
  clear c0 f0
  refine K5.out.mono ?_; rintro e w5 ⟨rfl, R, f⟩
  have B := HC5.out.fr f hne2
  have c0 := B.cell 5
  have f0 : w5.frozen? ⟨ga + 1, 5, none⟩ = false := B.frozen 5
  simp only [List.getElem?_toArray, List.getElem?_cons_zero, List.getElem?_cons_succ] at c0
  have HR6 := Lib.hid (show RS w ga g A n c xs (w5.setCell ⟨ga + 1, 5, none⟩ (.int .i64 (stInt xs wTok (h5 xs)).1)) (h6 xs) from R.own fr_set (fun k e => by omega))
  have HC60 := B.set 5 (.int .i64 (stInt xs wTok (h5 xs)).1)
  simp only [List.setIfInBounds_toArray, List.set_cons_zero, List.set_cons_succ] at HC60
  have HC6 := Lib.hid HC60
  have HG6 := Lib.hid (show Fr (fun x => x = g ∨ x = ga + 1) W1 (w5.setCell ⟨ga + 1, 5, none⟩ (.int .i64 (stInt xs wTok (h5 xs)).1)) from (HG5.out.trans f (fun _ _ e => .inl e)).trans fr_set (fun _ _ e => .inr e))
  have K6 := Lib.hid (show Calls Tryd.prog 45 #[.pointer (some ⟨g, 0, none⟩), .string ⟨#[116, 111, 107, 101, 110]⟩] (w5.setCell ⟨ga + 1, 5, none⟩ (.int .i64 (stInt xs wTok (h5 xs)).1)) (fun e w' => e = .returned (.int .i64 (stInt xs wTok (h6 xs)).1) ∧ RS w ga g A n c xs w' (h7 xs) ∧ Fr (fun x => x = g) (w5.setCell ⟨ga + 1, 5, none⟩ (.int .i64 (stInt xs wTok (h5 xs)).1)) w') from whole_any HR6.out wTok)
  clear R f B HC60 K5 HC5 HG5 HR5
  go_wp2_with fail
  clear c0 f0
  refine K6.out.mono ?_; rintro e w6 ⟨rfl, R, f⟩
  have B := HC6.out.fr f hne2
  have c0 := B.cell 6
  have f0 : w6.frozen? ⟨ga + 1, 6, none⟩ = false := B.frozen 6
  simp only [List.getElem?_toArray, List.getElem?_cons_zero, List.getElem?_cons_succ] at c0
  have HR7 := Lib.hid (show RS w ga g A n c xs (w6.setCell ⟨ga + 1, 6, none⟩ (.int .i64 (stInt xs wTok (h6 xs)).1)) (h7 xs) from R.own fr_set (fun k e => by omega))
  have HC70 := B.set 6 (.int .i64 (stInt xs wTok (h6 xs)).1)
  simp only [List.setIfInBounds_toArray, List.set_cons_zero, List.set_cons_succ] at HC70
  have HC7 := Lib.hid HC70
  have HG7 := Lib.hid (show Fr (fun x => x = g ∨ x = ga + 1) W1 (w6.setCell ⟨ga + 1, 6, none⟩ (.int .i64 (stInt xs wTok (h6 xs)).1)) from (HG6.out.trans f (fun _ _ e => .inl e)).trans fr_set (fun _ _ e => .inr e))
  have K7 := Lib.hid (show Calls Tryd.prog 45 #[.pointer (some ⟨g, 0, none⟩), .string ⟨#[116, 111, 107, 101, 110]⟩] (w6.setCell ⟨ga + 1, 6, none⟩ (.int .i64 (stInt xs wTok (h6 xs)).1)) (fun e w' => e = .returned (.int .i64 (stInt xs wTok (h7 xs)).1) ∧ RS w ga g A n c xs w' (h8 xs) ∧ Fr (fun x => x = g) (w6.setCell ⟨ga + 1, 6, none⟩ (.int .i64 (stInt xs wTok (h6 xs)).1)) w') from whole_any HR7.out wTok)
  clear R f B HC70 K6 HC6 HG6 HR6
  go_wp2_with fail
  clear c0 f0
  refine K7.out.mono ?_; rintro e w7 ⟨rfl, R, f⟩
  have B := HC7.out.fr f hne2
  have c0 := B.cell 7
  have f0 : w7.frozen? ⟨ga + 1, 7, none⟩ = false := B.frozen 7
  simp only [List.getElem?_toArray, List.getElem?_cons_zero, List.getElem?_cons_succ] at c0
  have HR8 := Lib.hid (show RS w ga g A n c xs (w7.setCell ⟨ga + 1, 7, none⟩ (.int .i64 (stInt xs wTok (h7 xs)).1)) (h8 xs) from R.own fr_set (fun k e => by omega))
  have HC80 := B.set 7 (.int .i64 (stInt xs wTok (h7 xs)).1)
  simp only [List.setIfInBounds_toArray, List.set_cons_zero, List.set_cons_succ] at HC80
  have HC8 := Lib.hid HC80
  have HG8 := Lib.hid (show Fr (fun x => x = g ∨ x = ga + 1) W1 (w7.setCell ⟨ga + 1, 7, none⟩ (.int .i64 (stInt xs wTok (h7 xs)).1)) from (HG7.out.trans f (fun _ _ e => .inl e)).trans fr_set (fun _ _ e => .inr e))
  have K8 := Lib.hid (show Calls Tryd.prog 17 #[.pointer (some ⟨g, 0, none⟩), .string ⟨#[100, 97, 116, 97]⟩, .int .i64 4096] (w7.setCell ⟨ga + 1, 7, none⟩ (.int .i64 (stInt xs wTok (h7 xs)).1)) _ from HR8.out.bytes wData 4096)
  have HGW7 := Lib.hid (show Fr (fun x => x = g ∨ x = ga + 1) W1 w7 from HG7.out.trans f (fun _ _ e => .inl e))
  clear R f B HC80 K7 HC7 HG7 HR7
  go_wp2_with fail
  clear c0 f0
  refine K8.out.mono ?_; rintro e w8 ⟨A', c', rfl, ho, hk, R, f⟩
  have B := HC8.out.fr f hne2
  have c0 := B.cell 8
  have f0 : w8.frozen? ⟨ga + 1, 8, none⟩ = false := B.frozen 8
  simp only [List.getElem?_toArray, List.getElem?_cons_zero, List.getElem?_cons_succ] at c0
  have HG9 := HG8.out.trans f (fun _ _ e => .inl e)
  have hsz : ga + 2 ≤ w7.heap.size := by
    have h1 := HGW7.out.size
    have h2 : ga + 1 < W1.heap.size := HB2.out.lt
    omega
  have hkk : ∀ k, (Value.slice A' (stBytes xs wData 4096 (h8 xs)).1.length c').ownBlock = some k → ga + 2 ≤ k := fun k e => by
    have h1 := hk k e
    simp at h1
    omega
  have hs : Fr (fun k => k = ga + 1) w8 (w8.setCell ⟨ga + 1, 8, none⟩ (.slice A' (stBytes xs wData 4096 (h8 xs)).1.length c')) := fr_set
  have HRC : Hid (RC w ga g A n c xs (w8.setCell ⟨ga + 1, 8, none⟩ (.slice A' (stBytes xs wData 4096 (h8 xs)).1.length c')) (h9 xs) ⟨(stInt xs wKind (.at_ 0)).1, (stInt xs wFlow (h1 xs)).1, (stInt xs wList (h2 xs)).1, (stInt xs wN (h3 xs)).1, (stInt xs wTok (h4 xs)).1, (stInt xs wTok (h5 xs)).1, (stInt xs wTok (h6 xs)).1, (stInt xs wTok (h7 xs)).1, A', c', (stBytes xs wData 4096 (h8 xs)).1, none, 0, []⟩) := Lib.hid
    ⟨R.own hs (fun k e => by omega), (HB1.out.fr HG9 (fun h => by omega)).fr hs (by omega), by
      have h1 := B.set 8 (.slice A' (stBytes xs wData 4096 (h8 xs)).1.length c')
      simp only [List.setIfInBounds_toArray, List.set_cons_zero, List.set_cons_succ] at h1
      exact h1, OwnD.nil _, From.nil _ _ _, fun p hp => by simp at hp, ho.fr hs (fun k e e2 => by have := hkk k e; omega), fun k e => by have := hkk k e; omega⟩
  have K9 := Lib.hid (show Calls Tryd.prog 46 #[.pointer (some ⟨g, 0, none⟩), .string ⟨#[99, 111, 117, 110, 116]⟩, .int .i64 0, .int .i64 32] (w8.setCell ⟨ga + 1, 8, none⟩ (.slice A' (stBytes xs wData 4096 (h8 xs)).1.length c')) (fun e w' => e = .returned (.int .i64 (hN xs)) ∧ RS w ga g A n c xs w' (h10 xs) ∧ Fr (fun x => x = g) (w8.setCell ⟨ga + 1, 8, none⟩ (.slice A' (stBytes xs wData 4096 (h8 xs)).1.length c')) w') from HRC.out.rs.between wCount 0 32)
  clear ho hk R f B K8 HC8 HG8 HR8 HG9 hsz hkk hs HGW7
  go_wp2_with fail
  clear c0 f0
  refine K9.out.mono ?_; rintro e w9 ⟨rfl, R, f⟩
  have HRC9 := Lib.hid (HRC.out.low R f (fun k e => by rw [e]; exact R.gl))
  clear K9 R f HRC
  go_wp2_with fail
  obtain ⟨M, hM⟩ : ∃ M : Nat, hN xs = M := ⟨(hN xs).toNat, by have := hN_range xs; omega⟩
  have hM32 : M ≤ 32 := by have := hN_range xs; omega
  have HCL : Hid (∀ (lA : Option Addr) (lc : Nat) (ds : List DI), ds.map DI.d = rdV xs M (h10 xs) → CI.cl ⟨(stInt xs wKind (.at_ 0)).1, (stInt xs wFlow (h1 xs)).1, (stInt xs wList (h2 xs)).1, (stInt xs wN (h3 xs)).1, (stInt xs wTok (h4 xs)).1, (stInt xs wTok (h5 xs)).1, (stInt xs wTok (h6 xs)).1, (stInt xs wTok (h7 xs)).1, A', c', (stBytes xs wData 4096 (h8 xs)).1, lA, lc, ds⟩ = rdC xs) := Lib.hid (fun lA lc ds hd => by
    unfold CI.cl rdC
    rw [hM, Int.toNat_natCast, ← hd])
  have HCS : Hid (rdS xs M (h10 xs) = rdCs xs) := Lib.hid (by unfold rdCs; rw [hM, Int.toNat_natCast])
  rw [hM]
  clear hM
  generalize (stInt xs wKind (.at_ 0)).1 = v0 at *
  generalize (stInt xs wFlow (h1 xs)).1 = v1 at *
  generalize (stInt xs wList (h2 xs)).1 = v2 at *
  generalize (stInt xs wN (h3 xs)).1 = v3 at *
  generalize (stInt xs wTok (h4 xs)).1 = v4 at *
  generalize (stInt xs wTok (h5 xs)).1 = v5 at *
  generalize (stInt xs wTok (h6 xs)).1 = v6 at *
  generalize (stInt xs wTok (h7 xs)).1 = v7 at *
  generalize (stBytes xs wData 4096 (h8 xs)).1 = BS at *
  go_loopw [37] (fun i wr => ∃ (k : Nat) (lA : Option Addr) (lc : Nat) (ds : List DI), k ≤ M ∧ i = .int .i64 k ∧ RC w ga g A n c xs wr (rdS xs k (h10 xs)) ⟨v0, v1, v2, v3, v4, v5, v6, v7, A', c', BS, lA, lc, ds⟩ ∧ ds.map DI.d = rdV xs k (h10 xs)) (fun i _ => M - (intOf i).toNat)
  case atStart => exact ⟨0, none, 0, [], Nat.zero_le _, rfl, HRC9.out, rfl⟩
  case round =>
    obtain ⟨k, lA, lc, ds, hk, rfl, hrc, hds⟩ := hrel
    have HRC := Lib.hid hrc
    have HDS := Lib.hid hds
    clear hrc hds HRC9
    have hdl : ds.length = k := by have := congrArg List.length HDS.out; rw [List.length_map, rdV_len] at this; exact this
    by_cases hlt : k < M
    · have hd32 : ds.length ≤ 1048576 := by omega
      have HST : Hid (rdS xs (k + 1) (h10 xs) = rdDs xs (rdS xs k (h10 xs))) := Lib.hid rfl
      have HSV : Hid (rdV xs (k + 1) (h10 xs) = rdV xs k (h10 xs) ++ [rdDv xs (rdS xs k (h10 xs))]) := Lib.hid rfl
      have CDEC := Lib.hid (RC.dec (HRC.out.quiet ((Fr.refl _ _).drew)))
      have HL9 := Lib.hid (fun w' (hf : Fr (fun x => x = g) wr w') => show w'.cell? ⟨ga + 1, 9, none⟩ = some (.slice lA ds.length lc) from (HRC.out.loc.fr hf hne2).cell 9)
      generalize rdDv xs (rdS xs k (h10 xs)) = D at *
      generalize rdDs xs (rdS xs k (h10 xs)) = sn at *
      have hlt' : (k : Int) < (M : Int) := by omega
      clear hdl
      go_wp2_with fail
      refine wp_region_held_drew (S := fun w' => Fr (fun x => x = g ∨ (Value.slice lA ds.length lc).ownBlock = some x ∨ x = ga + 1) wr w') (by kernel_rfl) ((Fr.refl _ _).drew) (fun hHeld => ?_)
      refine wpAnyH_takeD (i := 0) (v := ?_) (some 39) rfl rfl (by kernel_rfl) (by kernel_rfl) (by kernel_rfl) (fun _ _ _ h => h) (Or.inl ⟨by rfl, ?_⟩) (by assumption) ?_
      rotate_left
      · intro w' hSw
        go_simp
        first | done | with_reducible rfl
      try simp only [Act.put, List.setIfInBounds_toArray, List.set_cons_zero, List.set_cons_succ]
      refine wpAnyH_takeD (i := 2) (v := ?_) (some 41) rfl rfl (by kernel_rfl) (by kernel_rfl) (by kernel_rfl) (fun _ _ _ h => h) (Or.inl ⟨by rfl, ?_⟩) (by assumption) ?_
      rotate_left
      · intro w' hSw
        go_simp
        first | done | with_reducible rfl
      try simp only [Act.put, List.setIfInBounds_toArray, List.set_cons_zero, List.set_cons_succ]
      refine wpAnyH_ready (rs := [1, 3]) (by kernel_rfl) (by simp) ?_
      refine AllReadyH.cons rfl (fun K hK => ?_) (AllReadyH.cons rfl (fun K hK => ?_) AllReadyH.nil)
      · skip
        have k9 := HL9.out wr (Fr.refl _ _)
        go_simp
        refine hK.out _ _ (hHeld) (fun hHeld => ?_)
        clear hK K
        try change wpAnyH _ _ _ _ _ _ _ (Act.put _ (some 40) _) _
        try simp only [Act.put, List.setIfInBounds_toArray, List.set_cons_zero, List.set_cons_succ]
        clear k9
        refine wpAnyH_ready (rs := [3]) (by kernel_rfl) (by simp) ?_
        refine AllReadyH.cons rfl (fun K hK => ?_) AllReadyH.nil
        go_simp
        refine CDEC.out.mono ?_; rintro e w2 ⟨A2, c2, rfl, ho2, hB2, R2, f2⟩
        have f2g : Fr (fun x => x = g) wr w2 := ((Fr.refl _ _).drew).trans f2 (fun _ _ e => e)
        try go_simp
        have hS2 : Fr (fun x => x = g ∨ (Value.slice lA ds.length lc).ownBlock = some x ∨ x = ga + 1) wr w2 := f2g.mono (fun _ _ e => .inl e)
        refine hK.out _ _ (hS2) (fun hHeld => ?_)
        clear hK K
        try change wpAnyH _ _ _ _ _ _ _ (Act.put _ (some 42) _) _
        try simp only [Act.put, List.setIfInBounds_toArray, List.set_cons_zero, List.set_cons_succ]
        have HO2 := Lib.hid ho2
        have HB2b := Lib.hid hB2
        have HR2 := Lib.hid R2
        clear ho2 hB2 R2 f2 CDEC
        refine wpAnyH_ready (rs := [4]) (by kernel_rfl) (by simp) ?_
        refine AllReadyH.cons rfl (fun K hK => ?_) AllReadyH.nil
        go_simp
        refine hK.out _ _ (hHeld.alloc _) (fun hHeld => ?_)
        clear hK K
        try change wpAnyH _ _ _ _ _ _ _ (Act.put _ (some 43) _) _
        try simp only [Act.put, List.setIfInBounds_toArray, List.set_cons_zero, List.set_cons_succ]
        refine wpAnyH_ready (rs := [5]) (by kernel_rfl) (by simp) ?_
        refine AllReadyH.cons rfl (fun K hK => ?_) AllReadyH.nil
        refine stepOf_appendD (w := w2) rfl (.tmp 40) (.tmp 43) rfl (.slice lA ds.length lc) ds rfl HR2.out.row ⟨D, A2, c2⟩ rfl hd32 ?_
        intro lb c3 w3 ho3 hf3 hm3
        have hS3 : Fr (fun x => x = g ∨ (Value.slice lA ds.length lc).ownBlock = some x ∨ x = ga + 1) wr w3 := hS2.trans hf3 (fun _ _ e => .inr (.inl e))
        refine hK.out _ _ (hS3) (fun hHeld => ?_)
        clear hK K
        try change wpAnyH _ _ _ _ _ _ _ (Act.put _ (some 44) _) _
        try simp only [Act.put, List.setIfInBounds_toArray, List.set_cons_zero, List.set_cons_succ]
        refine wpAnyH_takeD (i := 6) (v := ?_) (some 45) rfl rfl (by kernel_rfl) (by kernel_rfl) (by kernel_rfl) (fun _ _ _ h => h) (Or.inl ⟨by rfl, ?_⟩) (by assumption) ?_
        rotate_left
        · intro w' hSw
          go_simp
          first | done | with_reducible rfl
        try simp only [Act.put, List.setIfInBounds_toArray, List.set_cons_zero, List.set_cons_succ]
        have HN9 := Lib.hid (HR2.out.push (p := ⟨D, A2, c2⟩) HO2.out HB2b.out ho3 hf3 hm3)
        have l3 := HR2.out.loc.fr hf3 (HR2.out.row.ne HR2.out.loc (by decide))
        have k9 : w3.cell? ⟨ga + 1, 9, none⟩ = some (.slice lA ds.length lc) := l3.cell 9
        have f9 : w3.frozen? ⟨ga + 1, 9, none⟩ = false := l3.frozen 9
        clear l3 ho3 hf3 hm3 hS2
        refine wpAnyH_ready (rs := [7]) (by kernel_rfl) (by simp) ?_
        refine AllReadyH.cons rfl (fun K hK => ?_) AllReadyH.nil
        go_simp
        refine hK.out _ _ (hHeld.setCell (fun _ => .inr (.inr rfl)) _) (fun hHeld => ?_)
        clear hK K
        try change wpAnyH _ _ _ _ _ _ _ (Act.put _ none _) _
        try simp only [Act.put, List.setIfInBounds_toArray, List.set_cons_zero, List.set_cons_succ]
        refine wpAnyH_done (by kernel_rfl) ?_ _
        clear k9 f9 hS3 hHeld f2g HL9 HRC HO2 HB2b HR2
        go_wp2
        go_roundw
        case rel => exact ⟨k + 1, some ⟨lb, 0, none⟩, c3, ds ++ [⟨D, A2, c2⟩], by omega, by go_num, by rw [HST.out]; exact HN9.out, by rw [HSV.out, List.map_append, HDS.out]; rfl⟩
        case measure => simp [intOf]; omega
      · skip
        go_simp
        refine CDEC.out.mono ?_; rintro e w2 ⟨A2, c2, rfl, ho2, hB2, R2, f2⟩
        have f2g : Fr (fun x => x = g) wr w2 := ((Fr.refl _ _).drew).trans f2 (fun _ _ e => e)
        try go_simp
        have hS2 : Fr (fun x => x = g ∨ (Value.slice lA ds.length lc).ownBlock = some x ∨ x = ga + 1) wr w2 := f2g.mono (fun _ _ e => .inl e)
        refine hK.out _ _ (hS2) (fun hHeld => ?_)
        clear hK K
        try change wpAnyH _ _ _ _ _ _ _ (Act.put _ (some 42) _) _
        try simp only [Act.put, List.setIfInBounds_toArray, List.set_cons_zero, List.set_cons_succ]
        have HO2 := Lib.hid ho2
        have HB2b := Lib.hid hB2
        have HR2 := Lib.hid R2
        clear ho2 hB2 R2 f2 CDEC
        refine wpAnyH_ready (rs := [1, 4]) (by kernel_rfl) (by simp) ?_
        refine AllReadyH.cons rfl (fun K hK => ?_) (AllReadyH.cons rfl (fun K hK => ?_) AllReadyH.nil)
        · skip
          have k9 := HL9.out w2 f2g
          go_simp
          refine hK.out _ _ (hHeld) (fun hHeld => ?_)
          clear hK K
          try change wpAnyH _ _ _ _ _ _ _ (Act.put _ (some 40) _) _
          try simp only [Act.put, List.setIfInBounds_toArray, List.set_cons_zero, List.set_cons_succ]
          clear k9
          refine wpAnyH_ready (rs := [4]) (by kernel_rfl) (by simp) ?_
          refine AllReadyH.cons rfl (fun K hK => ?_) AllReadyH.nil
          go_simp
          refine hK.out _ _ (hHeld.alloc _) (fun hHeld => ?_)
          clear hK K
          try change wpAnyH _ _ _ _ _ _ _ (Act.put _ (some 43) _) _
          try simp only [Act.put, List.setIfInBounds_toArray, List.set_cons_zero, List.set_cons_succ]
          refine wpAnyH_ready (rs := [5]) (by kernel_rfl) (by simp) ?_
          refine AllReadyH.cons rfl (fun K hK => ?_) AllReadyH.nil
          refine stepOf_appendD (w := w2) rfl (.tmp 40) (.tmp 43) rfl (.slice lA ds.length lc) ds rfl HR2.out.row ⟨D, A2, c2⟩ rfl hd32 ?_
          intro lb c3 w3 ho3 hf3 hm3
          have hS3 : Fr (fun x => x = g ∨ (Value.slice lA ds.length lc).ownBlock = some x ∨ x = ga + 1) wr w3 := hS2.trans hf3 (fun _ _ e => .inr (.inl e))
          refine hK.out _ _ (hS3) (fun hHeld => ?_)
          clear hK K
          try change wpAnyH _ _ _ _ _ _ _ (Act.put _ (some 44) _) _
          try simp only [Act.put, List.setIfInBounds_toArray, List.set_cons_zero, List.set_cons_succ]
          refine wpAnyH_takeD (i := 6) (v := ?_) (some 45) rfl rfl (by kernel_rfl) (by kernel_rfl) (by kernel_rfl) (fun _ _ _ h => h) (Or.inl ⟨by rfl, ?_⟩) (by assumption) ?_
          rotate_left
          · intro w' hSw
            go_simp
            first | done | with_reducible rfl
          try simp only [Act.put, List.setIfInBounds_toArray, List.set_cons_zero, List.set_cons_succ]
          have HN9 := Lib.hid (HR2.out.push (p := ⟨D, A2, c2⟩) HO2.out HB2b.out ho3 hf3 hm3)
          have l3 := HR2.out.loc.fr hf3 (HR2.out.row.ne HR2.out.loc (by decide))
          have k9 : w3.cell? ⟨ga + 1, 9, none⟩ = some (.slice lA ds.length lc) := l3.cell 9
          have f9 : w3.frozen? ⟨ga + 1, 9, none⟩ = false := l3.frozen 9
          clear l3 ho3 hf3 hm3 hS2
          refine wpAnyH_ready (rs := [7]) (by kernel_rfl) (by simp) ?_
          refine AllReadyH.cons rfl (fun K hK => ?_) AllReadyH.nil
          go_simp
          refine hK.out _ _ (hHeld.setCell (fun _ => .inr (.inr rfl)) _) (fun hHeld => ?_)
          clear hK K
          try change wpAnyH _ _ _ _ _ _ _ (Act.put _ none _) _
          try simp only [Act.put, List.setIfInBounds_toArray, List.set_cons_zero, List.set_cons_succ]
          refine wpAnyH_done (by kernel_rfl) ?_ _
          clear k9 f9 hS3 hHeld f2g HL9 HRC HO2 HB2b HR2
          go_wp2
          go_roundw
          case rel => exact ⟨k + 1, some ⟨lb, 0, none⟩, c3, ds ++ [⟨D, A2, c2⟩], by omega, by go_num, by rw [HST.out]; exact HN9.out, by rw [HSV.out, List.map_append, HDS.out]; rfl⟩
          case measure => simp [intOf]; omega
        · skip
          go_simp
          refine hK.out _ _ (hHeld.alloc _) (fun hHeld => ?_)
          clear hK K
          try change wpAnyH _ _ _ _ _ _ _ (Act.put _ (some 43) _) _
          try simp only [Act.put, List.setIfInBounds_toArray, List.set_cons_zero, List.set_cons_succ]
          refine wpAnyH_ready (rs := [1]) (by kernel_rfl) (by simp) ?_
          refine AllReadyH.cons rfl (fun K hK => ?_) AllReadyH.nil
          have k9 := HL9.out w2 f2g
          have k9w := HL9.out _ (f2g.alloc (.cells #[.int .i64 D.k, .int .i64 D.i, .int .i64 D.l, .int .i64 D.n, .slice A2 D.bs.length c2] 30))
          go_simp
          refine hK.out _ _ (hHeld) (fun hHeld => ?_)
          clear hK K
          try change wpAnyH _ _ _ _ _ _ _ (Act.put _ (some 40) _) _
          try simp only [Act.put, List.setIfInBounds_toArray, List.set_cons_zero, List.set_cons_succ]
          clear k9 k9w
          refine wpAnyH_ready (rs := [5]) (by kernel_rfl) (by simp) ?_
          refine AllReadyH.cons rfl (fun K hK => ?_) AllReadyH.nil
          refine stepOf_appendD (w := w2) rfl (.tmp 40) (.tmp 43) rfl (.slice lA ds.length lc) ds rfl HR2.out.row ⟨D, A2, c2⟩ rfl hd32 ?_
          intro lb c3 w3 ho3 hf3 hm3
          have hS3 : Fr (fun x => x = g ∨ (Value.slice lA ds.length lc).ownBlock = some x ∨ x = ga + 1) wr w3 := hS2.trans hf3 (fun _ _ e => .inr (.inl e))
          refine hK.out _ _ (hS3) (fun hHeld => ?_)
          clear hK K
          try change wpAnyH _ _ _ _ _ _ _ (Act.put _ (some 44) _) _
          try simp only [Act.put, List.setIfInBounds_toArray, List.set_cons_zero, List.set_cons_succ]
          refine wpAnyH_takeD (i := 6) (v := ?_) (some 45) rfl rfl (by kernel_rfl) (by kernel_rfl) (by kernel_rfl) (fun _ _ _ h => h) (Or.inl ⟨by rfl, ?_⟩) (by assumption) ?_
          rotate_left
          · intro w' hSw
            go_simp
            first | done | with_reducible rfl
          try simp only [Act.put, List.setIfInBounds_toArray, List.set_cons_zero, List.set_cons_succ]
          have HN9 := Lib.hid (HR2.out.push (p := ⟨D, A2, c2⟩) HO2.out HB2b.out ho3 hf3 hm3)
          have l3 := HR2.out.loc.fr hf3 (HR2.out.row.ne HR2.out.loc (by decide))
          have k9 : w3.cell? ⟨ga + 1, 9, none⟩ = some (.slice lA ds.length lc) := l3.cell 9
          have f9 : w3.frozen? ⟨ga + 1, 9, none⟩ = false := l3.frozen 9
          clear l3 ho3 hf3 hm3 hS2
          refine wpAnyH_ready (rs := [7]) (by kernel_rfl) (by simp) ?_
          refine AllReadyH.cons rfl (fun K hK => ?_) AllReadyH.nil
          go_simp
          refine hK.out _ _ (hHeld.setCell (fun _ => .inr (.inr rfl)) _) (fun hHeld => ?_)
          clear hK K
          try change wpAnyH _ _ _ _ _ _ _ (Act.put _ none _) _
          try simp only [Act.put, List.setIfInBounds_toArray, List.set_cons_zero, List.set_cons_succ]
          refine wpAnyH_done (by kernel_rfl) ?_ _
          clear k9 f9 hS3 hHeld f2g HL9 HRC HO2 HB2b HR2
          go_wp2
          go_roundw
          case rel => exact ⟨k + 1, some ⟨lb, 0, none⟩, c3, ds ++ [⟨D, A2, c2⟩], by omega, by go_num, by rw [HST.out]; exact HN9.out, by rw [HSV.out, List.map_append, HDS.out]; rfl⟩
          case measure => simp [intOf]; omega
    · obtain rfl : k = M := by omega
      clear hdl
      have l0 := HRC.out.loc
      have r0 := HRC.out.res
      unfold CI.cells at l0
      unfold zC at r0
      have c0 := l0.cell 0
      have e0 := r0.cell 0
      have g0 : wr.frozen? ⟨ga, 0, none⟩ = false := r0.frozen 0
      have c1 := l0.cell 1
      have e1 := r0.cell 1
      have g1 : wr.frozen? ⟨ga, 1, none⟩ = false := r0.frozen 1
      have c2 := l0.cell 2
      have e2 := r0.cell 2
      have g2 : wr.frozen? ⟨ga, 2, none⟩ = false := r0.frozen 2
      have c3 := l0.cell 3
      have e3 := r0.cell 3
      have g3 : wr.frozen? ⟨ga, 3, none⟩ = false := r0.frozen 3
      have c4 := l0.cell 4
      have e4 := r0.cell 4
      have g4 : wr.frozen? ⟨ga, 4, none⟩ = false := r0.frozen 4
      have c5 := l0.cell 5
      have e5 := r0.cell 5
      have g5 : wr.frozen? ⟨ga, 5, none⟩ = false := r0.frozen 5
      have c6 := l0.cell 6
      have e6 := r0.cell 6
      have g6 : wr.frozen? ⟨ga, 6, none⟩ = false := r0.frozen 6
      have c7 := l0.cell 7
      have e7 := r0.cell 7
      have g7 : wr.frozen? ⟨ga, 7, none⟩ = false := r0.frozen 7
      have c8 := l0.cell 8
      have e8 := r0.cell 8
      have g8 : wr.frozen? ⟨ga, 8, none⟩ = false := r0.frozen 8
      have c9 := l0.cell 9
      have e9 := r0.cell 9
      have g9 : wr.frozen? ⟨ga, 9, none⟩ = false := r0.frozen 9
      simp only [List.getElem?_toArray, List.getElem?_cons_zero, List.getElem?_cons_succ] at c0 e0 c1 e1 c2 e2 c3 e3 c4 e4 c5 e5 c6 e6 c7 e7 c8 e8 c9 e9
      clear l0 r0
      go_wp2
      refine bodyPost_ret (v := .agg #[.int .i64 v0, .int .i64 v1, .int .i64 v2, .int .i64 v3, .int .i64 v4, .int .i64 v5, .int .i64 v6, .int .i64 v7, .slice A' BS.length c', .slice lA ds.length lc]) (by simp [results, Tryd.results23, go_sem, e0, e1, e2, e3, e4, e5, e6, e7, e8, e9]) rfl ?_
      have hfin : Fr (fun k => k = ga) wr ((((((((((wr.setCell ⟨ga, 0, none⟩ (.int .i64 v0)).setCell ⟨ga, 1, none⟩ (.int .i64 v1)).setCell ⟨ga, 2, none⟩ (.int .i64 v2)).setCell ⟨ga, 3, none⟩ (.int .i64 v3)).setCell ⟨ga, 4, none⟩ (.int .i64 v4)).setCell ⟨ga, 5, none⟩ (.int .i64 v5)).setCell ⟨ga, 6, none⟩ (.int .i64 v6)).setCell ⟨ga, 7, none⟩ (.int .i64 v7)).setCell ⟨ga, 8, none⟩ (.slice A' BS.length c')).setCell ⟨ga, 9, none⟩ (.slice lA ds.length lc)) := (Fr.setCell (S := fun k => k = ga) (p := ⟨ga, 9, none⟩) (Fr.setCell (S := fun k => k = ga) (p := ⟨ga, 8, none⟩) (Fr.setCell (S := fun k => k = ga) (p := ⟨ga, 7, none⟩) (Fr.setCell (S := fun k => k = ga) (p := ⟨ga, 6, none⟩) (Fr.setCell (S := fun k => k = ga) (p := ⟨ga, 5, none⟩) (Fr.setCell (S := fun k => k = ga) (p := ⟨ga, 4, none⟩) (Fr.setCell (S := fun k => k = ga) (p := ⟨ga, 3, none⟩) (Fr.setCell (S := fun k => k = ga) (p := ⟨ga, 2, none⟩) (Fr.setCell (S := fun k => k = ga) (p := ⟨ga, 1, none⟩) (Fr.setCell (S := fun k => k = ga) (p := ⟨ga, 0, none⟩) (Fr.refl (fun k => k = ga) wr) (fun _ => rfl) _) (fun _ => rfl) _) (fun _ => rfl) _) (fun _ => rfl) _) (fun _ => rfl) _) (fun _ => rfl) _) (fun _ => rfl) _) (fun _ => rfl) _) (fun _ => rfl) _) (fun _ => rfl) _)
      have R := HRC.out.rs.own hfin (fun k e => by omega)
      have hr := HRC.out.row.fr hfin (fun k e e2 => HRC.out.row.ne HRC.out.res (by decide) (by rw [e, e2]))
      have o8 : ∀ {v : Value} {bs : List UInt8}, Own8 wr 5 v bs → Own8 ((((((((((wr.setCell ⟨ga, 0, none⟩ (.int .i64 v0)).setCell ⟨ga, 1, none⟩ (.int .i64 v1)).setCell ⟨ga, 2, none⟩ (.int .i64 v2)).setCell ⟨ga, 3, none⟩ (.int .i64 v3)).setCell ⟨ga, 4, none⟩ (.int .i64 v4)).setCell ⟨ga, 5, none⟩ (.int .i64 v5)).setCell ⟨ga, 6, none⟩ (.int .i64 v6)).setCell ⟨ga, 7, none⟩ (.int .i64 v7)).setCell ⟨ga, 8, none⟩ (.slice A' BS.length c')).setCell ⟨ga, 9, none⟩ (.slice lA ds.length lc)) 5 v bs := fun ho => ho.fr hfin (fun k e e2 => ho.ne HRC.out.res (by decide) (by rw [e, e2]))
      have hG := HGA.out
      refine ⟨⟨v0, v1, v2, v3, v4, v5, v6, v7, A', c', BS, lA, lc, ds⟩, rfl, HCL.out lA lc ds HDS.out, ⟨(o8 HRC.out.data).rd, fun ad e _ => ?_, hr.dsAt (fun k e => ?_) (fun p hp => ⟨o8 (HRC.out.each p hp).1, fun k e => ?_⟩)⟩, by rw [← HCS.out]; exact R.rd, R.nb.mono (fun x hx e => ?_)⟩
      · have := HRC.out.dataB ad.block (by show (Value.slice A' BS.length c').ownBlock = _; simp only at e; rw [e]; rfl)
        show w.heap.size ≤ ad.block; omega
      · have := HRC.out.rowB k e
        show w.heap.size ≤ k; omega
      · have := (HRC.out.each p hp).2 k e
        show w.heap.size ≤ k; omega
      · rcases e with e | e
        · exact e
        · omega
end Go.Proofs.YtblfnbmgijppmaaDoor
