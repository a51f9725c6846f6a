/- The reference's reader inside a function; a call that it is reading. -/
import Derived.Test.YtblfnbmgijppmaaDoorKh
import Derived.Test.YtblfnbmgijppmaaDoorHd
namespace Go.Proofs.YtblfnbmgijppmaaDoor
open Go.RowKit

/-- The reference's reader that is used inside a function; B: the function's first block of its own behind the reader. -/
structure QS (w : World) (B g : Nat) (A : Option Addr) (n c : Nat) (xs : List UInt8) (wk : World) (s : St) : Prop where
  rd : RRAt wk g A n c xs s
  nb : Fr (fun x => x = g ∨ B ≤ x) w wk
  gl : g < B
  src : ∀ ad, A = some ad → 0 < n → ad.block < B ∧ ad.block ≠ g
  hn : n ≤ 140737488355328
section
variable {w wk w2 : World} {B g : Nat} {A : Option Addr} {n c : Nat} {xs : List UInt8} {s s2 : St}
theorem QS.own {S : Nat → Prop} (h : QS w B g A n c xs wk s) (hf : Fr S wk w2) (hS : ∀ k, S k → B ≤ k) : QS w B g A n c xs w2 s :=
  ⟨h.rd.fr hf (fun e => by have := hS _ e; have := h.gl; omega) (fun ad e h0 e2 => by have := hS _ e2; have := h.src ad e h0; omega),
    h.nb.trans hf (fun x _ hx => .inr (hS x hx)), h.gl, h.src, h.hn⟩
theorem QS.to (h : QS w B g A n c xs wk s) (hr : RRAt w2 g A n c xs s2) (hf : Fr (fun x => x = g) wk w2) : QS w B g A n c xs w2 s2 :=
  ⟨hr, h.nb.trans hf (fun _ _ e => .inl e), h.gl, h.src, h.hn⟩
theorem QS.int (h : QS w B g A n c xs wk s) (wh : ByteArray) :
    Calls Tryd.prog 24 #[.pointer (some ⟨g, 0, none⟩), .string wh] wk fun e w' => e = .returned (.int .i64 (stInt xs wh s).1) ∧ QS w B g A n c xs w' (stInt xs wh s).2 ∧ Fr (fun x => x = g) wk w' :=
  (refInt_any h.rd wh).mono fun _ _ ⟨h1, h2, h3⟩ => ⟨h1, h.to h2 h3, h3⟩
theorem QS.between (h : QS w B g A n c xs wk s) (wh : ByteArray) (lo hi : Int) :
    Calls Tryd.prog 26 #[.pointer (some ⟨g, 0, none⟩), .string wh, .int .i64 lo, .int .i64 hi] wk fun e w' => e = .returned (.int .i64 (stBetween xs wh lo hi s).1) ∧ QS w B g A n c xs w' (stBetween xs wh lo hi s).2 ∧ Fr (fun x => x = g) wk w' :=
  (refBetween_any h.rd h.hn wh lo hi).mono fun _ _ ⟨h1, h2, h3⟩ => ⟨h1, h.to h2 h3, h3⟩
theorem QS.bytes (h : QS w B g A n c xs wk s) (wh : ByteArray) (most : Int) :
    Calls Tryd.prog 25 #[.pointer (some ⟨g, 0, none⟩), .string wh, .int .i64 most] wk fun e w' => ∃ A' c', e = .returned (.slice A' (stBytes xs wh most s).1.length c') ∧ Own8 w' 5 (.slice A' (stBytes xs wh most s).1.length c') (stBytes xs wh most s).1 ∧ (∀ k, (Value.slice A' (stBytes xs wh most s).1.length c').ownBlock = some k → wk.heap.size ≤ k) ∧ QS w B g A n c xs w' (stBytes xs wh most s).2 ∧ Fr (fun x => x = g) wk w' := by
  refine (refBytes_any h.rd h.hn wh most).mono ?_
  rintro e w1 ⟨v, rfl, ⟨A', c', rfl, ho, hk⟩, h1, h2⟩
  exact ⟨A', c', rfl, ho, hk, h.to h1 h2, h2⟩
end
def zF : Array Value := #[.int .i64 0, .int .i64 0, .string ⟨#[]⟩]
/-- A call that the reference is reading: ga, ga + 1: the results' blocks; ga + 2: the reader; ga + 3: the local one. -/
structure QC (W : World) (ga : Nat) (A : Option Addr) (n c : Nat) (xs : List UInt8) (wk : World) (s : St) (x : CI) : Prop where
  rs : QS W (ga + 3) (ga + 2) A n c xs wk s
  res : Bk wk ga 27 zC
  flt : Bk wk (ga + 1) 37 zF
  loc : Bk wk (ga + 3) 27 x.cells
  row : OwnD wk x.LV x.ds
  rowB : From (ga + 4) x.LV
  each : ∀ p ∈ x.ds, Own8 wk 5 (.slice p.A p.d.bs.length p.c) p.d.bs ∧ From (ga + 4) (.slice p.A p.d.bs.length p.c)
  data : Own8 wk 5 x.BV x.bs
  dataB : From (ga + 4) x.BV
section
variable {W wk w2 : World} {ga : Nat} {A : Option Addr} {n c : Nat} {xs : List UInt8} {s s2 : St} {x : CI}
theorem QC.far (h : QC W ga A n c xs wk s x) (r : QS W (ga + 3) (ga + 2) A n c xs w2 s2) (hf : Fr (fun k => k = ga + 2 ∨ wk.heap.size ≤ k) wk w2) : QC W ga A n c xs w2 s2 x :=
  ⟨r, h.res.fr hf (fun e => by have := h.res.lt; omega), h.flt.fr hf (fun e => by have := h.flt.lt; omega), h.loc.fr hf (fun e => by have := h.loc.lt; omega),
    h.row.fr hf (fun k e e2 => by have := h.rowB k e; have := h.row.lt e; omega), h.rowB,
    fun p hp => ⟨(h.each p hp).1.fr hf (fun k e e2 => by have := (h.each p hp).2 k e; have := (h.each p hp).1.lt e; omega), (h.each p hp).2⟩, h.data.fr hf (fun k e e2 => by have := h.dataB k e; have := h.data.lt e; omega), h.dataB⟩
/-- One more decision. -/
theorem QC.push {w3 : World} (h : QC W ga A n c xs wk s x) {p : DI} (ho : Own8 wk 5 (.slice p.A p.d.bs.length p.c) p.d.bs) (hB : From (ga + 4) (.slice p.A p.d.bs.length p.c)) {lb c' : Nat}
    (hr : OwnD w3 (.slice (some ⟨lb, 0, none⟩) (x.ds.length + 1) c') (x.ds ++ [p])) (hf : Fr (fun k => x.LV.ownBlock = some k) wk w3) (hm : Moved wk x.LV (.slice (some ⟨lb, 0, none⟩) (x.ds.length + 1) c')) :
    QC W ga A n c xs (w3.setCell ⟨ga + 3, 9, none⟩ (.slice (some ⟨lb, 0, none⟩) (x.ds.length + 1) c')) s { x with lA := some ⟨lb, 0, none⟩, lc := c', ds := x.ds ++ [p] } := by
  have nga1 : ¬ x.LV.ownBlock = some (ga + 3) := h.row.ne h.loc (by decide)
  have n8 : ∀ {v : Value} {bs : List UInt8}, Own8 wk 5 v bs → ∀ k, v.ownBlock = some k → ¬ x.LV.ownBlock = some k := fun ho k e e2 => by
    obtain ⟨cs, hb⟩ := h.row.bk e2
    exact ho.ne hb (by decide) e
  have hsz : ga + 4 ≤ wk.heap.size := h.loc.lt
  have lbk : ∀ k, (Value.slice (some ⟨lb, 0, none⟩) (x.ds.length + 1) c').ownBlock = some k → ga + 4 ≤ k := fun k e => by
    rcases hm with e1 | ⟨y, e1, h1⟩
    · exact h.rowB k (e1.symm.trans e)
    · rw [e1] at e; injection e with e; omega
  have hs : Fr (fun k => k = ga + 3) w3 (w3.setCell ⟨ga + 3, 9, none⟩ (.slice (some ⟨lb, 0, none⟩) (x.ds.length + 1) c')) := fr_set
  have hl3 : Bk w3 (ga + 3) 27 x.cells := h.loc.fr hf nga1
  have e8 : ∀ {v : Value} {bs : List UInt8}, Own8 wk 5 v bs → Own8 (w3.setCell ⟨ga + 3, 9, none⟩ (.slice (some ⟨lb, 0, none⟩) (x.ds.length + 1) c')) 5 v bs := fun ho => by
    have h3 := ho.fr hf (n8 ho)
    exact h3.fr hs (fun k e e2 => h3.ne hl3 (by decide) (by rw [e, e2]))
  have he : (({ x with lA := some ⟨lb, 0, none⟩, lc := c', ds := x.ds ++ [p] } : CI)).LV = .slice (some ⟨lb, 0, none⟩) (x.ds.length + 1) c' := by simp [CI.LV]
  refine ⟨(h.rs.own hf (fun k e => by have := h.rowB k e; omega)).own hs (fun k e => by omega), (h.res.fr hf (fun e => by have := h.rowB _ e; omega)).fr hs (by omega), (h.flt.fr hf (fun e => by have := h.rowB _ e; omega)).fr hs (by omega), ?_, ?_, ?_, ?_, e8 h.data, h.dataB⟩
  · have := hl3.set 9 (.slice (some ⟨lb, 0, none⟩) (x.ds.length + 1) c')
    have e : x.cells.setIfInBounds 9 (.slice (some ⟨lb, 0, none⟩) (x.ds.length + 1) c') = (({ x with lA := some ⟨lb, 0, none⟩, lc := c', ds := x.ds ++ [p] } : CI)).cells := by simp [CI.cells]
    rw [e] at this; exact this
  · rw [he]; exact hr.fr hs (fun k e e2 => hr.ne hl3 (by decide) (by rw [e, e2]))
  · rw [he]; exact lbk
  · intro q hq
    rcases List.mem_append.1 hq with hq | hq
    · exact ⟨e8 (h.each q hq).1, (h.each q hq).2⟩
    · simp at hq; subst hq; exact ⟨e8 ho, hB⟩
end
/-- What the reference tells in the end. -/
def FltIs (er a : Int) (wh : ByteArray) : Option (Int × Int × ByteArray) → Prop
  | none => er = 0
  | some (er', a', wh') => er = er' ∧ a = a' ∧ wh = wh' ∧ er' ≠ 0
theorem refEnd_any {w : World} {g : Nat} {A : Option Addr} {n c : Nat} {xs : List UInt8} {s : St} (h : RRAt w g A n c xs s) :
    Calls Tryd.prog 27 #[.pointer (some ⟨g, 0, none⟩)] w fun e w' => ∃ er a wh, e = .returned (.agg #[.int .i64 er, .int .i64 a, .string wh]) ∧ FltIs er a wh (stEnd xs s) ∧ Fr (fun _ => False) w w' := by
  cases s with
  | bad er a w0 =>
    obtain ⟨he, p, hr⟩ := h
    have he' : (er == 0) = false := by rw [beq_eq_false_iff_ne]; exact he
    exact (refEnd_bad hr he').mono fun _ _ ⟨h1, h2⟩ => ⟨er, a, w0, h1, ⟨rfl, rfl, rfl, he⟩, h2⟩
  | at_ k =>
    obtain ⟨hk, fat, what, hr⟩ := h
    have hl := hr.len
    by_cases hlt : k < n
    · have hs : stEnd xs (.at_ k) = some ((8 : Int), (k : Int), sEnd) := by simp only [stEnd]; rw [if_pos (by omega)]
      rw [hs]
      exact (refEnd_left hr hlt).mono fun _ _ ⟨h1, h2⟩ => ⟨8, k, _, h1, ⟨rfl, rfl, rfl, by decide⟩, h2⟩
    · have hs : stEnd xs (.at_ k) = none := by simp only [stEnd]; rw [if_neg (by omega)]
      rw [hs]
      obtain rfl : k = n := by omega
      exact (refEnd_over hr).mono fun _ _ ⟨h1, h2⟩ => ⟨0, fat, what, h1, rfl, h2⟩
end Go.Proofs.YtblfnbmgijppmaaDoor
