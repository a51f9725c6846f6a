import Derived.Test.YtdfkoehcmgcoiaaGreatDoorKr06
import Derived.Laws.BytesArg
import Derived.Lib.SlBytesConst
import Derived.Deep.RegionHeld3
import Derived.Test.YtdfkoehcmgcoiaaGreatDoorRows
import Derived.ProofKit
import Derived.OpenShut
import Derived.Deep.DeepHandedRow
import Derived.Lib.LaidTab
import Derived.LaidHandle
import Derived.Test.YtdfkoehcmgcoiaaGreatDoorCards
import Derived.Test.YtdfkoehcmgcoiaaGreatDoorTie

/- DedupSame: a client's row is what its own requests made of it. -/
namespace Go.Proofs.YtdfkoehcmgcoiaaGreatDoor
open Go.RowKit Go.Maps

/-- Of a client two tables hold the same. -/
def CE (t t' : DT) (c : Int) : Prop := t.row c = t'.row c ∧ t.ans c = t'.ans c
theorem CE.put {t t' : DT} {c : Int} (h : CE t t' c) (hw : t.win = t'.win) (x s : Int) (a : List UInt8) : CE (t.put x s a) (t'.put x s a) c := by
  by_cases hx : c = x
  · subst hx
    have hk : t.kind c s = t'.kind c s := by unfold DT.kind DT.least DT.top; rw [h.1, hw]
    unfold DT.put
    rw [hk]
    split
    · constructor
      · unfold DT.forget DT.keep DT.least DT.top
        simp [h.1, hw]
      · funext y
        unfold DT.forget DT.keep
        simp [h.2]
    · exact h
  · exact ⟨by rw [DT.put_row_ne a hx, DT.put_row_ne a hx]; exact h.1, by funext y; rw [DT.put_ans_ne a hx, DT.put_ans_ne a hx, h.2]⟩
theorem CE.put_ne {t t' : DT} {c : Int} (h : CE t t' c) {x : Int} (hx : c ≠ x) (s : Int) (a : List UInt8) : CE (t.put x s a) t' c :=
  ⟨by rw [DT.put_row_ne a hx]; exact h.1, by funext y; rw [DT.put_ans_ne a hx]; exact congrFun h.2 y⟩
theorem put_bad {t : DT} {x s : Int} (a : List UInt8) (hx : x < 0) : t.put x s a = t := by
  have hm : mayR x s = false := Bool.eq_false_iff.2 (fun e => by have := DT.mayR_iff.1 e; omega)
  unfold DT.put DT.kind
  rw [hm]; simp
/-- All acts put, one behind the other. -/
def pA (win : Int) (f : Nat → Dc) : Nat → DT
  | 0 => newT win
  | j + 1 => (pA win f j).put (f j).c (f j).s (f j).a
theorem pA_win (win : Int) (f : Nat → Dc) : ∀ j, (pA win f j).win = win
  | 0 => rfl
  | j + 1 => (DT.put_win _ _ _).trans (pA_win win f j)
theorem pA_ok {win : Int} (h1 : 1 ≤ win) (h2 : win ≤ 4096) (f : Nat → Dc) : ∀ j, (pA win f j).ok
  | 0 => newT_ok h1 h2
  | j + 1 => (pA_ok h1 h2 f j).put _ _ _
theorem pA_neg (win : Int) (f : Nat → Dc) {c : Int} (hc : c < 0) : ∀ j, CE (pA win f j) (newT win) c
  | 0 => ⟨rfl, rfl⟩
  | j + 1 => by
    show CE ((pA win f j).put (f j).c (f j).s (f j).a) (newT win) c
    by_cases hx : (f j).c < 0
    · rw [put_bad _ hx]; exact pA_neg win f hc j
    · exact (pA_neg win f hc j).put_ne (by omega) _ _
theorem DT.small.putB {t : DT} {B : Nat} (h : t.small B) (ok : t.ok) (c s : Int) {a : List UInt8} (ha : a.length ≤ B) : (t.put c s a).small B := by
  intro x y hy
  by_cases hk : t.kind c s = 0
  · by_cases hx : x = c
    · subst hx
      have hm := ((DT.put_mem ok a hk y).1 hy).1
      have e : (t.put x s a).ans x y = if y = s then a else t.ans x y := by
        unfold DT.put; rw [if_pos hk]; unfold DT.forget DT.keep; simp
      rw [e]
      split
      · exact ha
      · exact h x y (hm.resolve_left (by assumption))
    · rw [DT.put_ans_ne a hx]
      rw [DT.put_row_ne a hx] at hy
      exact h x y hy
  · have e : t.put c s a = t := by unfold DT.put; rw [if_neg hk]
    rw [e] at hy ⊢
    exact h x y hy
theorem DT.ok.put_n {t : DT} (ok : t.ok) (c s : Int) (a : List UInt8) : (t.put c s a).n ≤ t.n + 1 := by
  unfold DT.put
  split
  · rename_i hk
    obtain ⟨h1, h2, h3⟩ := DT.kind_new.1 hk
    have hk0 := ok.took0.keep a h1 h3
    rw [DT.forget_eq]
    have h4 := DT.front_n hk0 (posR_le ((t.keep c s a).row c) ((t.keep c s a).least c))
    have h5 := DT.keep_n ok.took0 (c := c) (s := s) a
    omega
  · omega
theorem newT_n (win : Int) : (newT win).n = 0 := rfl
theorem fsum_mem (f : Nat → Dc) : ∀ {n j : Nat}, j < n → (f j).a.length ≤ fsum f n
  | 0, j, h => by omega
  | n + 1, j, h => by
    unfold fsum
    by_cases e : j = n
    · subst e; omega
    · have := fsum_mem f (n := n) (j := j) (by omega); omega
theorem pA_small {win : Int} (h1 : 1 ≤ win) (h2 : win ≤ 4096) (f : Nat → Dc) {n : Nat} (h : fsum f n ≤ 8192) : ∀ j, j ≤ n → (pA win f j).small 8192 ∧ (pA win f j).n ≤ j
  | 0, _ => ⟨fun c s h => by simp [pA, newT] at h, Nat.le_of_eq rfl⟩
  | j + 1, hj => by
    obtain ⟨h3, h4⟩ := pA_small h1 h2 f h j (by omega)
    have h5 := fsum_mem f (n := n) (j := j) (by omega)
    exact ⟨h3.putB (pA_ok h1 h2 f j) _ _ (by omega), Nat.le_trans ((pA_ok h1 h2 f j).put_n _ _ _) (by omega)⟩
/-- In which of three rounds a client's come. -/
def kst (m c : Int) : Nat := ((c - m) % 3).toNat
theorem kst_lt (m c : Int) : kst m c < 3 := by unfold kst; omega
theorem kst_iff {m c : Int} {k : Nat} (hk : k < 3) : c % 3 = ((k : Int) + m) % 3 ↔ k = kst m c := by unfold kst; omega
/-- What is there behind the j-th of round k. -/
def SameI (win m : Int) (f : Nat → Dc) (n : Nat) (t : DT) (k j : Nat) : Prop :=
  t.win = win ∧ ∀ c, (c < 0 → CE t (newT win) c) ∧ (0 ≤ c → (k < kst m c → CE t (newT win) c) ∧ (k = kst m c → CE t (pA win f j) c) ∧ (kst m c < k → CE t (pA win f n) c))
theorem SameI.start (win m : Int) (f : Nat → Dc) (n : Nat) : SameI win m f n (newT win) 0 0 :=
  ⟨rfl, fun c => ⟨fun _ => ⟨rfl, rfl⟩, fun _ => ⟨fun _ => ⟨rfl, rfl⟩, fun _ => ⟨rfl, rfl⟩, fun h => by omega⟩⟩⟩
theorem SameI.next {win m : Int} {f : Nat → Dc} {n : Nat} {t : DT} {k : Nat} (h : SameI win m f n t k n) : SameI win m f n t (k + 1) 0 :=
  ⟨h.1, fun c => ⟨(h.2 c).1, fun hc => ⟨fun h1 => ((h.2 c).2 hc).1 (by omega), fun h1 => ((h.2 c).2 hc).1 (by omega), fun h1 => by
    by_cases e : k = kst m c
    · exact ((h.2 c).2 hc).2.1 e
    · exact ((h.2 c).2 hc).2.2 (by omega)⟩⟩⟩
/-- An act that is put, as it is its client's round. -/
theorem SameI.yes {win m : Int} {f : Nat → Dc} {n : Nat} {t : DT} {k j : Nat} (h : SameI win m f n t k j) (hk : k < 3) (h0 : 0 ≤ (f j).c) (h1 : (f j).c % 3 = ((k : Int) + m) % 3) : SameI win m f n (t.put (f j).c (f j).s (f j).a) k (j + 1) := by
  have hke := (kst_iff hk).1 h1
  refine ⟨(DT.put_win _ _ _).trans h.1, fun c => ⟨fun hc => ((h.2 c).1 hc).put_ne (by omega) _ _, fun hc => ⟨fun h2 => ?_, fun h2 => ?_, fun h2 => ?_⟩⟩⟩
  · exact (((h.2 c).2 hc).1 h2).put_ne (fun e => by rw [e] at h2; omega) _ _
  · exact (((h.2 c).2 hc).2.1 h2).put (by rw [h.1, pA_win]) _ _ _
  · exact (((h.2 c).2 hc).2.2 h2).put_ne (fun e => by rw [e] at h2; omega) _ _
/-- One that is not. -/
theorem SameI.no {win m : Int} {f : Nat → Dc} {n : Nat} {t : DT} {k j : Nat} (h : SameI win m f n t k j) (hk : k < 3) (h1 : (f j).c < 0 ∨ (f j).c % 3 ≠ ((k : Int) + m) % 3) : SameI win m f n t k (j + 1) := by
  refine ⟨h.1, fun c => ⟨(h.2 c).1, fun hc => ⟨((h.2 c).2 hc).1, fun h2 => ?_, ((h.2 c).2 hc).2.2⟩⟩⟩
  have h3 := ((h.2 c).2 hc).2.1 h2
  by_cases hx : (f j).c < 0
  · show CE t ((pA win f j).put (f j).c (f j).s (f j).a) c
    rw [put_bad _ hx]; exact h3
  · have hne : c ≠ (f j).c := fun e => by
      rcases h1 with h1 | h1
      · omega
      · exact h1 ((kst_iff hk).2 (e ▸ h2))
    have h4 : CE ((pA win f j).put (f j).c (f j).s (f j).a) (pA win f j) c := CE.put_ne ⟨rfl, rfl⟩ hne _ _
    exact ⟨h3.1.trans h4.1.symm, h3.2.trans h4.2.symm⟩
theorem SameI.all {win m : Int} {f : Nat → Dc} {n : Nat} {t : DT} (h : SameI win m f n t 3 0) (c : Int) : CE t (pA win f n) c := by
  by_cases hc : c < 0
  · have h1 := (h.2 c).1 hc
    have h2 := pA_neg win f hc n
    exact ⟨h1.1.trans h2.1.symm, h1.2.trans h2.2.symm⟩
  · exact ((h.2 c).2 (by omega)).2.2 (kst_lt m c)
/-- Tables that hold the same of every client are told alike. -/
theorem same_enc {t t' : DT} (ok : t.ok0) (ok' : t'.ok0) (hw : t.win = t'.win) (h : ∀ c, CE t t' c) : encT t = encT t' ∧ t.n = t'.n ∧ (∀ B, t'.small B → t.small B) := by
  have hcs : t.cs = t'.cs := rise_ext ok.csr ok'.csr (fun c => by rw [ok.cl c, ok'.cl c, (h c).1])
  have hrow : t.row = t'.row := funext fun c => (h c).1
  have hans : t.ans = t'.ans := funext fun c => (h c).2
  have e : t = t' := by
    obtain ⟨a1, a2, a3, a4⟩ := t
    obtain ⟨b1, b2, b3, b4⟩ := t'
    simp only at hw hcs hrow hans
    subst hw hcs hrow hans
    rfl
  subst e
  exact ⟨rfl, rfl, fun _ h => h⟩
theorem and3 (a : Int) : 0 ≤ bits BinOp.and IntKind.i64 a 3 ∧ bits BinOp.and IntKind.i64 a 3 ≤ 3 := by
  have h : (BitVec.ofInt 64 a &&& BitVec.ofInt 64 3).toNat ≤ 3 := by
    rw [BitVec.toNat_and]
    exact Nat.le_trans Nat.and_le_right (by decide)
  have e : bits BinOp.and IntKind.i64 a 3 = IntKind.i64.wrap ((BitVec.ofInt 64 a &&& BitVec.ofInt 64 3).toNat : Int) := rfl
  rw [e, IntWalk.i64_in _ (by omega)]
  omega
end Go.Proofs.YtdfkoehcmgcoiaaGreatDoor

/- What every law asks first. -/
namespace Go.Proofs.YtdfkoehcmgcoiaaGreatDoor
open Go.RowKit

theorem fold64 : foldN 64 = 128 := by unfold foldN; rw [if_pos (by omega)]; omega
theorem enc128 : enc 128 = [128, 1] := by
  rw [enc_ge 128 (Nat.le_refl _), enc_lt (128 / 128) (by omega)]
  decide +kernel
theorem enc4 : enc (2 * 2) = [4] := by
  rw [enc_lt (2 * 2) (by omega)]
  decide +kernel
theorem known1 : enc (foldN 64) ++ (enc (2 * 2) ++ [97, 98]) = [128, 1, 4, 97, 98] := by
  rw [fold64, enc128, enc4]
  decide +kernel
theorem known2 (wh : ByteArray) : stInt [128, 1, 4, 97, 98] wh (.at_ 0) = (64, .at_ 2) := rfl
theorem known3 (wh : ByteArray) : stBytes [128, 1, 4, 97, 98] wh 9 (.at_ 2) = ([97, 98], .at_ 5) := rfl
theorem known4 : stEnd [128, 1, 4, 97, 98] (.at_ 5) = none := rfl
theorem known5 : rdFrame (frameOf [97, 98, 99]) = .good [97, 98, 99] 15 := by rfl
theorem known6 : crcOf [49, 50, 51, 52, 53, 54, 55, 56, 57] = 3808858755 := by decide +kernel

/-- The blocks that the words of a world say. -/
theorem ErrT.lt {w : World} (h : ErrT w) : 0 < w.heap.size := World.block_lt_of_cell? w _ h
/-- A slice of two or three bytes that the text lays. -/
theorem rd_lit (w : World) (xs : List UInt8) (cs : Array Value) (hcs : cs = (xs.map B8).toArray) : Rd8 (w.alloc (.cells cs 5 (cs.size, cs.size + 1))) (some ⟨w.heap.size, 0, none⟩) xs := fun _ => by
  refine ⟨_, rfl, rfl, fun j hj => ?_⟩
  rw [Nat.zero_add, cell_of_row _ w.heap.size j cs 5 (cs.size, cs.size + 1) (heap_alloc_new w _), hcs]
  simp [hj, B8]

/-- From block B on anything may turn. -/
abbrev Nb (B : Nat) (w w' : World) : Prop := Fr (fun x => B ≤ x) w w'
theorem Nb.add {B : Nat} {a b c : World} (h : Nb B a b) (k : Nb B b c) : Nb B a c := h.trans k (fun _ _ h => h)
theorem Fr.nb {S : Nat → Prop} {w w' : World} (h : Fr S w w') {B : Nat} (hS : ∀ x, S x → B ≤ x) : Nb B w w' := h.mono (fun x _ h => hS x h)
theorem Fr.nb0 {w w' : World} (h : Fr (fun _ => False) w w') (B : Nat) : Nb B w w' := h.mono (fun _ _ h => h.elim)
/-- v's block, if it has one, is from B on. -/
def From (B : Nat) (v : Value) : Prop := ∀ k, v.ownBlock = some k → B ≤ k
theorem From.nil (B : Nat) (n c : Nat) : From B (.slice none n c) := fun k hk => by simp [Value.ownBlock] at hk
theorem From.moved {B : Nat} {w : World} {v v' : Value} (h : From B v) (hm : Moved w v v') (hB : B ≤ w.heap.size) : From B v' := fun k hk => by
  rcases hm with e | ⟨x, e, hx⟩
  · exact h k (e ▸ hk)
  · rw [e] at hk; injection hk with hk; omega
theorem WrTo.nb {w w' : World} {g : Nat} {v v' : Value} {bs : List UInt8} (h : WrTo w g v w' v' bs) {B : Nat} (hg : B ≤ g) (hv : From B v) (hB : B ≤ w.heap.size) : Nb B w w' ∧ From B v' ∧ B ≤ w'.heap.size :=
  ⟨h.2.1.nb (fun x hx => hx.elim (fun e => by rw [e]; exact hg) (hv x)), hv.moved h.2.2 hB, Nat.le_trans hB h.2.1.size⟩
theorem Fresh.from {w w' : World} {v : Value} (h : Fresh w w' v) {B : Nat} (hB : B ≤ w.heap.size) : From B v := fun k hk => Nat.le_trans hB (h.2 k hk)

end Go.Proofs.YtdfkoehcmgcoiaaGreatDoor

/- errors.As, at a *Fault and a **Fault. -/
namespace Go.Proofs.YtdfkoehcmgcoiaaGreatDoor
open Go.RowKit Go.Extern.Stop Go.Stop Go.Extern

theorem Tryz.afTypeOf (v : Value) (w : World) : (callFunc 63 #[.iface 43 v]).run Tryz.prog w = .ok (.value (.iface 126 (.agg #[.pointer (some ⟨1, 43, none⟩)]))) w := by kernel_rfl
theorem Tryz.afValueOfP (t : Addr) (w : World) : (callFunc 42 #[.iface 45 (.pointer (some t))]).run Tryz.prog w
    = .ok (.value (.agg #[.pointer (some ⟨1, 45, none⟩), .pointer (some ⟨w.heap.size, 0, none⟩), .int .u64 150])) (w.alloc (.cells #[.pointer (some t)] 45)) := by kernel_rfl
theorem Tryz.afTypeP (a : Addr) (w : World) : (callFunc 43 #[.agg #[.pointer (some ⟨1, 45, none⟩), .pointer (some a), .int .u64 150]]).run Tryz.prog w
    = .ok (.value (.iface 126 (.agg #[.pointer (some ⟨1, 45, none⟩)]))) w := by kernel_rfl
theorem Tryz.afKindP (w : World) : (callFunc 121 #[.pointer (some ⟨1, 45, none⟩)]).run Tryz.prog w = .ok (.value (.int .u8 22)) w := by kernel_rfl
theorem Tryz.afKindN (w : World) : (callFunc 121 #[.pointer (some ⟨1, 43, none⟩)]).run Tryz.prog w = .ok (.value (.int .u8 22)) w := by kernel_rfl
theorem Tryz.afElemP (w : World) : (callFunc 133 #[.agg #[.pointer (some ⟨1, 45, none⟩)]]).run Tryz.prog w = .ok (.value (.iface 126 (.agg #[.pointer (some ⟨1, 43, none⟩)]))) w := by kernel_rfl
theorem Tryz.afImplementsN (w : World) : (callFunc 134 #[.agg #[.pointer (some ⟨1, 43, none⟩)], .iface 126 (.agg #[.pointer (some ⟨1, 37, none⟩)])]).run Tryz.prog w = .ok (.value (.bool true)) w := by kernel_rfl
theorem Tryz.afAssignableN (w : World) : (callFunc 131 #[.agg #[.pointer (some ⟨1, 43, none⟩)], .iface 126 (.agg #[.pointer (some ⟨1, 43, none⟩)])]).run Tryz.prog w = .ok (.value (.bool true)) w := by kernel_rfl
theorem Tryz.afValueOfN (k : Addr) (w : World) : (callFunc 42 #[.iface 43 (.pointer (some k))]).run Tryz.prog w
    = .ok (.value (.agg #[.pointer (some ⟨1, 43, none⟩), .pointer (some ⟨w.heap.size, 0, none⟩), .int .u64 150])) (w.alloc (.cells #[.pointer (some k)] 43)) := by kernel_rfl

theorem Tryz.afPartsP (a : Addr) (w : World) : (ReflectliteValue.parts (.agg #[.pointer (some ⟨1, 45, none⟩), .pointer (some a), .int .u64 150])).run Tryz.prog w = .ok (some (45, a, 150)) w := by kernel_rfl
theorem Tryz.afPartsN (a : Addr) (w : World) : (ReflectliteValue.parts (.agg #[.pointer (some ⟨1, 43, none⟩), .pointer (some a), .int .u64 406])).run Tryz.prog w = .ok (some (43, a, 406)) w := by kernel_rfl
theorem Tryz.afPartsM (a : Addr) (w : World) : (ReflectliteValue.parts (.agg #[.pointer (some ⟨1, 43, none⟩), .pointer (some a), .int .u64 150])).run Tryz.prog w = .ok (some (43, a, 150)) w := by kernel_rfl
theorem Tryz.afElemOf (w : World) : (Rtype.elem? 45).run Tryz.prog w = .ok (some 43) w := by kernel_rfl
theorem Tryz.afMk (p : Addr) (w : World) : (ReflectliteValue.mk 43 p ReflectliteValue.flagAddr).run Tryz.prog w = .ok (.agg #[.pointer (some ⟨1, 43, none⟩), .pointer (some p), .int .u64 406]) w := by kernel_rfl
theorem Tryz.afDirect (w : World) : (Rtype.directlyAssignable 43 43).run Tryz.prog w = .ok true w := by kernel_rfl

theorem Tryz.afIsNil (a p : Addr) (W : World) (ha : W.cell? a = some (.pointer (some p))) :
    (callFunc 44 #[.agg #[.pointer (some ⟨1, 45, none⟩), .pointer (some a), .int .u64 150]]).run Tryz.prog W = .ok (.value (.bool false)) W := by
  rw [@run_callFunc_extern Tryz.prog 44 _ (ReflectliteValue.method (ReflectliteValue.valueError "reflectlite.Value.IsNil" 0) ReflectliteValue.isNil) Tryz.func44 (by kernel_rfl) (by kernel_rfl) (by kernel_rfl) (by kernel_rfl)]
  change (Sem.run _ (ReflectliteValue.parts (.agg #[.pointer (some ⟨1, 45, none⟩), .pointer (some a), .int .u64 150]) >>= _) _).andThen _ = _
  simp only [Sem.run_bind, Tryz.afPartsP, Result.andThen]
  simp [ReflectliteValue.isNil, loadVar, isAgg, underlying, Tryz.underlying45, ha, Result.andThen]
theorem Tryz.afElemV (a p : Addr) (W : World) (ha : W.cell? a = some (.pointer (some p))) :
    (callFunc 64 #[.agg #[.pointer (some ⟨1, 45, none⟩), .pointer (some a), .int .u64 150]]).run Tryz.prog W = .ok (.value (.agg #[.pointer (some ⟨1, 43, none⟩), .pointer (some p), .int .u64 406])) W := by
  rw [@run_callFunc_extern Tryz.prog 64 _ (ReflectliteValue.method (ReflectliteValue.valueError "reflectlite.Value.Elem" 0) ReflectliteValue.elem) Tryz.func64 (by kernel_rfl) (by kernel_rfl) (by kernel_rfl) (by kernel_rfl)]
  change (Sem.run _ (ReflectliteValue.parts (.agg #[.pointer (some ⟨1, 45, none⟩), .pointer (some a), .int .u64 150]) >>= _) _).andThen _ = _
  simp only [Sem.run_bind, Tryz.afPartsP, Result.andThen]
  simp [ReflectliteValue.elem, loadVar, isAgg, underlying, Tryz.underlying45, ha, Result.andThen, Tryz.afElemOf, Tryz.afMk]
theorem Tryz.afSet (ta b : Addr) (k : Addr) (old : Value) (W : World) (hb : W.cell? b = some (.pointer (some k))) (ht : W.cell? ta = some old) (hf : W.frozen? ta = false) :
    (callFunc 65 #[.agg #[.pointer (some ⟨1, 43, none⟩), .pointer (some ta), .int .u64 406], .agg #[.pointer (some ⟨1, 43, none⟩), .pointer (some b), .int .u64 150]]).run Tryz.prog W
      = .ok (.value (.tuple #[])) (W.setCell ta (.pointer (some k))) := by
  rw [@run_callFunc_extern Tryz.prog 65 _ ReflectliteValue.set Tryz.func65 (by kernel_rfl) (by kernel_rfl) (by kernel_rfl) (by kernel_rfl)]
  change (Sem.run _ (ReflectliteValue.parts (.agg #[.pointer (some ⟨1, 43, none⟩), .pointer (some ta), .int .u64 406]) >>= fun _ => ReflectliteValue.parts (.agg #[.pointer (some ⟨1, 43, none⟩), .pointer (some b), .int .u64 150]) >>= fun _ => _) _).andThen _ = _
  simp only [Sem.run_bind, Tryz.afPartsN, Tryz.afPartsM, Result.andThen]
  simp [ReflectliteValue.flagAddr, loadVar, isAgg, underlying, Tryz.underlying43, hb, Result.andThen, Tryz.afDirect, storeVar, Value.cells, storeCells, Addr.add]
  rw [run_store Tryz.prog W ta _ _ (by rfl)]
  simp [ht, hf]
set_option maxRecDepth 100000 in
set_option maxHeartbeats 4000000 in
theorem as_fault (t : Addr) (k : Addr) (old : Value) (w : World) (hg : w.cell? ⟨0, 0, none⟩ = some (.iface 126 (.agg #[.pointer (some ⟨1, 37, none⟩)]))) (ht0 : w.cell? t = some old) (hf0 : w.frozen? t = false) :
    Calls Tryz.prog 14 #[.iface 43 (.pointer (some k)), .iface 45 (.pointer (some t))] w fun ev w' => ev = .returned (.bool true) ∧ Fr (fun x => x = t.block) w w' ∧ w'.cell? t = some (.pointer (some k)) := by
  have tO := Tryz.afTypeOf
  have mA := Tryz.asMethodAssignable
  have a25 := Tryz.afAssignableN
  have v25 := Tryz.afValueOfN
  have f6 := Tryz.afValueOfP
  have f7 := Tryz.afTypeP
  have mK := Tryz.asMethodKind
  have mE := Tryz.asMethodElem
  have mI := Tryz.asMethodImplements
  have k27 := Tryz.afKindP
  have k25 := Tryz.afKindN
  have e27 := Tryz.afElemP
  have i25 := Tryz.afImplementsN
  have htl : t.block < w.heap.size := World.block_lt_of_cell? w _ ht0
  have hlt : 0 < w.heap.size := World.block_lt_of_cell? w _ hg
  have n8 := Tryz.afIsNil ⟨w.heap.size, 0, none⟩ t ((w.alloc (.cells #[.pointer (some t)] 45)).alloc (.cells #[.pointer (some ⟨1, 45, none⟩), .pointer (some ⟨w.heap.size, 0, none⟩), .int .u64 150] 93)) (by simp)
  have hg2 : ((w.alloc (.cells #[.pointer (some t)] 45)).alloc (.cells #[.pointer (some ⟨1, 45, none⟩), .pointer (some ⟨w.heap.size, 0, none⟩), .int .u64 150] 93)).cell? ⟨0, 0, none⟩ = some (.iface 126 (.agg #[.pointer (some ⟨1, 37, none⟩)])) := by
    rw [World.cell?_alloc_lt _ _ ⟨0, 0, none⟩ (by first | (simp; omega) | simp), World.cell?_alloc_lt _ _ ⟨0, 0, none⟩ hlt]; exact hg
  have el := Tryz.afElemV ⟨w.heap.size, 0, none⟩ t (((w.alloc (.cells #[.pointer (some t)] 45)).alloc (.cells #[.pointer (some ⟨1, 45, none⟩), .pointer (some ⟨w.heap.size, 0, none⟩), .int .u64 150] 93)).alloc (.cells #[.pointer (some ⟨1, 45, none⟩), .pointer (some ⟨w.heap.size, 0, none⟩), .int .u64 150] 93)) (by rw [World.cell?_alloc_lt _ _ ⟨w.heap.size, 0, none⟩ (by simp; omega)]; simp)
  have HW := Lib.hid (show ((((w.alloc (.cells #[.pointer (some t)] 45)).alloc (.cells #[.pointer (some ⟨1, 45, none⟩), .pointer (some ⟨w.heap.size, 0, none⟩), .int .u64 150] 93)).alloc (.cells #[.pointer (some ⟨1, 45, none⟩), .pointer (some ⟨w.heap.size, 0, none⟩), .int .u64 150] 93)).alloc (.cells #[.pointer (some k)] 43)).cell? t = some old by rw [World.cell?_alloc_lt _ _ t (by simp; omega), World.cell?_alloc_lt _ _ t (by simp; omega), World.cell?_alloc_lt _ _ t (by simp; omega), World.cell?_alloc_lt _ _ t htl]; exact ht0)
  have st := Tryz.afSet t ⟨w.heap.size + 1 + 1 + 1, 0, none⟩ k old ((((w.alloc (.cells #[.pointer (some t)] 45)).alloc (.cells #[.pointer (some ⟨1, 45, none⟩), .pointer (some ⟨w.heap.size, 0, none⟩), .int .u64 150] 93)).alloc (.cells #[.pointer (some ⟨1, 45, none⟩), .pointer (some ⟨w.heap.size, 0, none⟩), .int .u64 150] 93)).alloc (.cells #[.pointer (some k)] 43))
    (by rw [World.cell?_alloc_at _ _ _ _ (by simp)]; rfl)
    HW.out
    (by rw [World.frozen?_alloc_old _ _ t (by simp; omega), World.frozen?_alloc_old _ _ t (by simp; omega), World.frozen?_alloc_old _ _ t (by simp; omega), World.frozen?_alloc_old _ _ t (Nat.ne_of_lt htl)]; exact hf0)
  go_enter Tryz.func14, Tryz.ntmps14
  go_wp2
  refine wp_loop_rounds 1 ?_
  rw [rounds_succ]
  go_wp2
  go_ret
  refine ⟨rfl, Fr.setCell (((((Fr.refl (fun x => x = t.block) w).alloc _).alloc _).alloc _).alloc _) (fun _ => rfl) _, ?_⟩
  exact World.cell?_setCell_same _ _ _ HW.out

end Go.Proofs.YtdfkoehcmgcoiaaGreatDoor

/- A region that draws: an operation is taken first, the slot that it writes named. -/
namespace Go.Proofs.YtdfkoehcmgcoiaaGreatDoor
open Go.RowKit

/-- An operation is taken first; the slot that it writes is named (else the frame grows by a layer a take). -/
theorem wpAnyH_takeD {P : Program} {ops : Array Oper} {Q : Exit → Act → World → Prop} {md : Region.Mode} {S : World → Prop} {i : Nat} {oi : Oper} {v : Value} {fuel : Nat} {listed : Array Bool} {a : Act} {w : World} (d : Option Tmp) (hi : ops[i]? = some oi) (hd : oi.dst = d)
    (hs : Region.noSelect ops = true) (hf : Region.free md ops listed i = true) (hr : (Region.ready md ops listed).contains i = true)
    (hQ : ∀ c a w, Q (.panic c) (a.put oi.dst v) w → Q (.panic c) a w) (hy : YieldsIf P ops S oi v a) (hS : S w)
    (h : wpAnyH P md ops Q S fuel (listed.setIfInBounds i true) (a.put d v) w) : wpAnyH P md ops Q S (fuel + 1) listed a w := by
  subst hd
  exact wpAnyH_take hi hs hf hr hQ hy hS h

end Go.Proofs.YtdfkoehcmgcoiaaGreatDoor

/- DedupReads: the walk. -/
namespace Go.Proofs.YtdfkoehcmgcoiaaGreatDoor
open Go.RowKit Go.Maps

theorem wpAnyH_more {P : Program} {md : Region.Mode} {ops : Array Oper} {Q : Exit → Go.Act → World → Prop} {S S' : World → Prop} (hSS : ∀ w, S' w → S w) : ∀ (fuel : Nat) (listed : Array Bool) (a : Go.Act) (w : World), wpAnyH P md ops Q S' fuel listed a w → wpAnyH P md ops Q S fuel listed a w
  | 0, _, _, _, h => h
  | fuel + 1, _, _, _, h => ⟨h.1, fun i hi => wpOp_mono (fun a' w' h' => ⟨hSS _ h'.1, wpAnyH_more hSS fuel _ a' w' h'.2⟩) (h.2 i hi)⟩
theorem strOf_same (X : List UInt8) : ((strOf X).toList == (strOf X).toList) = true := by simp
theorem end_none {xs : List UInt8} (h : stEnd xs (decS xs).2 = none) : (decS xs).1.ok ∧ encT (decS xs).1 = xs := by
  cases hs : (decS xs).2 with
  | bad er a wh => rw [hs] at h; cases h
  | at_ k =>
    obtain ⟨h1, h2⟩ := decS_to xs hs
    refine ⟨h1, ?_⟩
    rw [hs] at h
    unfold stEnd at h
    simp only at h
    split at h
    · cases h
    · rw [List.drop_eq_nil_of_le (by omega), List.append_nil] at h2
      exact h2.symm

set_option maxRecDepth 100000 in
set_option maxHeartbeats 8000000 in
theorem reads_any (A : Option Addr) (n c : Nat) (xs : List UInt8) (w : World) (ht : ErrT w) (hr : Rd8 w A xs) (hn : xs.length = n) :
    Calls Tryz.prog 4 #[.slice A n c] w fun e w' => e = .returned (.bool true) ∧ Fr (fun _ => False) w w' := by
  by_cases hbig : (4096 : Int) < (n : Int)
  · have d1 : decide ((4096 : Int) < (n : Int)) = true := decide_eq_true hbig
    clear ht hr hn
    go_enter Tryz.func4, Tryz.ntmps4
    go_wp2_with fail
    refine (known_any w).mono ?_; rintro e w1 ⟨rfl, hf1⟩
    go_wp2
    go_ret
    exact ⟨rfl, hf1⟩
  have d1 : decide ((4096 : Int) < (n : Int)) = false := decide_eq_false hbig
  have hnl : n ≤ 4096 := by omega
  have HT := Lib.hid ht
  have HR := Lib.hid hr
  have HN := Lib.hid hn
  have HNL := Lib.hid hnl
  clear ht hr hn hbig hnl
  go_enter Tryz.func4, Tryz.ntmps4
  go_wp2_with fail
  refine (known_any w).mono ?_; rintro e w1 ⟨rfl, hf1⟩
  have HF1 := Lib.hid hf1
  clear hf1
  go_wp2_with fail
  refine (decode_any A n c xs w1 (HT.out.fr HF1.out (fun h => h)) (HR.out.fr HF1.out (fun _ _ _ h => h)) HN.out (by have := HNL.out; omega)).mono ?_; rintro e w2 ⟨hD, hf2⟩
  have HF2 := Lib.hid (HF1.out.trans hf2 (fun _ _ h => h))
  clear hf2
  unfold DecR at hD
  cases hE : stEnd xs (decS xs).2 with
  | some y =>
    obtain ⟨er, a, wh⟩ := y
    rw [hE] at hD
    obtain ⟨fb, rfl, hbk, hlf, her⟩ := hD
    have HB := Lib.hid hbk
    have herb : (er == 0) = false := by rw [beq_eq_false_iff_ne]; exact her
    have herb2 : (er != 0) = true := by rw [bne_iff_ne]; exact her
    clear hE hbk hlf d1
    go_wp2_with fail
    obtain ⟨fw, hfw⟩ : ∃ fw, w2.heap.size = fw := ⟨_, rfl⟩
    obtain ⟨W, hW⟩ : ∃ W, w2.alloc (.cells #[.pointer none] 43) = W := ⟨_, rfl⟩
    have FW : Hid (Fr (fun _ => False) w2 W) := Lib.hid (by rw [← hW]; exact (Fr.refl _ _).alloc _)
    have CA := Lib.hid (as_fault ⟨fw, 0, none⟩ ⟨fb, 0, none⟩ (.pointer none) W (HT.out.fr (HF2.out.trans FW.out (fun _ _ h => h)) (fun h => h)) (by rw [← hW, ← hfw]; simp [go_sem]) (by rw [← hW, ← hfw]; simp [go_sem]))
    have HX : Hid (fb ≠ fw) := Lib.hid (by have := HB.out.lt; omega)
    have HFW := Lib.hid hfw
    simp only [hfw, hW]
    clear hfw hW
    refine CA.out.mono ?_; rintro e w3 ⟨rfl, hf3, hc3⟩
    have q0 : w3.cell? ⟨fb, 0, none⟩ = some (.int .i64 er) := ((HB.out.fr FW.out (fun h => h)).fr hf3 HX.out).cell 0
    have HF3 := Lib.hid ((HF2.out.trans FW.out (fun _ _ h => h)).trans hf3 (fun x hx e => by have e' : x = fw := e; have := HF2.out.size; have := HFW.out; omega))
    clear hf3 CA
    go_wp2
    go_ret
    exact ⟨rfl, HF3.out⟩
  | none =>
    rw [hE] at hD
    obtain ⟨g, F, rfl, hT, hF⟩ := hD
    obtain ⟨ok, he⟩ := end_none hE
    have hsm := small_of ok (B := 8192) (by rw [he, HN.out]; have := HNL.out; omega)
    have CE : Hid (∀ w', Fr (fun _ => False) w2 w' → Calls Tryz.prog 12 #[.pointer (some ⟨g, 0, none⟩)] w' fun e w3 => ∃ A1 c1, e = .returned (.slice A1 n c1) ∧ Own8 w3 5 (.slice A1 n c1) xs ∧ Fr (fun _ => False) w' w3) := Lib.hid (fun w' hf => by
      refine (encode_any (hT.fr0 hf) ok hsm.1 hsm.2).mono ?_
      rintro e w3 ⟨A1, c1, rfl, ho, hfr⟩
      rw [he, HN.out] at ho ⊢
      exact ⟨A1, c1, rfl, ho, hfr.1⟩)
    have HRB : Hid (∀ w', Fr (fun _ => False) w2 w' → Rd8 w' A xs) := Lib.hid (fun w' hf => HR.out.fr (HF2.out.trans hf (fun _ _ h => h)) (fun _ _ _ h => h))
    have hst := strOf_same xs
    clear hE hT hF ok he hsm
    go_wp2_with fail
    refine wp_region_held_drew (S := (fun w' => Fr (fun _ => False) w2 w')) (by kernel_rfl) ((Fr.refl _ _).drew) (fun hHeld => ?_)
    refine wpAnyH_takeD (i := 0) (v := ?_) (some 32) rfl rfl (by kernel_rfl) (by kernel_rfl) (by kernel_rfl) (fun _ _ _ h => h) (Or.inl ⟨by rfl, ?_⟩) (by assumption) ?_
    rotate_left
    · intro w' hSw
      go_simp
      first | done | with_reducible rfl
    try simp only [Act.put, List.setIfInBounds_toArray, List.set_cons_zero, List.set_cons_succ]
    refine wpAnyH_takeD (i := 1) (v := ?_) (some 33) rfl rfl (by kernel_rfl) (by kernel_rfl) (by kernel_rfl) (fun _ _ _ h => h) (Or.inl ⟨by rfl, ?_⟩) (by assumption) ?_
    rotate_left
    · intro w' hSw
      go_simp
      first | done | with_reducible rfl
    try simp only [Act.put, List.setIfInBounds_toArray, List.set_cons_zero, List.set_cons_succ]
    refine wpAnyH_takeD (i := 2) (v := ?_) (some 34) rfl rfl (by kernel_rfl) (by kernel_rfl) (by kernel_rfl) (fun _ _ _ h => h) (Or.inl ⟨by rfl, ?_⟩) (by assumption) ?_
    rotate_left
    · intro w' hSw
      go_simp
      first | done | with_reducible rfl
    try simp only [Act.put, List.setIfInBounds_toArray, List.set_cons_zero, List.set_cons_succ]
    refine wpAnyH_takeD (i := 3) (v := ?_) (some 35) rfl rfl (by kernel_rfl) (by kernel_rfl) (by kernel_rfl) (fun _ _ _ h => h) (Or.inl ⟨by rfl, ?_⟩) (by assumption) ?_
    rotate_left
    · intro w' hSw
      go_simp
      first | done | with_reducible rfl
    try simp only [Act.put, List.setIfInBounds_toArray, List.set_cons_zero, List.set_cons_succ]
    refine wpAnyH_takeD (i := 6) (v := ?_) (some 38) rfl rfl (by kernel_rfl) (by kernel_rfl) (by kernel_rfl) (fun _ _ _ h => h) (Or.inl ⟨by rfl, ?_⟩) (by assumption) ?_
    rotate_left
    · intro w' hSw
      go_simp
      first | done | with_reducible rfl
    try simp only [Act.put, List.setIfInBounds_toArray, List.set_cons_zero, List.set_cons_succ]
    refine wpAnyH_takeD (i := 7) (v := ?_) (some 39) rfl rfl (by kernel_rfl) (by kernel_rfl) (by kernel_rfl) (fun _ _ _ h => h) (Or.inl ⟨by rfl, ?_⟩) (by assumption) ?_
    rotate_left
    · intro w' hSw
      have hc2 := run_str8 (w := w') Tryz.t8 Tryz.underlying5 Tryz.underlying9 c (HRB.out w' hSw) HN.out
      go_simp
      first | done | with_reducible rfl
    try simp only [Act.put, List.setIfInBounds_toArray, List.set_cons_zero, List.set_cons_succ]
    refine wpAnyH_ready (rs := [4]) (by kernel_rfl) (by simp) ?_
    refine AllReadyH.cons rfl (fun K hK => ?_) AllReadyH.nil
    go_simp
    refine (CE.out _ hHeld).mono ?_; rintro e wA ⟨A1, c1, rfl, ho1, hfA⟩
    have FA := Lib.hid (hHeld.trans hfA (fun _ _ h => h))
    try go_simp
    refine hK.out _ _ (FA.out) (fun hHeld => ?_)
    clear hK K
    try change wpAnyH _ _ _ _ _ _ _ (Act.put _ (some 36) _) _
    try simp only [Act.put, List.setIfInBounds_toArray, List.set_cons_zero, List.set_cons_succ]
    refine wpAnyH_more (S' := (fun w' => Fr (fun _ => False) wA w')) (fun _ h => FA.out.trans h (fun _ _ h => h)) _ _ _ _ ?_
    replace hHeld : Fr (fun _ => False) wA wA := Fr.refl _ _
    have HO1 : Hid (∀ w', Fr (fun _ => False) wA w' → Rd8 w' A1 xs) := Lib.hid (fun w' hf => (ho1.fr hf (fun _ _ h => h)).rd)
    clear ho1 hfA CE
    refine wpAnyH_takeD (i := 5) (v := ?_) (some 37) rfl rfl (by kernel_rfl) (by kernel_rfl) (by kernel_rfl) (fun _ _ _ h => h) (Or.inl ⟨by rfl, ?_⟩) (by assumption) ?_
    rotate_left
    · intro w' hSw
      have hc1 := run_str8 (w := w') Tryz.t8 Tryz.underlying5 Tryz.underlying9 c1 (HO1.out w' hSw) HN.out
      go_simp
      first | done | with_reducible rfl
    try simp only [Act.put, List.setIfInBounds_toArray, List.set_cons_zero, List.set_cons_succ]
    refine wpAnyH_takeD (i := 8) (v := ?_) (some 40) rfl rfl (by kernel_rfl) (by kernel_rfl) (by kernel_rfl) (fun _ _ _ h => h) (Or.inl ⟨by rfl, ?_⟩) (by assumption) ?_
    rotate_left
    · intro w' hSw
      go_simp
      first | done | with_reducible rfl
    try simp only [Act.put, List.setIfInBounds_toArray, List.set_cons_zero, List.set_cons_succ]
    refine wpAnyH_takeD (i := 9) (v := ?_) (some 41) rfl rfl (by kernel_rfl) (by kernel_rfl) (by kernel_rfl) (fun _ _ _ h => h) (Or.inl ⟨by rfl, ?_⟩) (by assumption) ?_
    rotate_left
    · intro w' hSw
      go_simp
      first | done | with_reducible rfl
    try simp only [Act.put, List.setIfInBounds_toArray, List.set_cons_zero, List.set_cons_succ]
    refine wpAnyH_takeD (i := 10) (v := ?_) (some 2) rfl rfl (by kernel_rfl) (by kernel_rfl) (by kernel_rfl) (fun _ _ _ h => h) (Or.inl ⟨by rfl, ?_⟩) (by assumption) ?_
    rotate_left
    · intro w' hSw
      go_simp
      first | done | with_reducible rfl
    try simp only [Act.put, List.setIfInBounds_toArray, List.set_cons_zero, List.set_cons_succ]
    refine wpAnyH_done (by kernel_rfl) ?_ _
    go_wp2
    go_ret
    exact ⟨rfl, HF2.out.trans (FA.out.trans hHeld (fun _ _ h => h)) (fun _ _ h => h)⟩
end Go.Proofs.YtdfkoehcmgcoiaaGreatDoor

/- From a row's readings to the words of the walks, and back. -/
namespace Go.Proofs.YtdfkoehcmgcoiaaGreatDoor
open Go.ChangeShapes Go.WideShapes Go.ChangeAt Go.RowKit

theorem Tryz.own : ownKnob Tryz.prog.godebug = none := by kernel_rfl
theorem Tryz.laidOut : laidOutB Tryz.prog = true := by kernel_rfl
theorem Tryz.cellsU32 : Tryz.prog.cellsOf 168 = 1 := by kernel_rfl
theorem Tryz.cellsU8 : Tryz.prog.cellsOf 5 = 1 := by kernel_rfl
theorem Tryz.et : Tryz.prog.globalNamed "errors.errorType" = some 0 := by kernel_rfl
theorem Tryz.rt : (Tryz.prog.cutTypes.find? (·.1 == "internal/reflectlite.rtype")).map (·.2) = some 126 := by kernel_rfl
theorem Tryz.oneRow : ((List.range 207).filter fun t => Tryz.prog.rowNamed t [101, 114, 114, 111, 114]) = [37] := by kernel_rfl
theorem Tryz.size : Tryz.prog.types.size = 207 := by kernel_rfl

def halvesList : List Int := [0, 274646895, 549293790, 820201905, 1098587580, 1361435347, 1640403810, 1905808397, 2197175160, 2460548119, 2722870694, 2987750089, 3280807620, 3553878443, 3811616794, 4084100981]
theorem halves_list : ∀ i : Fin 16, halvesList.getD i.val 0 = (halfN i.val : Int) := by decide +kernel

theorem laid_mem {P : Program} {w : World} : ∀ {l : List (String × DataW Unit)} {ps : List MemPlace}, DataW.LaidVars P w l ps → ∀ {n : String} {d : DataW Unit}, (n, d) ∈ l →
    ∃ g t cs fuel p, P.globalNamed n = some g ∧ (P.globals[g]?).map (·.type) = some t ∧ w.var? P n = some cs ∧ DataW.trod (fun _ => ()) P w 0 (fun _ => true) false fuel t cs.toList = some (d, p)
  | [], _, _, _, _, hm => by cases hm
  | (n', d') :: r, ps, h, n, d, hm => by
    obtain ⟨g, t, cs, fuel, p, q, h1, h2, h3, h4, h5, _⟩ := h
    cases hm with
    | head => exact ⟨g, t, cs, fuel, p, h1, h2, h3, h4⟩
    | tail _ hm => exact laid_mem h5 hm

theorem errT_of_laid {W : World} {l : List (String × DataW Unit)} (h : handlesMet Tryz.prog l W) (hm : ("errors.errorType", (Rows.laid_errors_errorType : DataW Unit)) ∈ l) : ErrT W := by
  obtain ⟨name, u, ty, e1, e2, e3, e4, e5⟩ := h _ hm
  have en : name = [101, 114, 114, 111, 114] := (Option.some.inj e1).symm
  subst en
  obtain rfl := Option.some.inj (Tryz.rt.symm.trans e2)
  have hm : ty ∈ (List.range 207).filter fun t => Tryz.prog.rowNamed t [101, 114, 114, 111, 114] := List.mem_filter.2 ⟨List.mem_range.2 (by rw [← Tryz.size]; exact e3), e4⟩
  rw [Tryz.oneRow] at hm
  obtain rfl := List.mem_singleton.1 hm
  have hh : typeHandle Tryz.prog 37 = .pointer (some ⟨1, 37, none⟩) := by kernel_rfl
  rw [hh] at e5
  show W.cell? _ = _
  simpa using World.var?_cell Tryz.et e5 0

/-- Nothing old has turned: all arguments read as they did. -/
theorem below_trodAll {H : Type} {enc : TypeId × Value → H} {P : Program} (hl : laidOutB P = true) {W W' : World} (hb : Below W.heap.size W W') :
    ∀ {ts : List TypeId} {vs : List Value} {ds : List (DataW H)} {ps : List MemPlace}, (∀ t ∈ ts, P.readableRec t = true ∧ t < P.types.size) → DataW.TrodAll enc P W 0 (fun _ => true) true ts vs ds ps → (∀ x ∈ ps, x.block < W.heap.size) →
      DataW.TrodAll enc P W' 0 (fun b => decide (b < W.heap.size)) true ts vs ds ps
  | [], [], [], _, _, h, _ => h
  | t :: ts, v :: vs, d :: ds, ps, hr, ⟨p, q, h1, h2, e⟩, hp => by
    subst e
    obtain ⟨r1, r2⟩ := hr t (List.mem_cons_self ..)
    exact ⟨p, q, Below.trod hl r1 r2 h1 hb (fun x hx => hp x (List.mem_append_left _ hx)), below_trodAll hl hb (fun t ht => hr t (List.mem_cons_of_mem _ ht)) h2 (fun x hx => hp x (List.mem_append_right _ hx)), rfl⟩
  | [], _ :: _, _, _, _, h, _ => by cases h
  | [], [], _ :: _, _, _, h, _ => by cases h
  | _ :: _, [], _, _, _, h, _ => by cases h
  | _ :: _, _ :: _, [], _, _, h, _ => by cases h

/-- WHAT EVERY LAW ENDS IN: true, and nothing old has turned. -/
theorem post_true {H : Type} {enc : TypeId × Value → H} {f : Func} {s : ChangeSpec} {W W' : World} {args : Array Value} {ds gs : List (DataW H)} {before : List MemPlace} (fresh handsOn : Bool)
    (hW : DataW.Whole enc Tryz.prog f.params.toList s.vars false W args.toList ds gs before) (hv : s.vars = []) (hr : f.resultTypes = #[4])
    (hs : s.fn H (ds ++ gs) = { results := [.lit (.bool true)], args := ds }) (hp : (f.params.toList.all fun t => Tryz.prog.readableRec t && decide (t < Tryz.prog.types.size)) = true)
    (hf : Fr (fun _ => False) W W') : s.post enc Tryz.prog f false fresh handsOn false W args (.bool true) W' := by
  have hb : Below W.heap.size W W' := hf.below _ (Nat.le_refl _) (fun _ _ h => h)
  obtain ⟨p, q, hA, hV, hpq, h3, h4⟩ := hW
  have hlt : ∀ x ∈ p, x.block < W.heap.size := fun x hx => by
    have := (show DataW.Whole enc Tryz.prog f.params.toList s.vars false W args.toList ds gs before from ⟨p, q, hA, hV, hpq, h3, h4⟩).lt x (by rw [hpq]; exact List.mem_append_left _ hx)
    simpa using this
  refine ⟨ds, gs, before, [], p, [], ⟨p, q, hA, hV, hpq, h3, h4⟩, ?_, ?_, ?_, hb.frame _, fun h => by cases h⟩
  · rw [hs, hr]
    exact trodAll_mk1 (shut_bool Tryz.underlying4 true)
  · rw [hs]
    exact below_trodAll Tryz.laidOut hb (fun t ht => by simpa using List.all_eq_true.1 hp t ht) hA hlt
  · rw [hs, hv]
    rfl

set_option maxRecDepth 100000 in
/-- A SLICE OF BYTES THAT CAME IN. -/
theorem open_bytes {H : Type} {enc : TypeId × Value → H} {W : World} {base : Nat} {v : Value} {d : DataW H} {ps : List MemPlace} (hval : Value.okWide Tryz.prog W .any base 32 v) (h : DataW.Trod enc Tryz.prog W 0 (fun _ => true) true 32 v d ps) :
    ∃ A n c xs, v = .slice A n c ∧ Rd8 W A xs ∧ xs.length = n ∧ n ≤ c ∧ (c : Int) ≤ 9223372036854775807 ∧ (∀ ad, A = some ad → 0 < n → ad.block < W.heap.size) := by
  obtain ⟨A, n, c, rfl⟩ := okWide_slice Tryz.underlying32 hval
  obtain ⟨fuel, hf⟩ := h
  rcases open_ints Tryz.underlying32 Tryz.underlying5 Tryz.cellsU8 hf with ⟨hcs, hx⟩ | ⟨a, len', cap', zs, hcs, _, hl, hm, hz, hx, hcell, hwz⟩
  · simp [Value.cells] at hcs
    obtain ⟨rfl, rfl, rfl⟩ := hcs
    exact ⟨none, 0, 0, [], rfl, Rd8.nil _ _, rfl, Nat.le_refl _, by omega, fun ad e => by cases e⟩
  · simp [Value.cells] at hcs
    obtain ⟨rfl, rfl, rfl⟩ := hcs
    unfold maxLen at hm
    simp only [if_true] at hz
    have hcl : ∀ j, j < n → (a.spot = none ∧ W.cell? ⟨a.block, a.off + j, none⟩ = some (.int .u8 (((zs.take n).map fun z => UInt8.ofNat z.toNat).getD j 0).toNat)) := by
      intro j hj
      have h0 := hcell j (by omega)
      have hsp := World.cell?_spot h0
      obtain ⟨b, o, sp⟩ := a
      have hsp0 : sp = none := by
        have := World.cell?_spot (hcell 0 (by omega))
        simpa [Addr.add] using this
      subst hsp0
      refine ⟨rfl, ?_⟩
      rw [add_at] at h0
      rw [h0]
      have hw := bounds_u8 (hwz (zs.getD j 0) (by simp [List.getD, show j < zs.length by omega]))
      have e : ((zs.take n).map fun z => UInt8.ofNat z.toNat).getD j 0 = UInt8.ofNat (zs.getD j 0).toNat := by
        simp [List.getD, show j < n from hj, show j < zs.length by omega]
      rw [e, UInt8.toNat_ofNat', Nat.mod_eq_of_lt (by omega)]
      congr 2
      omega
    refine ⟨some a, n, c, (zs.take n).map fun z => UInt8.ofNat z.toNat, rfl, fun h0 => ⟨a, rfl, ?_, fun j hj => ?_⟩, by simp; omega, hl, by omega, fun ad e h0 => ?_⟩
    · simp at h0; exact (hcl 0 (by omega)).1
    · simp at hj
      have := (hcl j (by omega)).2
      simpa [List.getD, show j < n by omega, show j < zs.length by omega] using this
    · injection e with e
      subst e
      have := World.block_lt_of_cell? W _ (hcl 0 h0).2
      exact this
end Go.Proofs.YtdfkoehcmgcoiaaGreatDoor

/- One listed variable, errors.errorType: what it holds; a world in which it does. -/
namespace Go.Proofs.YtdfkoehcmgcoiaaGreatDoor
open Go.ChangeShapes Go.WideShapes Go.ChangeAt Go.RowKit

def oneLaid : List (String × DataW Unit) := [("errors.errorType", Rows.laid_errors_errorType)]
theorem met_of_laid1 {W : World} (h : laidMetH Tryz.prog oneLaid W) : ErrT W := by
  have h' : laidMet Tryz.prog [] W ∧ handlesMet Tryz.prog [("errors.errorType", Rows.laid_errors_errorType)] W := h
  exact errT_of_laid h'.2 (List.mem_cons_self ..)
/-- A WORLD FOR THE WITNESS: the settled one, the variable holding what it must. -/
noncomputable def laidWorld1 (os : Os) : World :=
  let w0 := World.holding Tryz.prog os ⟨#[], #[], []⟩
  { w0 with heap := w0.heap.modify 0 fun
      | .cells _ t frozen => .cells #[.iface 126 (.agg #[.pointer (some ⟨1, 37, none⟩)])] t frozen
      | o => o }
end Go.Proofs.YtdfkoehcmgcoiaaGreatDoor

/- Whatever bytes it is handed, the law DedupReads returns true, and its argument reads as it did. No condition. -/
namespace Go.Proofs.YtdfkoehcmgcoiaaGreatDoor.reads
open Go.ChangeShapes Go.WideShapes Go.ChangeAt Go.RowKit

theorem met {W : World} (h : laidMetH Tryz.prog Rows.dedupReadsRow.laid W) : ErrT W := met_of_laid1 h

set_option maxRecDepth 100000 in
theorem contract (H : Type) (enc : TypeId × Value → H) (W : World) (base : Nat) (args : Array Value) (ds gs : List (DataW H)) (before : List MemPlace)
    (hval : ∀ (j : Nat) t v, Tryz.f4.params[j]? = some t → args[j]? = some v → Value.okWide Tryz.prog W .any base t v)
    (hW : DataW.Whole enc Tryz.prog Tryz.f4.params.toList Rows.dedupReadsSpec.vars false W args.toList ds gs before) (hwt : (DataW.weightsEach Tryz.prog (Tryz.f4.params.toList ++ (OpenSpec.ofChange Rows.dedupReadsSpec).bare.plain.varTypes Tryz.prog) (ds ++ gs)).all (· ≤ reachBytes) = true) (hL : laidMetH Tryz.prog Rows.dedupReadsRow.laid W) :
    Calls Tryz.prog 4 args W fun e W' => ∃ v, e = .returned v ∧ Rows.dedupReadsSpec.post enc Tryz.prog Tryz.f4 false true false false W args v W' := by
  have hE := met hL
  have hW' := hW
  obtain ⟨p, q, hA0, hV, hpq, hfz, hnd⟩ := hW
  have hA : DataW.TrodAll enc Tryz.prog W 0 (fun _ => true) true Tryz.f4.params.toList args.toList ds p := hA0
  rw [Tryz.params4] at hA hval
  obtain ⟨v0, vs0, d0, ds0, p0, q0, hargs, rfl, _, h0, r0⟩ := trodAll_cons hA
  obtain ⟨rfl, rfl, _⟩ := trodAll_nil r0
  obtain rfl : args = #[v0] := by cases args; simp_all
  obtain ⟨rfl, _⟩ := trodVars_none hV
  obtain ⟨A, n, c, xs, rfl, hrd, hn, hnc, hc, hlt⟩ := open_bytes (hval 0 32 v0 rfl rfl) h0
  have walk : Calls Tryz.prog 4 #[.slice A n c] W fun e w' => e = .returned (.bool true) ∧ Fr (fun _ => False) W w' :=
    reads_any A n c xs W hE hrd hn
  refine walk.mono fun e W' ⟨he, hf⟩ => ?_
  subst he
  exact ⟨_, rfl, post_true true false hW' rfl rfl rfl (by kernel_rfl) hf⟩

def wargs : Array Value := #[.slice none 0 0]
theorem laid_met (os : Os) : laidMetH Tryz.prog Rows.dedupReadsRow.laid ((laidWorld1 os).forCall (fun _ _ => 0) ⟨#[], wargs, []⟩).memory :=
  laidMetH_of_parts (laidMet_of_run' 8 (by kernel_rfl) (by kernel_rfl)) (by kernel_rfl)
theorem reads (os : Os) {H : Type} (enc : TypeId × Value → H) : ∃ places, DataW.whole enc Tryz.prog ((laidWorld1 os).forCall (fun _ _ => 0) ⟨#[], wargs, []⟩).memory Tryz.f4.params.toList Rows.dedupReadsSpec.vars false wargs.toList 8 = some ([.nil], [], places) :=
  ⟨[], by kernel_rfl⟩

set_option maxRecDepth 100000 in
theorem lifted (os : Os) (started : os.Started) (H : Type) (enc : TypeId × Value → H) (F : Stop.Interp) :
    ReturnsInHanded {} Tryz.checked os 4 .any ((OpenSpec.ofChange Rows.dedupReadsSpec).preRow enc Tryz.prog Tryz.f4 Rows.dedupReadsRow.domain false Rows.dedupReadsRow.laid) (((OpenSpec.ofChange Rows.dedupReadsSpec).at F).post enc Tryz.prog Tryz.f4 false true false false) := by
  obtain ⟨places, hx⟩ := reads os enc
  refine returnsInHanded_of_row (C := Tryz.checked) (s := OpenSpec.ofChange Rows.dedupReadsSpec) Tryz.own started (by kernel_rfl) Tryz.func4
    (witness_row_at (enc := enc) (C := Tryz.checked) false (laidWorld1 os) wargs rfl (by kernel_rfl) (by kernel_rfl) (by kernel_rfl)
      (OpenSpec.preRow_of_cond 8 hx (by kernel_rfl) (fun k hk => by cases hk) (by kernel_rfl) (laid_met os))) ?_
  intro W base args ds gs before hval hW _ _ hwt hL _ _
  exact contract H enc W base args ds gs before hval hW hwt hL

theorem said : Rows.DedupReadsSaid :=
  OpenClaim.holds_of_cond 4 Tryz.f4 rfl rfl rfl rfl rfl rfl rfl ⟨rfl, rfl, rfl, rfl, rfl⟩ rfl rfl rfl rfl rfl (by kernel_rfl) Tryz.func4 (by kernel_rfl)
    (of_decide_eq_true (by kernel_rfl)) (by unfold Func.isWrapper; first | (rw [if_pos (by decide +kernel)]; kernel_rfl) | (rw [if_neg (by decide +kernel)]; exact ⟨rfl, rfl⟩))
    (fun os started H enc _ F => by rw [OpenClaim.pre_eq_preRow]; exact lifted os started H enc F)

theorem plain (f : FuncId) (fn : Func) (hf : Tryz.pinned.checked.prog.funcNamed "teasel/teasellaw11.DedupReads" = some f) (hfn : Tryz.pinned.checked.prog.funcs[f]? = some fn) :
    true = Tryz.pinned.checked.prog.looks [] ∧ ∀ (j : Nat) t, fn.params[j]? = some t → Tryz.pinned.checked.prog.wantsStandIn t = false := by
  obtain rfl : f = 4 := Option.some.inj ((show Tryz.prog.funcNamed "teasel/teasellaw11.DedupReads" = some 4 by kernel_rfl).symm.trans hf) |>.symm
  obtain rfl : fn = Tryz.f4 := (Option.some.inj (Tryz.func4.symm.trans hfn)).symm
  refine ⟨by kernel_rfl, fun j t ht => ?_⟩
  have hall : (Tryz.f4.params.toList.all fun t => !(Tryz.prog.wantsStandIn t)) = true := by kernel_rfl
  have h1 := List.all_eq_true.1 hall t (by have := Array.mem_of_getElem? ht; simpa using this)
  exact (show Tryz.prog.wantsStandIn t = false by simpa using h1)

theorem card : Rows.DedupReadsCardSaid :=
  Claim7.holds_tied_plain_at .later [] _ _ _ _ said (fun _ h => by cases h) (by kernel_rfl) (fun _ h => by cases h) dedupReads_row_tie rfl ⟨rfl, rfl⟩ (by kernel_rfl) rfl plain (by kernel_rfl)
#print axioms card
end Go.Proofs.YtdfkoehcmgcoiaaGreatDoor.reads
