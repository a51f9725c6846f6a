/- DedupSame: a client's row is what its own requests made of it. -/
import Derived.Test.YtdfkoehcmgcoiaaJz
import Derived.Test.YtdfkoehcmgcoiaaJn
namespace Go.Proofs.Ytdfkoehcmgcoiaa
open Go.RowKit Go.Maps

/-- Of a client two tables hold the same. -/
def CE (t t' : DT) (c : Int) : Prop := t.row c = t'.row c ∧ t.ans c = t'.ans c
theorem CE.put {t t' : DT} {c : Int} (h : CE t t' c) (hw : t.win = t'.win) (x s : Int) (a : List UInt8) : CE (t.put x s a) (t'.put x s a) c := by
  by_cases hx : c = x
  · subst hx
    have hk : t.kind c s = t'.kind c s := by unfold DT.kind DT.least DT.top; rw [h.1, hw]
    unfold DT.put
    rw [hk]
    split
    · constructor
      · unfold DT.forget DT.keep DT.least DT.top
        simp [h.1, hw]
      · funext y
        unfold DT.forget DT.keep
        simp [h.2]
    · exact h
  · exact ⟨by rw [DT.put_row_ne a hx, DT.put_row_ne a hx]; exact h.1, by funext y; rw [DT.put_ans_ne a hx, DT.put_ans_ne a hx, h.2]⟩
theorem CE.put_ne {t t' : DT} {c : Int} (h : CE t t' c) {x : Int} (hx : c ≠ x) (s : Int) (a : List UInt8) : CE (t.put x s a) t' c :=
  ⟨by rw [DT.put_row_ne a hx]; exact h.1, by funext y; rw [DT.put_ans_ne a hx]; exact congrFun h.2 y⟩
theorem put_bad {t : DT} {x s : Int} (a : List UInt8) (hx : x < 0) : t.put x s a = t := by
  have hm : mayR x s = false := Bool.eq_false_iff.2 (fun e => by have := DT.mayR_iff.1 e; omega)
  unfold DT.put DT.kind
  rw [hm]; simp
/-- All acts put, one behind the other. -/
def pA (win : Int) (f : Nat → Dc) : Nat → DT
  | 0 => newT win
  | j + 1 => (pA win f j).put (f j).c (f j).s (f j).a
theorem pA_win (win : Int) (f : Nat → Dc) : ∀ j, (pA win f j).win = win
  | 0 => rfl
  | j + 1 => (DT.put_win _ _ _).trans (pA_win win f j)
theorem pA_ok {win : Int} (h1 : 1 ≤ win) (h2 : win ≤ 4096) (f : Nat → Dc) : ∀ j, (pA win f j).ok
  | 0 => newT_ok h1 h2
  | j + 1 => (pA_ok h1 h2 f j).put _ _ _
theorem pA_neg (win : Int) (f : Nat → Dc) {c : Int} (hc : c < 0) : ∀ j, CE (pA win f j) (newT win) c
  | 0 => ⟨rfl, rfl⟩
  | j + 1 => by
    show CE ((pA win f j).put (f j).c (f j).s (f j).a) (newT win) c
    by_cases hx : (f j).c < 0
    · rw [put_bad _ hx]; exact pA_neg win f hc j
    · exact (pA_neg win f hc j).put_ne (by omega) _ _
theorem DT.small.putB {t : DT} {B : Nat} (h : t.small B) (ok : t.ok) (c s : Int) {a : List UInt8} (ha : a.length ≤ B) : (t.put c s a).small B := by
  intro x y hy
  by_cases hk : t.kind c s = 0
  · by_cases hx : x = c
    · subst hx
      have hm := ((DT.put_mem ok a hk y).1 hy).1
      have e : (t.put x s a).ans x y = if y = s then a else t.ans x y := by
        unfold DT.put; rw [if_pos hk]; unfold DT.forget DT.keep; simp
      rw [e]
      split
      · exact ha
      · exact h x y (hm.resolve_left (by assumption))
    · rw [DT.put_ans_ne a hx]
      rw [DT.put_row_ne a hx] at hy
      exact h x y hy
  · have e : t.put c s a = t := by unfold DT.put; rw [if_neg hk]
    rw [e] at hy ⊢
    exact h x y hy
theorem DT.ok.put_n {t : DT} (ok : t.ok) (c s : Int) (a : List UInt8) : (t.put c s a).n ≤ t.n + 1 := by
  unfold DT.put
  split
  · rename_i hk
    obtain ⟨h1, h2, h3⟩ := DT.kind_new.1 hk
    have hk0 := ok.took0.keep a h1 h3
    rw [DT.forget_eq]
    have h4 := DT.front_n hk0 (posR_le ((t.keep c s a).row c) ((t.keep c s a).least c))
    have h5 := DT.keep_n ok.took0 (c := c) (s := s) a
    omega
  · omega
theorem newT_n (win : Int) : (newT win).n = 0 := rfl
theorem fsum_mem (f : Nat → Dc) : ∀ {n j : Nat}, j < n → (f j).a.length ≤ fsum f n
  | 0, j, h => by omega
  | n + 1, j, h => by
    unfold fsum
    by_cases e : j = n
    · subst e; omega
    · have := fsum_mem f (n := n) (j := j) (by omega); omega
theorem pA_small {win : Int} (h1 : 1 ≤ win) (h2 : win ≤ 4096) (f : Nat → Dc) {n : Nat} (h : fsum f n ≤ 8192) : ∀ j, j ≤ n → (pA win f j).small 8192 ∧ (pA win f j).n ≤ j
  | 0, _ => ⟨fun c s h => by simp [pA, newT] at h, Nat.le_of_eq rfl⟩
  | j + 1, hj => by
    obtain ⟨h3, h4⟩ := pA_small h1 h2 f h j (by omega)
    have h5 := fsum_mem f (n := n) (j := j) (by omega)
    exact ⟨h3.putB (pA_ok h1 h2 f j) _ _ (by omega), Nat.le_trans ((pA_ok h1 h2 f j).put_n _ _ _) (by omega)⟩
/-- In which of three rounds a client's come. -/
def kst (m c : Int) : Nat := ((c - m) % 3).toNat
theorem kst_lt (m c : Int) : kst m c < 3 := by unfold kst; omega
theorem kst_iff {m c : Int} {k : Nat} (hk : k < 3) : c % 3 = ((k : Int) + m) % 3 ↔ k = kst m c := by unfold kst; omega
/-- What is there behind the j-th of round k. -/
def SameI (win m : Int) (f : Nat → Dc) (n : Nat) (t : DT) (k j : Nat) : Prop :=
  t.win = win ∧ ∀ c, (c < 0 → CE t (newT win) c) ∧ (0 ≤ c → (k < kst m c → CE t (newT win) c) ∧ (k = kst m c → CE t (pA win f j) c) ∧ (kst m c < k → CE t (pA win f n) c))
theorem SameI.start (win m : Int) (f : Nat → Dc) (n : Nat) : SameI win m f n (newT win) 0 0 :=
  ⟨rfl, fun c => ⟨fun _ => ⟨rfl, rfl⟩, fun _ => ⟨fun _ => ⟨rfl, rfl⟩, fun _ => ⟨rfl, rfl⟩, fun h => by omega⟩⟩⟩
theorem SameI.next {win m : Int} {f : Nat → Dc} {n : Nat} {t : DT} {k : Nat} (h : SameI win m f n t k n) : SameI win m f n t (k + 1) 0 :=
  ⟨h.1, fun c => ⟨(h.2 c).1, fun hc => ⟨fun h1 => ((h.2 c).2 hc).1 (by omega), fun h1 => ((h.2 c).2 hc).1 (by omega), fun h1 => by
    by_cases e : k = kst m c
    · exact ((h.2 c).2 hc).2.1 e
    · exact ((h.2 c).2 hc).2.2 (by omega)⟩⟩⟩
/-- An act that is put, as it is its client's round. -/
theorem SameI.yes {win m : Int} {f : Nat → Dc} {n : Nat} {t : DT} {k j : Nat} (h : SameI win m f n t k j) (hk : k < 3) (h0 : 0 ≤ (f j).c) (h1 : (f j).c % 3 = ((k : Int) + m) % 3) : SameI win m f n (t.put (f j).c (f j).s (f j).a) k (j + 1) := by
  have hke := (kst_iff hk).1 h1
  refine ⟨(DT.put_win _ _ _).trans h.1, fun c => ⟨fun hc => ((h.2 c).1 hc).put_ne (by omega) _ _, fun hc => ⟨fun h2 => ?_, fun h2 => ?_, fun h2 => ?_⟩⟩⟩
  · exact (((h.2 c).2 hc).1 h2).put_ne (fun e => by rw [e] at h2; omega) _ _
  · exact (((h.2 c).2 hc).2.1 h2).put (by rw [h.1, pA_win]) _ _ _
  · exact (((h.2 c).2 hc).2.2 h2).put_ne (fun e => by rw [e] at h2; omega) _ _
/-- One that is not. -/
theorem SameI.no {win m : Int} {f : Nat → Dc} {n : Nat} {t : DT} {k j : Nat} (h : SameI win m f n t k j) (hk : k < 3) (h1 : (f j).c < 0 ∨ (f j).c % 3 ≠ ((k : Int) + m) % 3) : SameI win m f n t k (j + 1) := by
  refine ⟨h.1, fun c => ⟨(h.2 c).1, fun hc => ⟨((h.2 c).2 hc).1, fun h2 => ?_, ((h.2 c).2 hc).2.2⟩⟩⟩
  have h3 := ((h.2 c).2 hc).2.1 h2
  by_cases hx : (f j).c < 0
  · show CE t ((pA win f j).put (f j).c (f j).s (f j).a) c
    rw [put_bad _ hx]; exact h3
  · have hne : c ≠ (f j).c := fun e => by
      rcases h1 with h1 | h1
      · omega
      · exact h1 ((kst_iff hk).2 (e ▸ h2))
    have h4 : CE ((pA win f j).put (f j).c (f j).s (f j).a) (pA win f j) c := CE.put_ne ⟨rfl, rfl⟩ hne _ _
    exact ⟨h3.1.trans h4.1.symm, h3.2.trans h4.2.symm⟩
theorem SameI.all {win m : Int} {f : Nat → Dc} {n : Nat} {t : DT} (h : SameI win m f n t 3 0) (c : Int) : CE t (pA win f n) c := by
  by_cases hc : c < 0
  · have h1 := (h.2 c).1 hc
    have h2 := pA_neg win f hc n
    exact ⟨h1.1.trans h2.1.symm, h1.2.trans h2.2.symm⟩
  · exact ((h.2 c).2 (by omega)).2.2 (kst_lt m c)
/-- Tables that hold the same of every client are told alike. -/
theorem same_enc {t t' : DT} (ok : t.ok0) (ok' : t'.ok0) (hw : t.win = t'.win) (h : ∀ c, CE t t' c) : encT t = encT t' ∧ t.n = t'.n ∧ (∀ B, t'.small B → t.small B) := by
  have hcs : t.cs = t'.cs := rise_ext ok.csr ok'.csr (fun c => by rw [ok.cl c, ok'.cl c, (h c).1])
  have hrow : t.row = t'.row := funext fun c => (h c).1
  have hans : t.ans = t'.ans := funext fun c => (h c).2
  have e : t = t' := by
    obtain ⟨a1, a2, a3, a4⟩ := t
    obtain ⟨b1, b2, b3, b4⟩ := t'
    simp only at hw hcs hrow hans
    subst hw hcs hrow hans
    rfl
  subst e
  exact ⟨rfl, rfl, fun _ h => h⟩
theorem and3 (a : Int) : 0 ≤ bits BinOp.and IntKind.i64 a 3 ∧ bits BinOp.and IntKind.i64 a 3 ≤ 3 := by
  have h : (BitVec.ofInt 64 a &&& BitVec.ofInt 64 3).toNat ≤ 3 := by
    rw [BitVec.toNat_and]
    exact Nat.le_trans Nat.and_le_right (by decide)
  have e : bits BinOp.and IntKind.i64 a 3 = IntKind.i64.wrap ((BitVec.ofInt 64 a &&& BitVec.ofInt 64 3).toNat : Int) := rfl
  rw [e, IntWalk.i64_in _ (by omega)]
  omega
end Go.Proofs.Ytdfkoehcmgcoiaa
