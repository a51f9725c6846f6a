/- A store into a row of events. -/
import Derived.Test.YtkinbcmnfpkncaaDoorXy
namespace Go.Proofs.YtkinbcmnfpkncaaDoor
open Go.RowKit Go.Maps

theorem Row.setAt {w : World} {T : TypeId} {k n m c b off : Nat} {cs : List Value} (h : Row w T k (.slice (some ⟨b, off, none⟩) m c) n cs) {j : Nat} (hj : j < cs.length) (v : Value) : Row (w.setCell ⟨b, off + j, none⟩ v) T k (.slice (some ⟨b, off, none⟩) m c) n (cs.set j v) := by
  refine ⟨by rw [List.length_set]; exact h.1, ?_⟩
  rcases h.2 with ⟨e, _⟩ | ⟨b', off', cap, cur, e, hb, h1, h2, h3, hc⟩
  · cases e
  · have e0 := e
    injection e with e1 e2 e3
    injection e1 with e1
    injection e1 with e1 e4
    subst e1 e4
    refine .inr ⟨b, off, cap, _, e0, hb.set (off + j) v, h1, h2, by simpa using h3, fun i hi => ?_⟩
    have hi' : i < cs.length := by simpa using hi
    have h4 := hc i hi'
    have h5 : off + i < cur.size := by
      rcases Nat.lt_or_ge (off + i) cur.size with h | h
      · exact h
      · rw [Array.getElem?_eq_none h] at h4; rw [List.getElem?_eq_getElem hi'] at h4; cases h4
    by_cases hij : i = j
    · subst hij
      simp [h5, hi']
    · have : off + j ≠ off + i := by omega
      simp [Array.getElem?_setIfInBounds, this, List.getElem?_set, Ne.symm hij, h4]
theorem vlc_set (a d : List VL) (p : VL) (A : Option Addr) (c : Nat) : (vlc (a ++ p :: d)).set (a.length * 7 + 6) (.slice A p.e.d.length c) = vlc (a ++ ⟨p.e, A, c⟩ :: d) := by
  rw [vlc_app, vlc_app]
  have hl := vlc_len a
  rw [List.set_append_right _ _ (by omega), show a.length * 7 + 6 - (vlc a).length = 6 by omega]
  congr 1
end Go.Proofs.YtkinbcmnfpkncaaDoor
