/- A row of ints under a sort whose comparison is a clock's, bound to it. -/
import Derived.Test.YtholaofgdahcbaaTc
import Derived.Sort.WalkA
namespace Go.Proofs.Ytholaofgdahcbaa
open Go.RowKit Go.Maps Go.Sort

def ltC (D : DataW Unit) (x y : Int) : Bool := decide (cmpC D x y < 0)
def rowA (dk : Array Int) (tl : List Value) : Array Value := (dk.toList.map (fun z => Value.int .i64 z) ++ tl).toArray
theorem rowA_at (dk : Array Int) (tl : List Value) (i : Nat) (h : i < dk.size) : (rowA dk tl)[i]? = some (.int .i64 dk[i]!) := by
  unfold rowA
  rw [List.getElem?_toArray, List.getElem?_append_left (by simpa using h)]
  simp [h]
theorem rowA_set (dk : Array Int) (tl : List Value) (i : Nat) (h : i < dk.size) (z : Int) : (rowA dk tl).setIfInBounds i (.int .i64 z) = rowA (dk.setIfInBounds i z) tl := by
  unfold rowA
  rw [List.setIfInBounds_toArray, List.set_append_left _ _ (by simpa using h)]
  congr 2
  rw [Array.toList_setIfInBounds, List.map_set]

/-- A world of the sort: the row as it stands, the clock as it was, nothing else turned. -/
structure SR (w0 : World) (d g b n : Nat) (now : Int) (D : DataW Unit) (tl : List Value) (dk : Array Int) (w : World) : Prop where
  clk : Clk w g now (some b) n D
  bk : Bk w d 3 (rowA dk tl)
  fr : Fr (fun k => k = d) w0 w
  gd : ¬ CS g (some b) d
  ok : ∀ i, i < dk.size → I64 dk[i]!
section
variable {w0 w w' : World} {d g b n : Nat} {now : Int} {D : DataW Unit} {tl : List Value} {dk : Array Int}
theorem SR.on (h : SR w0 d g b n now D tl dk w) (hf : Fr (fun _ => False) w w') : SR w0 d g b n now D tl dk w' :=
  ⟨h.clk.fr hf (fun _ _ h => h), h.bk.fr hf (fun h => h), h.fr.trans hf (fun _ _ h => h.elim), h.gd, h.ok⟩
theorem SR.drew (h : SR w0 d g b n now D tl dk w) : SR w0 d g b n now D tl dk w.drew := h.on (Fr.refl _ _).drew
theorem SR.cell (h : SR w0 d g b n now D tl dk w) (i : Nat) (hi : i < dk.size) : w.cell? ⟨d, i, none⟩ = some (.int .i64 dk[i]!) := by rw [h.bk.cell i, rowA_at dk tl i hi]
theorem SR.frozen (h : SR w0 d g b n now D tl dk w) (i : Nat) : w.frozen? ⟨d, i, none⟩ = false := h.bk.frozen i
theorem SR.put (h : SR w0 d g b n now D tl dk w) (i : Nat) (hi : i < dk.size) (z : Int) (hz : I64 z) : SR w0 d g b n now D tl (dk.setIfInBounds i z) (w.setCell ⟨d, i, none⟩ (.int .i64 z)) := by
  have hf : Fr (fun k => k = d) w (w.setCell ⟨d, i, none⟩ (.int .i64 z)) := Fr.setCell (S := fun k => k = d) (Fr.refl _ _) (fun _ => rfl) _
  refine ⟨h.clk.fr hf (fun k hk e => h.gd (e ▸ hk)), ?_, h.fr.trans hf (fun _ _ e => e), h.gd, fun j hj => ?_⟩
  · have := h.bk.set i (.int .i64 z)
    rwa [rowA_set dk tl i hi z] at this
  · by_cases e : i = j
    · subst e; simpa [hi] using hz
    · have hj' : j < dk.size := by simpa using hj
      have := h.ok j hj'
      simpa [Array.getElem!_eq_getD, Array.getD, hj', Array.getElem_setIfInBounds, e] using this
theorem SR.swap (h : SR w0 d g b n now D tl dk w) (i j : Nat) (hi : i < dk.size) (hj : j < dk.size) :
    SR w0 d g b n now D tl (swp dk i j) ((w.setCell ⟨d, i, none⟩ (.int .i64 dk[j]!)).setCell ⟨d, j, none⟩ (.int .i64 dk[i]!)).drew :=
  ((h.put i hi _ (h.ok j hj)).put j (by simpa using hj) _ (h.ok i hi)).drew
/-- Behind the first store the second place still holds something. -/
theorem SR.second (h : SR w0 d g b n now D tl dk w) (i j : Nat) (hi : i < dk.size) (hj : j < dk.size) (z : Int) (hz : I64 z) :
    ∃ u, (w.setCell ⟨d, i, none⟩ (.int .i64 z)).cell? ⟨d, j, none⟩ = some u := ⟨_, (h.put i hi z hz).cell j (by simpa using hj)⟩
theorem SR.cmp (h : SR w0 d g b n now D tl dk w) (i j : Nat) (hi : i < dk.size) (hj : j < dk.size) :
    Calls Try.prog 24 #[.pointer (some ⟨g, 0, none⟩), .int .i64 dk[i]!, .int .i64 dk[j]!] w fun e w' => e = .returned (.int .i64 (cmpC D dk[i]! dk[j]!)) ∧ SR w0 d g b n now D tl dk w' :=
  (clkcmp_any g b n now _ _ D w h.clk (h.ok i hi) (h.ok j hj)).mono fun _ _ ⟨h1, h2⟩ => ⟨h1, h.on h2⟩
end
end Go.Proofs.Ytholaofgdahcbaa
