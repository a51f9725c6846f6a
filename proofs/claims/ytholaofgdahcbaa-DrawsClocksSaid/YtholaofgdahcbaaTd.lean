/- Due, where two alarms are due. -/
import Derived.Test.YtholaofgdahcbaaTc
import Derived.Test.YtholaofgdahcbaaMemI
namespace Go.Proofs.Ytholaofgdahcbaa
open Go.RowKit Go.Maps

/-- Over a map, a range under way. -/
def Rng (w : World) (b r n : Nat) (D : DataW Unit) (left : Lit → Bool) (cnt : Nat) : Prop := w.ranges Try.prog 3 (plainElem Try.prog 3) b r n D left cnt
theorem Rng.fr {S : Nat → Prop} {w w' : World} {b r n cnt : Nat} {D : DataW Unit} {left : Lit → Bool} (h : Rng w b r n D left cnt) (hf : Fr S w w') (hb : ¬ S b) (hr : ¬ S r) : Rng w' b r n D left cnt := by
  have h1 := World.ownsMap.lt (World.ranges.owns h)
  have h2 := World.ranges.lt h
  obtain ⟨es, clock, since, seen, c0, e1, e2, e3, e4, e5, rest⟩ := h
  exact ⟨es, clock, since, seen, c0, (hf.block b h1 hb).trans e1, e2, e3, e4, (hf.block r h2 hr).trans e5, rest⟩

/-- Of the alarms that have come by, those that are due. -/
def Got (D : DataW Unit) (now : Int) (left : Lit → Bool) (ys : List Int) : Prop := ys.Nodup ∧ (∀ x, x ∈ ys ↔ has D (.int .i64 x) = true ∧ tickOf D x ≤ now ∧ left (.int .i64 x) = false) ∧ ∀ x ∈ ys, I64 x
theorem Got.start (D : DataW Unit) (now : Int) : Got D now (has D) [] := ⟨List.nodup_nil, fun x => by cases has D (.int .i64 x) <;> simp, fun x h => by simp at h⟩
theorem sameKey_int (x y : Int) : (Lit.int .i64 x).sameKey (.int .i64 y) = decide (x = y) := by
  by_cases h : x = y
  · subst h; simp [Lit.sameKey]
  · rw [Maps.sameKey_ne (by simpa using h)]; simp [h]
theorem Got.yes {D : DataW Unit} {now : Int} {left : Lit → Bool} {ys : List Int} (h : Got D now left ys) {x c : Int} (hx : I64 x) (hl : left (.int .i64 x) = true) (hat : ∀ zd, D.atKey (.int .i64 x) zd = .lit (.int .i64 c)) (hc : c ≤ now) :
    Got D now (fun z => left z && !z.sameKey (.int .i64 x)) (ys ++ [x]) := by
  have hnot : x ∉ ys := fun hm => by have := ((h.2.1 x).1 hm).2.2; rw [hl] at this; cases this
  refine ⟨?_, fun y => ?_, fun y hy => ?_⟩
  · rw [List.nodup_append]
    refine ⟨h.1, by simp, fun a ha b hb e => ?_⟩
    simp at hb; subst hb; subst e; exact hnot ha
  · simp only [List.mem_append, List.mem_singleton, sameKey_int]
    rw [h.2.1 y]
    by_cases e : y = x
    · subst e
      simp [has_true_of_atKey hat, tickOf_eq (hat _), hc]
    · simp [e]
  · simp at hy
    rcases hy with hy | rfl
    · exact h.2.2 y hy
    · exact hx
theorem Got.no {D : DataW Unit} {now : Int} {left : Lit → Bool} {ys : List Int} (h : Got D now left ys) {x c : Int} (hat : ∀ zd, D.atKey (.int .i64 x) zd = .lit (.int .i64 c)) (hc : ¬ c ≤ now) :
    Got D now (fun z => left z && !z.sameKey (.int .i64 x)) ys := by
  refine ⟨h.1, fun y => ?_, h.2.2⟩
  rw [h.2.1 y]
  simp only [sameKey_int]
  by_cases e : y = x
  · subst e
    simp [tickOf_eq (hat _), hc]
  · simp [e]
theorem Got.done {D : DataW Unit} {now : Int} {left : Lit → Bool} {ys : List Int} (h : Got D now left ys) (hl : ∀ kl, left kl = false) : ∀ x, x ∈ ys ↔ has D (.int .i64 x) = true ∧ tickOf D x ≤ now := fun x => by
  rw [h.2.1 x]; simp [hl]
/-- No more than there are entries. -/
theorem two_of {ys : List Int} (hn : ys.Nodup) (h : ∀ x, x ∈ ys ↔ x = 1 ∨ x = 5) : ys = [1, 5] ∨ ys = [5, 1] := by
  match ys, hn, h with
  | [], _, h => have := (h 1).2 (.inl rfl); simp at this
  | [a], _, h =>
    have h1 := (h 1).2 (.inl rfl)
    have h5 := (h 5).2 (.inr rfl)
    simp at h1 h5
    omega
  | [a, b], hn, h =>
    have h1 := (h 1).2 (.inl rfl)
    have h5 := (h 5).2 (.inr rfl)
    simp at h1 h5 hn ⊢
    omega
  | a :: b :: c :: r, hn, h =>
    have ha := (h a).1 (by simp)
    have hb := (h b).1 (by simp)
    have hc := (h c).1 (by simp)
    simp at hn
    omega
end Go.Proofs.Ytholaofgdahcbaa
