/- What Index tells, as plain numbers. -/
import Derived.Test.YtiinkjplhihdaaaOi
namespace Go.Proofs.Ytiinkjplhihdaaa

def posv (N : Nat) (t : Nat → Int) (k : Nat) : Int := if k < N ∧ 0 < t k then t k else 0
theorem posv_reach (N : Nat) (t : Nat → Int) (k : Nat) : posv N t k = max 0 (reach N t k) := by
  unfold posv reach
  by_cases h : k < N
  · by_cases h2 : 0 < t k
    · rw [if_pos ⟨h, h2⟩, if_pos h]; omega
    · rw [if_neg (fun e => h2 e.2), if_pos h]; omega
  · rw [if_neg (fun e => h e.1), if_neg h]; omega
/-- How many voters below n are so. -/
def pc (m : Nat → Int) (p : Nat → Bool) (n : Nat) : Nat := ((hav m 1 n).filter p).length
theorem pc_yes {m : Nat → Int} {p : Nat → Bool} {k : Nat} (h : m k = 1) (hp : p k = true) : pc m p (k + 1) = pc m p k + 1 := by unfold pc; rw [hav_yes h]; simp [hp]
theorem pc_no {m : Nat → Int} {p : Nat → Bool} {k : Nat} (h : m k = 1) (hp : p k = false) : pc m p (k + 1) = pc m p k := by unfold pc; rw [hav_yes h]; simp [hp]
theorem pc_not {m : Nat → Int} {p : Nat → Bool} {k : Nat} (h : ¬ m k = 1) : pc m p (k + 1) = pc m p k := by unfold pc; rw [hav_no h]
theorem pc_le (m : Nat → Int) (p : Nat → Bool) (n : Nat) : pc m p n ≤ n := Nat.le_trans (List.length_filter_le _ _) (hav_len m 1 n)
theorem filter_len {α : Type} {l : List α} {p q : α → Bool} (h : ∀ x ∈ l, p x = true → q x = true) : (l.filter p).length ≤ (l.filter q).length := by
  rw [← List.countP_eq_length_filter, ← List.countP_eq_length_filter]
  exact List.countP_mono_left h
theorem stepI_ge (m : Nat → Int) (N : Nat) (t : Nat → Int) (b : Int) (x : Nat) : b ≤ stepI m N t b x := by unfold stepI; split <;> omega
theorem fold_ge (m : Nat → Int) (N : Nat) (t : Nat → Int) : ∀ (l : List Nat) (b : Int), b ≤ l.foldl (stepI m N t) b
  | [], _ => Int.le_refl _
  | x :: l, b => Int.le_trans (stepI_ge m N t b x) (fold_ge m N t l _)
theorem fold_has (m : Nat → Int) (N : Nat) (t : Nat → Int) : ∀ (l : List Nat) (b : Int) (x : Nat), x ∈ l → mst m ≤ hr N t (reach N t x) (hav m 1 9) → reach N t x ≤ l.foldl (stepI m N t) b
  | y :: l, b, x, hx, hh => by
    rcases List.mem_cons.1 hx with rfl | hx
    · refine Int.le_trans ?_ (fold_ge m N t l _)
      unfold stepI
      split
      · exact Int.le_refl _
      · rename_i h
        have : ¬ b < reach N t x := fun e => h ⟨e, hh⟩
        omega
    · exact fold_has m N t l _ x hx hh
/-- What it comes to: nought, or a number that most have reached. -/
theorem fold_is (m : Nat → Int) (N : Nat) (t : Nat → Int) : ∀ (l : List Nat) (b : Int), l.foldl (stepI m N t) b = b ∨ mst m ≤ hr N t (l.foldl (stepI m N t) b) (hav m 1 9)
  | [], b => .inl rfl
  | x :: l, b => by
    rcases fold_is m N t l (stepI m N t b x) with e | h
    · show l.foldl (stepI m N t) (stepI m N t b x) = b ∨ mst m ≤ hr N t (l.foldl (stepI m N t) (stepI m N t b x)) (hav m 1 9)
      rw [e]
      unfold stepI
      split
      · rename_i h; exact .inr h.2
      · exact .inl rfl
    · exact .inr h
theorem least {α : Type} (f : α → Int) : ∀ l : List α, l ≠ [] → ∃ x ∈ l, ∀ y ∈ l, f x ≤ f y
  | [], h => absurd rfl h
  | [a], _ => ⟨a, by simp, fun y hy => by simp at hy; subst hy; exact Int.le_refl _⟩
  | a :: b :: l, _ => by
    obtain ⟨x, hx, hm⟩ := least f (b :: l) (by simp)
    by_cases h : f a ≤ f x
    · exact ⟨a, by simp, fun y hy => by
        rcases List.mem_cons.1 hy with rfl | hy
        · exact Int.le_refl _
        · exact Int.le_trans h (hm y hy)⟩
    · exact ⟨x, List.mem_cons_of_mem _ hx, fun y hy => by
        rcases List.mem_cons.1 hy with rfl | hy
        · omega
        · exact hm y hy⟩
theorem mst_cnt {m : Nat → Int} (h : 0 < cnt m 1) : mst m ≤ cnt m 1 := by unfold mst; omega
theorem bst_ge (m : Nat → Int) (N : Nat) (t : Nat → Int) : 0 ≤ bst m N t (hav m 1 9) := fold_ge m N t _ 0
theorem bst_at {m : Nat → Int} (N : Nat) (t : Nat → Int) (h0 : 0 < cnt m 1) : mst m ≤ pc m (fun k => decide (bst m N t (hav m 1 9) ≤ posv N t k)) 9 := by
  have hB := bst_ge m N t
  rcases fold_is m N t (hav m 1 9) 0 with e | h
  · have e' : bst m N t (hav m 1 9) = 0 := e
    rw [e']
    refine Nat.le_trans (mst_cnt h0) ?_
    unfold pc cnt
    rw [List.filter_eq_self.2 (fun x _ => by rw [posv_reach]; simp; omega)]
    exact Nat.le_refl _
  · refine Nat.le_trans h ?_
    unfold hr pc
    refine filter_len (fun x _ hx => ?_)
    have hx' : bst m N t (hav m 1 9) ≤ reach N t x := of_decide_eq_true hx
    rw [posv_reach]
    exact decide_eq_true (by omega)
theorem bst_more {m : Nat → Int} (N : Nat) (t : Nat → Int) : pc m (fun k => decide (bst m N t (hav m 1 9) < posv N t k)) 9 < mst m := by
  have hB := bst_ge m N t
  refine Nat.lt_of_not_le (fun hge => ?_)
  obtain ⟨B, eB⟩ : ∃ B, bst m N t (hav m 1 9) = B := ⟨_, rfl⟩
  rw [eB] at hge hB
  unfold pc at hge
  have hne : (hav m 1 9).filter (fun k => decide (B < posv N t k)) ≠ [] := fun e => by
    rw [e] at hge
    unfold mst at hge
    simp at hge
  obtain ⟨x, hx, hmin⟩ := least (reach N t) _ hne
  obtain ⟨hx1, hx2⟩ := List.mem_filter.1 hx
  have hxB : B < posv N t x := of_decide_eq_true hx2
  rw [posv_reach] at hxB
  have hh : mst m ≤ hr N t (reach N t x) (hav m 1 9) := by
    refine Nat.le_trans hge ?_
    have e1 : ((hav m 1 9).filter (fun k => decide (B < posv N t k))).length = (((hav m 1 9).filter (fun k => decide (B < posv N t k))).filter (fun k => decide (reach N t x ≤ reach N t k))).length := by
      rw [List.filter_eq_self.2 (fun y hy => decide_eq_true (hmin y hy))]
    rw [e1]
    unfold hr
    rw [List.filter_filter]
    exact filter_len (fun y _ hy => by simp at hy; simp [hy.1])
  have hle := fold_has m N t (hav m 1 9) 0 x hx1 hh
  have hle' : reach N t x ≤ bst m N t (hav m 1 9) := hle
  rw [eB] at hle'
  omega
end Go.Proofs.Ytiinkjplhihdaaa
