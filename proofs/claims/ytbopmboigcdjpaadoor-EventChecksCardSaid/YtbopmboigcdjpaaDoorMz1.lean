/- What the reference's Open makes, in plain words. -/
import Derived.Test.YtbopmboigcdjpaaDoorMv
import Derived.Test.YtbopmboigcdjpaaDoorMy
namespace Go.Proofs.YtbopmboigcdjpaaDoor
open Go.RowKit Go.Maps

def posF : List Int → Int → Nat
  | [], _ => 0
  | a :: r, x => if a < x then posF r x + 1 else 0
def insF (out : List Int) (x : Int) : List Int := out.take (posF out x) ++ x :: out.drop (posF out x)
theorem posF_le : ∀ (out : List Int) (x : Int), posF out x ≤ out.length
  | [], _ => Nat.le_refl _
  | a :: r, x => by unfold posF; have := posF_le r x; split <;> simp <;> omega
theorem posF_step : ∀ (out : List Int) (x : Int) (n : Nat), n ≤ posF out x → ∀ (h : n < out.length), (out[n] < x ↔ n < posF out x)
  | [], _, _, _, h => by simp at h
  | a :: r, x, 0, _, _ => by unfold posF; simp only [List.getElem_cons_zero]; split <;> simp_all
  | a :: r, x, n + 1, hn, h => by
    unfold posF at hn ⊢
    split at hn
    · rename_i h1
      rw [if_pos h1]
      have := posF_step r x n (by omega) (by simpa using h)
      simp only [List.getElem_cons_succ]
      rw [this]; omega
    · omega
theorem mem_insF (out : List Int) (x y : Int) : y ∈ insF out x ↔ y = x ∨ y ∈ out := by
  unfold insF
  rw [List.mem_append, List.mem_cons]
  constructor
  · rintro (h | h | h)
    · exact .inr (List.mem_of_mem_take h)
    · exact .inl h
    · exact .inr (List.mem_of_mem_drop h)
  · rintro (h | h)
    · exact .inr (.inl h)
    · rw [← List.take_append_drop (posF out x) out, List.mem_append] at h
      exact h.imp id .inr
theorem front_lt : ∀ {out : List Int} {x : Int}, ∀ y ∈ out.take (posF out x), y < x
  | [], x, y, h => by simp at h
  | a :: r, x, y, h => by
    unfold posF at h
    split at h
    · rw [List.take_succ_cons] at h
      rcases List.mem_cons.1 h with rfl | h
      · assumption
      · exact front_lt y h
    · simp at h
theorem back_ge : ∀ {out : List Int} {x : Int}, out.Pairwise (· < ·) → ∀ y ∈ out.drop (posF out x), x ≤ y
  | [], x, _, y, h => by simp at h
  | a :: r, x, hp, y, h => by
    obtain ⟨h1, h2⟩ := List.pairwise_cons.1 hp
    unfold posF at h
    split at h
    · rw [List.drop_succ_cons] at h
      exact back_ge h2 y h
    · rename_i hn
      simp only [List.drop_zero] at h
      rcases List.mem_cons.1 h with rfl | h
      · omega
      · have := h1 y h; omega
theorem insF_rise {out : List Int} {x : Int} (h : out.Pairwise (· < ·)) (hx : x ∉ out) : (insF out x).Pairwise (· < ·) := by
  unfold insF
  rw [List.pairwise_append]
  refine ⟨h.sublist (List.take_sublist _ _), List.pairwise_cons.2 ⟨fun y hy => ?_, h.sublist (List.drop_sublist _ _)⟩, fun y hy z hz => ?_⟩
  · have h1 := back_ge h y hy
    have : y ≠ x := fun e => hx (e ▸ List.mem_of_mem_drop hy)
    omega
  · have h1 := front_lt y hy
    rcases List.mem_cons.1 hz with rfl | hz
    · exact h1
    · have h2 := back_ge h z hz
      omega
theorem rise_extM : ∀ {a b : List Int}, a.Pairwise (· < ·) → b.Pairwise (· < ·) → (∀ x, x ∈ a ↔ x ∈ b) → a = b
  | [], [], _, _, _ => rfl
  | [], y :: b, _, _, h => by have := (h y).2 (by simp); simp at this
  | x :: a, [], _, _, h => by have := (h x).1 (by simp); simp at this
  | x :: a, y :: b, h1, h2, h => by
    obtain ⟨p1, p2⟩ := List.pairwise_cons.1 h1
    obtain ⟨q1, q2⟩ := List.pairwise_cons.1 h2
    have e : x = y := by
      rcases List.mem_cons.1 ((h x).1 (by simp)) with e | e
      · exact e
      · rcases List.mem_cons.1 ((h y).2 (by simp)) with e' | e'
        · exact e'.symm
        · have := p1 y e'
          have := q1 x e
          omega
    subst e
    congr 1
    refine rise_extM p2 q2 fun z => ⟨fun hz => ?_, fun hz => ?_⟩
    · rcases List.mem_cons.1 ((h z).1 (List.mem_cons_of_mem _ hz)) with e | e
      · have := p1 z hz; omega
      · exact e
    · rcases List.mem_cons.1 ((h z).2 (List.mem_cons_of_mem _ hz)) with e | e
      · have := q1 z hz; omega
      · exact e
/-- The row behind the first i events. -/
def openL (l : List Ev) (k : Int) : Nat → List Int
  | 0 => []
  | i + 1 => if (l.getD i default).k = k ∧ openR l ((i : Int) + 1) = true then insF (openL l k i) (l.getD i default).i else openL l k i
theorem openL_len (l : List Ev) (k : Int) : ∀ i, (openL l k i).length ≤ i
  | 0 => Nat.le_refl _
  | i + 1 => by
    have := openL_len l k i
    unfold openL; split
    · have hp := posF_le (openL l k i) (l.getD i default).i
      unfold insF; simp; omega
    · omega
theorem openL_mem (l : List Ev) (k : Int) : ∀ i x, x ∈ openL l k i ↔ ∃ j, j < i ∧ (l.getD j default).k = k ∧ openR l ((j : Int) + 1) = true ∧ (l.getD j default).i = x
  | 0, x => by simp [openL]
  | i + 1, x => by
    unfold openL
    split
    · rename_i h
      rw [mem_insF, openL_mem l k i x]
      constructor
      · rintro (rfl | ⟨j, h1, h2⟩)
        · exact ⟨i, by omega, h.1, h.2, rfl⟩
        · exact ⟨j, by omega, h2⟩
      · rintro ⟨j, h1, h2, h3, h4⟩
        by_cases e : j = i
        · subst e; exact .inl h4.symm
        · exact .inr ⟨j, by omega, h2, h3, h4⟩
    · rename_i h
      rw [openL_mem l k i x]
      constructor
      · rintro ⟨j, h1, h2⟩; exact ⟨j, by omega, h2⟩
      · rintro ⟨j, h1, h2, h3, h4⟩
        by_cases e : j = i
        · subst e; exact absurd ⟨h2, h3⟩ h
        · exact ⟨j, by omega, h2, h3, h4⟩
theorem kind_at {l : List Ev} {j : Nat} (h : j < l.length) : kindR l ((j : Int) + 1) = (l.getD j default).k ∧ idAt l ((j : Int) + 1) = (l.getD j default).i := by
  unfold kindR idAt
  rw [if_pos (by omega), show ((j : Int) + 1 - 1).toNat = j by omega]
  exact ⟨rfl, rfl⟩
theorem openL_rise {l : List Ev} {b : Bo} (I : Inv l b) (k : Int) : ∀ i, i ≤ l.length → (openL l k i).Pairwise (· < ·)
  | 0, _ => List.Pairwise.nil
  | i + 1, hi => by
    unfold openL
    split
    · rename_i h
      refine insF_rise (openL_rise I k i (by omega)) (fun hm => ?_)
      obtain ⟨j, h1, h2, h3, h4⟩ := (openL_mem l k i _).1 hm
      obtain ⟨a1, a2⟩ := kind_at (l := l) (j := j) (by omega)
      obtain ⟨b1, b2⟩ := kind_at (l := l) (j := i) (by omega)
      have := I.un ((j : Int) + 1) ((i : Int) + 1) (by rw [a1, b1, h2, h.1]) (by rw [a2, b2, h4]) h3 h.2
      omega
    · exact openL_rise I k i (by omega)
/-- THE REFERENCE'S OPEN IS WHAT THE BOOK SAYS. -/
theorem openL_ids {l : List Ev} (h : Bo.new.check l = none) {k : Int} (hk : k ≠ 2) {zs : List Int} (hz : IdsOf (bookOf l).used k zs) : openL l k l.length = zs := by
  have I := (hist_of h).inv
  refine rise_extM (openL_rise I k _ (Nat.le_refl _)) hz.1 (fun x => ?_)
  rw [hz.2 x, I.uId k x hk, openL_mem]
  constructor
  · rintro ⟨j, h1, h2, h3, h4⟩
    obtain ⟨a1, a2⟩ := kind_at (l := l) (j := j) h1
    exact ⟨(j : Int) + 1, by rw [a1, h2], by rw [a2, h4], h3⟩
  · rintro ⟨p, h1, h2, h3⟩
    have hr := kindR_rng (l := l) (p := p) (by have := open_kind h3; omega)
    obtain ⟨a1, a2⟩ := kind_at (l := l) (j := (p - 1).toNat) (by omega)
    rw [show (((p - 1).toNat : Nat) : Int) + 1 = p by omega] at a1 a2
    exact ⟨(p - 1).toNat, by omega, by rw [← a1, h1], by rw [show (((p - 1).toNat : Nat) : Int) + 1 = p by omega]; exact h3, by rw [← a2, h2]⟩
end Go.Proofs.YtbopmboigcdjpaaDoor
