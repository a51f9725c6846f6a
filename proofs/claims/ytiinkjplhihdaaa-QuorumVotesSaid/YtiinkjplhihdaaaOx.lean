/- Any two sets of most voters share one. -/
import Derived.Test.YtiinkjplhihdaaaOv
import Derived.Test.YtiinkjplhihdaaaOt
namespace Go.Proofs.Ytiinkjplhihdaaa

theorem ay_pc (m : Nat → Int) (y : Nat → Bool) : ay 9 y (hav m 1 9) = pc m (fun k => decide (k < 9) && y k) 9 := rfl
theorem pc_sum {m n u : Nat → Int} {p q : Nat → Bool} : ∀ j, (∀ k, k < j → m k = 1 → u k = 1) → (∀ k, k < j → n k = 1 → u k = 1) → (∀ k, k < j → ¬ (m k = 1 ∧ n k = 1 ∧ p k = true ∧ q k = true)) → pc m p j + pc n q j ≤ (hav u 1 j).length
  | 0, _, _, _ => Nat.le_refl _
  | j + 1, h1, h2, h3 => by
    have ih := pc_sum (m := m) (n := n) (u := u) (p := p) (q := q) j (fun k hk => h1 k (by omega)) (fun k hk => h2 k (by omega)) (fun k hk => h3 k (by omega))
    have h1j := h1 j (by omega)
    have h2j := h2 j (by omega)
    have h3j := h3 j (by omega)
    have hu : u j = 1 → (hav u 1 (j + 1)).length = (hav u 1 j).length + 1 := fun h => by rw [hav_yes h]; simp
    have hle : (hav u 1 j).length ≤ (hav u 1 (j + 1)).length := by
      by_cases h : u j = 1
      · rw [hu h]; omega
      · rw [hav_no h]; exact Nat.le_refl _
    by_cases hm : m j = 1
    · have huj := hu (h1j hm)
      cases hp : p j with
      | true =>
        rw [pc_yes hm hp]
        by_cases hn : n j = 1
        · cases hq : q j with
          | true => exact absurd ⟨hm, hn, hp, hq⟩ h3j
          | false => rw [pc_no hn hq]; omega
        · rw [pc_not hn]; omega
      | false =>
        rw [pc_no hm hp]
        by_cases hn : n j = 1
        · cases hq : q j with
          | true => rw [pc_yes hn hq]; omega
          | false => rw [pc_no hn hq]; omega
        · rw [pc_not hn]; omega
    · rw [pc_not hm]
      by_cases hn : n j = 1
      · have huj := hu (h2j hn)
        cases hq : q j with
        | true => rw [pc_yes hn hq]; omega
        | false => rw [pc_no hn hq]; omega
      · rw [pc_not hn]; omega
/-- The members that follow. -/
def nxt (m : Nat → Int) (node role : Int) : Nat → Int := if (chg m node role).2 = 0 then (chg m node role).1 else m
/-- They are the same, or one node has another role. -/
theorem nxt_is {m : Nat → Int} (hm : ∀ k, 0 ≤ m k ∧ m k < 256) (hR : rightP m) (node role : Int) : (∀ k, 0 ≤ nxt m node role k ∧ nxt m node role k < 256) ∧ rightP (nxt m node role) ∧ (nxt m node role = m ∨ ∃ k r, k < 9 ∧ nxt m node role = putM m k r) := by
  unfold nxt
  split
  · rename_i h
    unfold chg at h ⊢
    split at h
    · exact absurd h (by decide)
    · rename_i h1
      rw [if_neg h1]
      split at h
      · exact absurd h (by decide)
      · rename_i h2
        rw [if_neg h2]
        split at h
        · exact absurd h (by decide)
        · rename_i h3
          rw [if_neg h3]
          simp only [not_or, Classical.not_not] at h1
          have hr : 0 ≤ role ∧ role ≤ 2 := by
            have := h1.2
            by_cases a : role = 0
            · omega
            · by_cases b : role = 1
              · omega
              · by_cases c : role = 2
                · omega
                · simp [a, b, c] at this
          refine ⟨putM_ok hm hr.1 hr.2, ⟨fun j hj => ?_, ?_⟩, .inr ⟨node.toNat, role, by omega, rfl⟩⟩
          · by_cases e : j = node.toNat
            · subst e
              show putM m node.toNat role node.toNat = 0 ∨ putM m node.toNat role node.toNat = 1 ∨ putM m node.toNat role node.toNat = 2
              rw [putM_same]; omega
            · show putM m node.toNat role j = 0 ∨ putM m node.toNat role j = 1 ∨ putM m node.toNat role j = 2
              rw [putM_far m role e]; exact hR.1 j hj
          · have : ¬ cnt (putM m node.toNat role) 1 = 0 := fun e => h3 (.inr e)
            show 0 < cnt (putM m node.toNat role) 1
            omega
  · exact ⟨hm, hR, .inl rfl⟩
theorem meet {m : Nat → Int} (hm : ∀ k, 0 ≤ m k ∧ m k < 256) (hR : rightP m) (node role : Int) {a b : Nat → Bool} (hw : wonB m 9 a = true) (hw2 : wonB (nxt m node role) 9 b = true) :
    ∃ k, k < 9 ∧ a k = true ∧ b k = true ∧ m k = 1 ∧ nxt m node role k = 1 := by
  obtain ⟨_, _, hn⟩ := nxt_is hm hR node role
  refine Classical.byContradiction (fun hno => ?_)
  have h3 : ∀ k, k < 9 → ¬ (m k = 1 ∧ nxt m node role k = 1 ∧ (decide (k < 9) && a k) = true ∧ (decide (k < 9) && b k) = true) := fun k hk ⟨x, y, z, t⟩ => hno ⟨k, hk, by simp at z; exact z.2, by simp at t; exact t.2, x, y⟩
  have hw' : mst m ≤ pc m (fun k => decide (k < 9) && a k) 9 := of_decide_eq_true hw
  have hw2' : mst (nxt m node role) ≤ pc (nxt m node role) (fun k => decide (k < 9) && b k) 9 := of_decide_eq_true hw2
  rcases hn with e | ⟨k, r, hk, e⟩
  · rw [e] at h3 hw2'
    have := pc_sum (u := m) 9 (fun _ _ h => h) (fun _ _ h => h) h3
    have hc : (hav m 1 9).length = cnt m 1 := rfl
    unfold mst at hw' hw2'
    omega
  · rw [e] at h3 hw2'
    have hc := cnt_put m hk r 1
    by_cases hr : r = 1
    · subst hr
      rw [if_pos rfl] at hc
      have := pc_sum (u := putM m k 1) 9 (fun j _ h => by
        by_cases ej : j = k
        · subst ej; exact putM_same _ _ _
        · rw [putM_far m 1 ej]; exact h) (fun _ _ h => h) h3
      have hcl : (hav (putM m k 1) 1 9).length = cnt (putM m k 1) 1 := rfl
      unfold mst at hw' hw2'
      by_cases hmk : m k = 1
      · rw [if_pos hmk] at hc; omega
      · rw [if_neg hmk] at hc; omega
    · rw [if_neg hr] at hc
      have := pc_sum (u := m) 9 (fun _ _ h => h) (fun j _ h => by
        by_cases ej : j = k
        · subst ej; rw [putM_same] at h; exact absurd h hr
        · rw [putM_far m r ej] at h; exact h) h3
      have hcl : (hav m 1 9).length = cnt m 1 := rfl
      unfold mst at hw' hw2'
      by_cases hmk : m k = 1
      · rw [if_pos hmk] at hc; omega
      · rw [if_neg hmk] at hc; omega
end Go.Proofs.Ytiinkjplhihdaaa
