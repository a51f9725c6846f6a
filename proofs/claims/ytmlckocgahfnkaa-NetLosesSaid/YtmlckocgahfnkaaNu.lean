/- The walk of NetLoses. -/
import Derived.Test.YtmlckocgahfnkaaNt
import Derived.Laws.BitsAllLaws
namespace Go.Proofs.Ytmlckocgahfnkaa
open Go.RowKit

theorem and3 (x : Int) : 0 ≤ bits .and .i64 x 3 ∧ bits .and .i64 x 3 ≤ 3 := by
  have h : (BitVec.ofInt 64 x &&& BitVec.ofInt 64 3).toNat ≤ 3 := by
    rw [BitVec.toNat_and]
    exact Nat.and_le_right
  show 0 ≤ IntKind.i64.wrap ((BitVec.ofInt 64 x &&& BitVec.ofInt 64 3).toNat : Int) ∧ IntKind.i64.wrap ((BitVec.ofInt 64 x &&& BitVec.ofInt 64 3).toNat : Int) ≤ 3
  rw [IntKind.wrap_i64]
  omega

/-- A net of four of which a and b are cut. -/
structure LI (a b : Int) (k : Nat) (s : NS) : Prop where
  n4 : s.N = 4
  cuts : s.cuts = [(a, b)]
  sent : s.sent ≤ k
  not : ∀ p ∈ s.l, pr p.fr p.to ≠ pr a b
  low : ∀ p ∈ s.l, p.n < s.sent
  to3 : ∀ p ∈ s.l, 0 ≤ p.to ∧ p.to ≤ 3
  up : s.l.Pairwise fun p q => p.n < q.n
  len : s.l.length ≤ s.sent
theorem LI.start (a b : Int) : LI a b 0 ((NS.new 4).cut a b) := by
  refine ⟨rfl, ?_, Nat.le_refl _, ?_, ?_, ?_, ?_, ?_⟩
  · unfold NS.cut
    rw [show (NS.new 4).joins a b = true from rfl]
    rfl
  all_goals (unfold NS.cut NS.new; simp)
theorem LI.is {a b : Int} {k : Nat} {s : NS} (h : LI a b k s) {x : Int} (h0 : 0 ≤ x) (h3 : x ≤ 3) : s.is x = true := by
  unfold NS.is; rw [h.n4]; simp; omega
theorem LI.joins {a b : Int} {k : Nat} {s : NS} (h : LI a b k s) (x y : Int) : s.joins x y = !(decide (pr x y = pr a b)) := by
  unfold NS.joins NS.keys hasP
  rw [h.cuts]
  congr 1
  rw [Bool.eq_iff_iff]
  simp [Prod.ext_iff]
theorem LI.err {a b : Int} {k : Nat} {s : NS} (h : LI a b k s) {x y : Int} (hx0 : 0 ≤ x) (hx3 : x ≤ 3) (hy0 : 0 ≤ y) (hy3 : y ≤ 3) {bs : List UInt8} (hb : bs.length ≤ 1048576) : s.err x y bs = 0 := by
  unfold NS.err
  rw [h.is hx0 hx3, h.is hy0 hy3, show (true && true) = true from rfl, if_pos rfl, if_neg (by omega)]
theorem LI.send {a b : Int} {k : Nat} {s : NS} (h : LI a b k s) {x y : Int} (hx0 : 0 ≤ x) (hx3 : x ≤ 3) (hy0 : 0 ≤ y) (hy3 : y ≤ 3) {bs : List UInt8} (hb : bs.length ≤ 1048576) :
    LI a b (k + 1) (s.send x y bs) ∧ (s.send x y bs).l.length = s.l.length + (if decide (pr x y = pr a b) then 0 else 1) := by
  unfold NS.send
  rw [if_pos (h.err hx0 hx3 hy0 hy3 hb), h.joins]
  by_cases hd : pr x y = pr a b
  · rw [decide_eq_true hd]
    refine ⟨⟨h.n4, h.cuts, Nat.succ_le_succ h.sent, h.not, fun p hp => Nat.lt_succ_of_lt (h.low p hp), h.to3, h.up, Nat.le_succ_of_le h.len⟩, rfl⟩
  · rw [decide_eq_false hd]
    simp only [Bool.not_false, if_true]
    refine ⟨⟨h.n4, h.cuts, Nat.succ_le_succ h.sent, fun p hp => ?_, fun p hp => ?_, fun p hp => ?_, ?_, ?_⟩, by simp⟩
    · rcases List.mem_append.1 hp with hp | hp
      · exact h.not p hp
      · simp at hp; subst hp; exact hd
    · rcases List.mem_append.1 hp with hp | hp
      · exact Nat.lt_succ_of_lt (h.low p hp)
      · simp at hp; subst hp; exact Nat.lt_succ_self _
    · rcases List.mem_append.1 hp with hp | hp
      · exact h.to3 p hp
      · simp at hp; subst hp; exact ⟨hy0, hy3⟩
    · rw [List.pairwise_append]
      refine ⟨h.up, List.pairwise_singleton _ _, fun p hp q hq => ?_⟩
      simp at hq; subst hq
      exact h.low p hp
    · have := h.len
      simp; omega
theorem LI.more {a b : Int} {k : Nat} {s : NS} (h : LI a b k s) : LI a b (k + 1) s := { h with sent := Nat.le_succ_of_le h.sent }

/-- What the tests of one packet say. -/
theorem LI.tests {a b : Int} {k : Nat} {s : NS} (h : LI a b k s) {p : Pk} (hp : p ∈ s.l) : ((p.fr == a) && (p.to == b)) = false ∧ ((p.fr == b) && (p.to == a)) = false := by
  have h1 := h.not p hp
  rw [Ne, pr_iff] at h1
  constructor
  · rw [Bool.eq_false_iff]
    intro h2
    simp at h2
    exact h1 (.inl h2)
  · rw [Bool.eq_false_iff]
    intro h2
    simp at h2
    exact h1 (.inr h2)

set_option maxRecDepth 100000 in
set_option maxHeartbeats 4000000 in
theorem loses_no (A : Option Addr) (n c : Nat) (l : List NAct) (a b : Int) (w : World) (hl : NActs w w.heap.size A l) (hn : l.length = n) (hnb : (n : Int) ≤ 9223372036854775807) (h : nfew l = false ∨ a < 0 ∨ b < 0 ∨ 3 < a ∨ 3 < b ∨ a = b) :
    Calls Try.prog 4 #[.slice A n c, .int .i64 a, .int .i64 b] w fun e w' => e = .returned (.bool true) ∧ Fr (fun _ => False) w w' := by
  have CF := Lib.hid (fun w' (hf : Fr (fun _ => False) w w') => nfew_any A n c w.heap.size l w' (hl.fr hf (fun _ _ h => h)) hn hnb)
  have fin : ∀ (d0 d1 d2 d3 d4 d5 : Bool), nfew l = d0 → decide (a < 0) = d1 → decide (b < 0) = d2 → decide (3 < a) = d3 → decide (3 < b) = d4 → (a == b) = d5 → (!d0 || (d1 || (d2 || (d3 || (d4 || d5))))) = true →
      Calls Try.prog 4 #[.slice A n c, .int .i64 a, .int .i64 b] w fun e w' => e = .returned (.bool true) ∧ Fr (fun _ => False) w w' := by
    intro d0 d1 d2 d3 d4 d5 e0 e1 e2 e3 e4 e5 hd
    rw [e0] at CF
    clear h hl hn hnb e0
    go_enter Try.func4, Try.ntmps4
    go_wp2_with fail
    refine (known_any w).mono ?_; rintro e w0 ⟨rfl, hf0⟩
    have HF := Lib.hid hf0
    clear hf0
    go_wp2_with fail
    refine (CF.out _ HF.out).mono ?_; rintro e w1 ⟨rfl, hf1⟩
    have HF1 := Lib.hid (HF.out.trans hf1 (fun _ _ h => h))
    clear hf1 CF
    cases d0
    · go_wp2
      go_ret
      exact ⟨rfl, HF1.out⟩
    · cases d1 <;> cases d2 <;> cases d3 <;> cases d4 <;> cases d5 <;> simp at hd
      all_goals
        go_wp2
        go_ret
        exact ⟨rfl, HF1.out⟩
  refine fin _ _ _ _ _ _ rfl rfl rfl rfl rfl rfl ?_
  simp only [Bool.or_eq_true, decide_eq_true_eq, beq_iff_eq, Bool.not_eq_true']
  exact h
end Go.Proofs.Ytmlckocgahfnkaa
