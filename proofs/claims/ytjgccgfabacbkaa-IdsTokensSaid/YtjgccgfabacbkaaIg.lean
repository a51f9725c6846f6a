/- Less, both. -/
import Derived.Test.YtjgccgfabacbkaaIf
import Derived.LoopTactic
import Derived.StillTailTactics
namespace Go.Proofs.Ytjgccgfabacbkaa
open Go.RowKit

def cmpI (a b : Int) : Int := if a < b then -1 else if b < a then 1 else 0
theorem isNaN_any (a : Int) (w : World) :
    Calls Try.prog 38 #[.int .i64 a] w fun e w' => e = .returned (.bool false) ∧ w = w' := by
  have h1 : (a == a) = true := by simp
  have h2 : (a != a) = false := by simp
  go_enter Try.func38, Try.ntmps38
  go_wp2
  go_ret
  exact ⟨rfl, rfl⟩
theorem compare_any (a b : Int) (w : World) :
    Calls Try.prog 36 #[.int .i64 a, .int .i64 b] w fun e w' => e = .returned (.int .i64 (cmpI a b)) ∧ w = w' := by
  have C1 := Lib.hid (fun w => isNaN_any a w)
  have C2 := Lib.hid (fun w => isNaN_any b w)
  by_cases h1 : a < b
  · have hc : cmpI a b = -1 := if_pos h1
    rw [hc]
    clear hc
    go_enter Try.func36, Try.ntmps36
    go_wp2_with fail
    refine (C1.out _).mono ?_; rintro e2 w1 ⟨rfl, rfl⟩
    go_wp2_with fail
    refine (C2.out _).mono ?_; rintro e2 w1 ⟨rfl, rfl⟩
    go_wp2
    go_ret
    exact ⟨rfl, rfl⟩
  · have h1' : b ≤ a := by omega
    have d1 : decide (a < b) = false := by simpa using h1
    by_cases h2 : b < a
    · have hc : cmpI a b = 1 := by unfold cmpI; rw [if_neg h1, if_pos h2]
      rw [hc]
      clear hc
      go_enter Try.func36, Try.ntmps36
      go_wp2_with fail
      refine (C1.out _).mono ?_; rintro e2 w1 ⟨rfl, rfl⟩
      go_wp2_with fail
      refine (C2.out _).mono ?_; rintro e2 w1 ⟨rfl, rfl⟩
      go_wp2
      go_ret
      exact ⟨rfl, rfl⟩
    · have hc : cmpI a b = 0 := by unfold cmpI; rw [if_neg h1, if_neg h2]
      have d2 : decide (b < a) = false := by simpa using h2
      have h2' : a ≤ b := by omega
      rw [hc]
      clear hc
      go_enter Try.func36, Try.ntmps36
      go_wp2_with fail
      refine (C1.out _).mono ?_; rintro e2 w1 ⟨rfl, rfl⟩
      go_wp2_with fail
      refine (C2.out _).mono ?_; rintro e2 w1 ⟨rfl, rfl⟩
      go_wp2
      go_ret
      exact ⟨rfl, rfl⟩

/-- The first that is not 0. -/
def orL : List Int → Int
  | [] => 0
  | x :: r => if x = 0 then orL r else x
theorem orL_drop (xs : List Int) (k : Nat) (h : k < xs.length) : orL (xs.drop k) = if xs[k] = 0 then orL (xs.drop (k + 1)) else xs[k] := by
  rw [List.drop_eq_getElem_cons h]; rfl

set_option maxRecDepth 100000 in
theorem or_any (g : Nat) (n c : Nat) (xs : List Int) (w : World) (hn : xs.length = n) (hb : n ≤ 1000000) (hc : ∀ j, (h : j < n) → w.cell? ⟨g, j, none⟩ = some (.int .i64 (xs[j]'(by omega)))) :
    Calls Try.prog 35 #[.slice (some ⟨g, 0, none⟩) n c] w fun e w' => e = .returned (.int .i64 (orL xs)) ∧ w = w' := by
  have HC := Lib.hid hc
  clear hc
  go_enter Try.func35, Try.ntmps35
  go_wp2
  go_loop [5, 8] (fun _ i => ∃ k : Nat, k ≤ n ∧ i = .int .i64 k ∧ Hid (orL xs = orL (xs.drop k))) (fun _ i => n - (intOf i).toNat)
  case atStart => exact ⟨0, Nat.zero_le _, rfl, Lib.hid rfl⟩
  case round =>
    obtain ⟨k, hk, rfl, HR⟩ := hrel
    by_cases hlt : k < n
    · have hcell := HC.out k hlt
      have HD := Lib.hid (orL_drop xs k (by omega))
      generalize xs[k] = x at *
      by_cases hx : x = 0
      · subst hx
        go_wp2
        go_round
        case rel => exact ⟨k + 1, by omega, by go_num, Lib.hid (by rw [HR.out, HD.out]; simp)⟩
        case measure => simp [intOf]; omega
      · have hx1 : (x == 0) = false := by simpa using hx
        have hx2 : (x != 0) = true := by simpa using hx
        clear hx
        go_wp2
        go_ret
        exact ⟨ret_int (by rw [HR.out, HD.out, if_neg (by simpa using hx1)]), rfl⟩
    · have : k = n := by omega
      subst this
      go_wp2
      go_ret
      exact ⟨ret_int (by rw [HR.out, List.drop_of_length_le (by omega)]; rfl), rfl⟩

theorem compare_still (a b : Int) (w : World) :
    Calls Try.prog 36 #[.int .i64 a, .int .i64 b] w fun e w' => e = .returned (.int .i64 (cmpI a b)) ∧ w' = w := (compare_any a b w).mono fun _ _ ⟨h, k⟩ => ⟨h, k.symm⟩
/-- Is a token less: by flow, run, event, turn. -/
def lessI (a b : Tok) : Int := orL [cmpI a.f b.f, cmpI a.r b.r, cmpI a.e b.e, cmpI a.t b.t]
def lessB (a b : Tok) : Bool := decide (lessI a b < 0)
set_option maxRecDepth 100000 in
set_option maxHeartbeats 1000000 in
theorem less_any (a b : Tok) (w : World) :
    Calls Try.prog 23 #[.agg a.cs, .agg b.cs] w fun e w' => e = .returned (.bool (lessB a b)) ∧ Fr (fun _ => False) w w' := by
  have C1 := Lib.hid (fun w => compare_still a.f b.f w)
  have C2 := Lib.hid (fun w => compare_still a.r b.r w)
  have C3 := Lib.hid (fun w => compare_still a.e b.e w)
  have C4 := Lib.hid (fun w => compare_still a.t b.t w)
  have HL : Hid (lessB a b = decide (orL [cmpI a.f b.f, cmpI a.r b.r, cmpI a.e b.e, cmpI a.t b.t] < 0)) := Lib.hid rfl
  generalize lessB a b = L at *
  generalize cmpI a.f b.f = x1 at *
  generalize cmpI a.r b.r = x2 at *
  generalize cmpI a.e b.e = x3 at *
  generalize cmpI a.t b.t = x4 at *
  obtain ⟨f, r, e, t⟩ := a
  obtain ⟨f', r', e', t'⟩ := b
  simp only [Tok.cs] at *
  have hF : Fr (fun _ => False) w ((w.alloc (.cells #[.int .i64 f, .int .i64 r, .int .i64 e, .int .i64 t] 38)).alloc (.cells #[.int .i64 f', .int .i64 r', .int .i64 e', .int .i64 t'] 38)) := ((Fr.refl _ w).alloc _).alloc _
  obtain ⟨m0, m1, m2, m3⟩ : TokAt w.heap.size ⟨f, r, e, t⟩ ((w.alloc (.cells #[.int .i64 f, .int .i64 r, .int .i64 e, .int .i64 t] 38)).alloc (.cells #[.int .i64 f', .int .i64 r', .int .i64 e', .int .i64 t'] 38)) := TokAt.of_bk ((Bk.new w _ _).alloc _)
  obtain ⟨n0, n1, n2, n3⟩ : TokAt (w.heap.size + 1) ⟨f', r', e', t'⟩ ((w.alloc (.cells #[.int .i64 f, .int .i64 r, .int .i64 e, .int .i64 t] 38)).alloc (.cells #[.int .i64 f', .int .i64 r', .int .i64 e', .int .i64 t'] 38)) := TokAt.of_bk (by
    have := Bk.new (w.alloc (.cells #[.int .i64 f, .int .i64 r, .int .i64 e, .int .i64 t] 38)) 38 #[.int .i64 f', .int .i64 r', .int .i64 e', .int .i64 t']
    simpa [Tok.cs] using this)
  go_enter Try.func23, Try.ntmps23
  go_wp2
  generalize (w.alloc (.cells #[.int .i64 f, .int .i64 r, .int .i64 e, .int .i64 t] 38)).alloc (.cells #[.int .i64 f', .int .i64 r', .int .i64 e', .int .i64 t'] 38) = W at *
  generalize w.heap.size = g at *
  refine wp_region_still_tail 20 (by kernel_rfl) (by kernel_rfl) ?_
  simp only [List.take_succ_cons, List.take_zero, List.drop_succ_cons, List.drop_zero]
  still_step; still_step; still_step; still_step
  still_call (C1.out _)
  still_step; still_step; still_step; still_step
  still_call (C2.out _)
  still_step; still_step; still_step; still_step
  still_call (C3.out _)
  still_step; still_step; still_step; still_step
  still_call (C4.out _)
  refine wpStill_nil ?_
  change wpList _ _ _ _ _ W.drew
  generalize hW : W.drew = W2 at *
  have hF2 : Fr (fun _ => False) w W2 := by subst hW; exact hF.drew
  clear hW hF m0 m1 m2 m3 n0 n1 n2 n3 C1 C2 C3 C4
  have HC := Lib.hid (fun (j : Nat) (h : j < 4) => show (W2.alloc (.cells #[Value.int IntKind.i64 x1, Value.int IntKind.i64 x2, Value.int IntKind.i64 x3, Value.int IntKind.i64 x4] 3)).cell? ⟨W2.heap.size, j, none⟩ = some (.int .i64 ([x1, x2, x3, x4][j]'(by simpa using h))) from by
    have := (Bk.new W2 3 #[Value.int IntKind.i64 x1, Value.int IntKind.i64 x2, Value.int IntKind.i64 x3, Value.int IntKind.i64 x4]).cell j
    rw [this]
    match j, h with
    | 0, _ => rfl
    | 1, _ => rfl
    | 2, _ => rfl
    | 3, _ => rfl)
  go_wp2_with fail
  refine (or_any W2.heap.size 4 4 [x1, x2, x3, x4] _ rfl (by decide) HC.out).mono ?_; rintro e2 w1 ⟨rfl, rfl⟩
  generalize orL [x1, x2, x3, x4] = y at *
  go_wp2
  go_ret
  exact ⟨by show Ending.returned (.bool _) = _; rw [HL.out], hF2.alloc _⟩

theorem cmpI_self (a : Int) : cmpI a a = 0 := by unfold cmpI; rw [if_neg (by omega), if_neg (by omega)]
theorem cmpI_ne {a b : Int} (h : a ≠ b) : cmpI a b ≠ 0 ∧ (cmpI a b < 0 ↔ a < b) := by
  unfold cmpI; split
  · exact ⟨by decide, by constructor <;> intro <;> omega⟩
  · split
    · exact ⟨by decide, by constructor <;> intro <;> omega⟩
    · omega
theorem orL_go {x : Int} {l : List Int} (h : x ≠ 0) : orL (x :: l) = x := if_neg h
theorem orL_on {l : List Int} : orL (0 :: l) = orL l := if_pos rfl
theorem less_f {a b : Tok} (h : a.f ≠ b.f) : lessB a b = decide (a.f < b.f) := by
  obtain ⟨h1, h2⟩ := cmpI_ne h
  unfold lessB lessI; rw [orL_go h1]; simp [h2]
theorem less_r {a b : Tok} (h0 : a.f = b.f) (h : a.r ≠ b.r) : lessB a b = decide (a.r < b.r) := by
  obtain ⟨h1, h2⟩ := cmpI_ne h
  unfold lessB lessI; rw [h0, cmpI_self, orL_on, orL_go h1]; simp [h2]
theorem less_e {a b : Tok} (h0 : a.f = b.f) (h3 : a.r = b.r) (h : a.e ≠ b.e) : lessB a b = decide (a.e < b.e) := by
  obtain ⟨h1, h2⟩ := cmpI_ne h
  unfold lessB lessI; rw [h0, h3, cmpI_self, cmpI_self, orL_on, orL_on, orL_go h1]; simp [h2]
theorem less_t {a b : Tok} (h0 : a.f = b.f) (h3 : a.r = b.r) (h4 : a.e = b.e) : lessB a b = decide (a.t < b.t) := by
  unfold lessB lessI; rw [h0, h3, h4, cmpI_self, cmpI_self, cmpI_self, orL_on, orL_on, orL_on]
  by_cases h : a.t = b.t
  · rw [h, cmpI_self]; simp [orL]
  · obtain ⟨h1, h2⟩ := cmpI_ne h
    rw [orL_go h1]; simp [h2]

set_option maxRecDepth 100000 in
set_option maxHeartbeats 1000000 in
theorem refless_any (a b : Tok) (w : World) :
    Calls Try.prog 24 #[.agg a.cs, .agg b.cs] w fun e w' => e = .returned (.bool (lessB a b)) ∧ Fr (fun _ => False) w w' := by
  have hz : ((a.f == b.f) = false ∧ lessB a b = decide (a.f < b.f)) ∨ ((a.f == b.f) = true ∧ (a.r == b.r) = false ∧ lessB a b = decide (a.r < b.r)) ∨ ((a.f == b.f) = true ∧ (a.r == b.r) = true ∧ (a.e == b.e) = false ∧ lessB a b = decide (a.e < b.e)) ∨ ((a.f == b.f) = true ∧ (a.r == b.r) = true ∧ (a.e == b.e) = true ∧ lessB a b = decide (a.t < b.t)) := by
    simp only [beq_iff_eq, beq_eq_false_iff_ne]
    by_cases h1 : a.f = b.f
    · by_cases h2 : a.r = b.r
      · by_cases h3 : a.e = b.e
        · exact .inr (.inr (.inr ⟨h1, h2, h3, less_t h1 h2 h3⟩))
        · exact .inr (.inr (.inl ⟨h1, h2, h3, less_e h1 h2 h3⟩))
      · exact .inr (.inl ⟨h1, h2, less_r h1 h2⟩)
    · exact .inl ⟨h1, less_f h1⟩
  obtain ⟨f, r, e, t⟩ := a
  obtain ⟨f', r', e', t'⟩ := b
  simp only [Tok.cs] at *
  rcases hz with ⟨h1, hl⟩ | ⟨h1, h2, hl⟩ | ⟨h1, h2, h3, hl⟩ | ⟨h1, h2, h3, hl⟩
  all_goals
    rw [hl]
    clear hl
    have g1 : (f != f') = !(f == f') := rfl
    have g2 : (r != r') = !(r == r') := rfl
    have g3 : (e != e') = !(e == e') := rfl
    rw [h1] at g1
    try rw [h2] at g2
    try rw [h3] at g3
    try clear h1
    try clear h2
    try clear h3
    simp only [Bool.not_true, Bool.not_false] at g1 g2 g3
    go_enter Try.func24, Try.ntmps24
    go_wp2
    go_ret
    exact ⟨rfl, ((Fr.refl _ _).alloc _).alloc _⟩
end Go.Proofs.Ytjgccgfabacbkaa
