/- cmp.Compare, cmp.Or; a clock's comparison of two alarms. -/
import Derived.Test.YtholaofgdahcbaaTa
import Derived.LoopTactic
import Derived.StillTailTactics
namespace Go.Proofs.Ytholaofgdahcbaa
open Go.RowKit Go.Maps

def cmpI (a b : Int) : Int := if a < b then -1 else if b < a then 1 else 0
theorem isNaN_any (a : Int) (w : World) :
    Calls Try.prog 42 #[.int .i64 a] w fun e w' => e = .returned (.bool false) ∧ w = w' := by
  have h1 : (a == a) = true := by simp
  have h2 : (a != a) = false := by simp
  go_enter Try.func42, Try.ntmps42
  go_wp2
  go_ret
  exact ⟨rfl, rfl⟩
theorem compare_any (a b : Int) (w : World) :
    Calls Try.prog 30 #[.int .i64 a, .int .i64 b] w fun e w' => e = .returned (.int .i64 (cmpI a b)) ∧ w = w' := by
  have C1 := Lib.hid (fun w => isNaN_any a w)
  have C2 := Lib.hid (fun w => isNaN_any b w)
  by_cases h1 : a < b
  · have hc : cmpI a b = -1 := if_pos h1
    rw [hc]
    clear hc
    go_enter Try.func30, Try.ntmps30
    go_wp2_with fail
    refine (C1.out _).mono ?_; rintro e2 w1 ⟨rfl, rfl⟩
    go_wp2_with fail
    refine (C2.out _).mono ?_; rintro e2 w1 ⟨rfl, rfl⟩
    go_wp2
    go_ret
    exact ⟨rfl, rfl⟩
  · have h1' : b ≤ a := by omega
    have d1 : decide (a < b) = false := by simpa using h1
    by_cases h2 : b < a
    · have hc : cmpI a b = 1 := by unfold cmpI; rw [if_neg h1, if_pos h2]
      rw [hc]
      clear hc
      go_enter Try.func30, Try.ntmps30
      go_wp2_with fail
      refine (C1.out _).mono ?_; rintro e2 w1 ⟨rfl, rfl⟩
      go_wp2_with fail
      refine (C2.out _).mono ?_; rintro e2 w1 ⟨rfl, rfl⟩
      go_wp2
      go_ret
      exact ⟨rfl, rfl⟩
    · have hc : cmpI a b = 0 := by unfold cmpI; rw [if_neg h1, if_neg h2]
      have d2 : decide (b < a) = false := by simpa using h2
      have h2' : a ≤ b := by omega
      rw [hc]
      clear hc
      go_enter Try.func30, Try.ntmps30
      go_wp2_with fail
      refine (C1.out _).mono ?_; rintro e2 w1 ⟨rfl, rfl⟩
      go_wp2_with fail
      refine (C2.out _).mono ?_; rintro e2 w1 ⟨rfl, rfl⟩
      go_wp2
      go_ret
      exact ⟨rfl, rfl⟩

/-- The first that is not 0. -/
def orL : List Int → Int
  | [] => 0
  | x :: r => if x = 0 then orL r else x
theorem orL_drop (xs : List Int) (k : Nat) (h : k < xs.length) : orL (xs.drop k) = if xs[k] = 0 then orL (xs.drop (k + 1)) else xs[k] := by
  rw [List.drop_eq_getElem_cons h]; rfl

set_option maxRecDepth 100000 in
theorem or_any (g : Nat) (n c : Nat) (xs : List Int) (w : World) (hn : xs.length = n) (hb : n ≤ 1000000) (hc : ∀ j, (h : j < n) → w.cell? ⟨g, j, none⟩ = some (.int .i64 (xs[j]'(by omega)))) :
    Calls Try.prog 29 #[.slice (some ⟨g, 0, none⟩) n c] w fun e w' => e = .returned (.int .i64 (orL xs)) ∧ w = w' := by
  have HC := Lib.hid hc
  clear hc
  go_enter Try.func29, Try.ntmps29
  go_wp2
  go_loop [5, 8] (fun _ i => ∃ k : Nat, k ≤ n ∧ i = .int .i64 k ∧ Hid (orL xs = orL (xs.drop k))) (fun _ i => n - (intOf i).toNat)
  case atStart => exact ⟨0, Nat.zero_le _, rfl, Lib.hid rfl⟩
  case round =>
    obtain ⟨k, hk, rfl, HR⟩ := hrel
    by_cases hlt : k < n
    · have hcell := HC.out k hlt
      have HD := Lib.hid (orL_drop xs k (by omega))
      generalize xs[k] = x at *
      by_cases hx : x = 0
      · subst hx
        go_wp2
        go_round
        case rel => exact ⟨k + 1, by omega, by go_num, Lib.hid (by rw [HR.out, HD.out]; simp)⟩
        case measure => simp [intOf]; omega
      · have hx1 : (x == 0) = false := by simpa using hx
        have hx2 : (x != 0) = true := by simpa using hx
        clear hx
        go_wp2
        go_ret
        exact ⟨ret_int (by rw [HR.out, HD.out, if_neg (by simpa using hx1)]), rfl⟩
    · have : k = n := by omega
      subst this
      go_wp2
      go_ret
      exact ⟨ret_int (by rw [HR.out, List.drop_of_length_le (by omega)]; rfl), rfl⟩

theorem compare_still (a b : Int) (w : World) :
    Calls Try.prog 30 #[.int .i64 a, .int .i64 b] w fun e w' => e = .returned (.int .i64 (cmpI a b)) ∧ w' = w := (compare_any a b w).mono fun _ _ ⟨h, k⟩ => ⟨h, k.symm⟩
theorem cmpI_self (a : Int) : cmpI a a = 0 := by unfold cmpI; rw [if_neg (by omega), if_neg (by omega)]
theorem cmpI_ne {a b : Int} (h : a ≠ b) : cmpI a b ≠ 0 ∧ (cmpI a b < 0 ↔ a < b) := by
  unfold cmpI; split
  · exact ⟨by decide, by constructor <;> intro <;> omega⟩
  · split
    · exact ⟨by decide, by constructor <;> intro <;> omega⟩
    · omega
theorem orL_go {x : Int} {l : List Int} (h : x ≠ 0) : orL (x :: l) = x := if_neg h
theorem orL_on {l : List Int} : orL (0 :: l) = orL l := if_pos rfl

/-- The tick of an alarm; 0 where there is none. -/
def tickOf (D : DataW Unit) (x : Int) : Int := match D.atKey (.int .i64 x) (.lit (.int .i64 0)) with | .lit (.int _ c) => c | _ => 0
theorem tickOf_eq {D : DataW Unit} {x c : Int} (h : D.atKey (.int .i64 x) (.lit (.int .i64 0)) = .lit (.int .i64 c)) : tickOf D x = c := by unfold tickOf; rw [h]
/-- By tick, then id. -/
def cmpC (D : DataW Unit) (x y : Int) : Int := orL [cmpI (tickOf D x) (tickOf D y), cmpI x y]

theorem clkLook {w : World} {b n : Nat} {D : DataW Unit} (h : AM w b n D) {x : Int} (hx : I64 x) :
    (Instr.lookup 41 (.map (some b)) (.int .i64 x) false).run Try.prog w = .ok (.int .i64 (tickOf D x)) w := by
  obtain ⟨c, hrun, hat, _⟩ := World.ownsMap.lookup_int h kInt Try.underlying41 Try.underlying3 (zeroInt _) hx.key
  rw [tickOf_eq hat]
  exact hrun

set_option maxRecDepth 100000 in
set_option maxHeartbeats 1000000 in
theorem clkcmp_any (g b n : Nat) (now x y : Int) (D : DataW Unit) (w : World) (h : Clk w g now (some b) n D) (hx : I64 x) (hy : I64 y) :
    Calls Try.prog 24 #[.pointer (some ⟨g, 0, none⟩), .int .i64 x, .int .i64 y] w fun e w' => e = .returned (.int .i64 (cmpC D x y)) ∧ Fr (fun _ => False) w w' := by
  have c1 : w.cell? ⟨g, 1, none⟩ = some (.map (some b)) := h.1.cell 1
  have hown : AM w b n D := by
    rcases h.2 with ⟨e, _⟩ | ⟨b', e, hb⟩
    · cases e
    · injection e with e; subst e; exact hb
  have k1 := clkLook (w := w.drew) (World.ownsMap.drew hown) hx
  have k2 := clkLook (w := w.drew) (World.ownsMap.drew hown) hy
  have C1 := Lib.hid (fun w => compare_still (tickOf D x) (tickOf D y) w)
  have C2 := Lib.hid (fun w => compare_still x y w)
  have HL : Hid (cmpC D x y = orL [cmpI (tickOf D x) (tickOf D y), cmpI x y]) := Lib.hid rfl
  generalize cmpC D x y = L at *
  generalize tickOf D x = tx at *
  generalize tickOf D y = ty at *
  generalize cmpI tx ty = x1 at *
  generalize cmpI x y = x2 at *
  clear h hown hx hy
  go_enter Try.func24, Try.ntmps24
  go_wp2
  refine wp_region_still_tail 16 (by kernel_rfl) (by kernel_rfl) ?_
  simp only [List.take_succ_cons, List.take_zero, List.drop_succ_cons, List.drop_zero]
  still_step; still_step; still_step; still_step; still_step; still_step; still_step; still_step; still_step; still_step; still_step; still_step
  still_call (C1.out _)
  still_step; still_step
  still_call (C2.out _)
  refine wpStill_nil ?_
  change wpList _ _ _ _ _ w.drew
  generalize hW : w.drew = W2 at *
  have hF2 : Fr (fun _ => False) w W2 := by subst hW; exact (Fr.refl _ _).drew
  clear hW c1 k1 k2 C1 C2
  have HC := Lib.hid (fun (j : Nat) (h : j < 2) => show (W2.alloc (.cells #[Value.int IntKind.i64 x1, Value.int IntKind.i64 x2] 3)).cell? ⟨W2.heap.size, j, none⟩ = some (.int .i64 ([x1, x2][j]'(by simpa using h))) from by
    have := (Bk.new W2 3 #[Value.int IntKind.i64 x1, Value.int IntKind.i64 x2]).cell j
    rw [this]
    match j, h with
    | 0, _ => rfl
    | 1, _ => rfl)
  go_wp2_with fail
  refine (or_any W2.heap.size 2 2 [x1, x2] _ rfl (by decide) HC.out).mono ?_; rintro e2 w1 ⟨rfl, rfl⟩
  generalize orL [x1, x2] = y at *
  go_wp2
  go_ret
  exact ⟨ret_int HL.out.symm, hF2.alloc _⟩
end Go.Proofs.Ytholaofgdahcbaa
