/- dedup: mayHave, Top, least. -/
import Derived.Test.YtdfkoehcmgcoiaaJt
import Derived.Test.YtdfkoehcmgcoiaaCb
import Derived.IntWalk
import Derived.Handy
namespace Go.Proofs.Ytdfkoehcmgcoiaa
open Go.RowKit Go.Maps

set_option maxRecDepth 100000 in
set_option maxHeartbeats 4000000 in
theorem mayHave_any {g ba br : Nat} {F : Nat → Prop} {t : DT} {Da Dr : DV} {w : World} (h : TabM w g ba br F t Da Dr) (hw : 1 ≤ t.win) (c s : Int) :
    Calls Try.prog 32 #[.pointer (some ⟨g, 0, none⟩), kyV c s] w fun e w' => e = .returned (.bool (mayR c s)) ∧ Fr (fun _ => False) w w' := by
  obtain ⟨win, hwin⟩ : ∃ x, t.win = x := ⟨_, rfl⟩
  have c0 : (w.alloc (.cells #[.int .i64 c, .int .i64 s] 48)).cell? ⟨g, 0, none⟩ = some (.int .i64 win) := by
    have := (h.blk.alloc (.cells #[.int .i64 c, .int .i64 s] 48)).cell 0
    simpa [hwin] using this
  rw [hwin] at hw
  have d0 : decide (0 < win) = true := decide_eq_true (by omega)
  have HM := Lib.hid (DT.mayR_iff (c := c) (s := s))
  have HF : Hid (Fr (fun _ => False) w (w.alloc (.cells #[.int .i64 c, .int .i64 s] 48))) := Lib.hid ((Fr.refl _ _).alloc _)
  unfold kyV
  clear h hw hwin
  by_cases h0 : 0 ≤ c
  · have d1 : decide (0 ≤ c) = true := decide_eq_true h0
    by_cases h1 : c ≤ 1048576
    · have d2 : decide (c ≤ 1048576) = true := decide_eq_true h1
      by_cases h2 : 1 ≤ s
      · have d3 : decide (1 ≤ s) = true := decide_eq_true h2
        by_cases h3 : s ≤ 1099511627776
        · have d4 : decide (s ≤ 1099511627776) = true := decide_eq_true h3
          go_enter Try.func32, Try.ntmps32
          go_wp2
          go_ret
          refine ⟨?_, HF.out⟩
          rw [HM.out.2 (by omega)]; rfl
        · have d4 : decide (s ≤ 1099511627776) = false := decide_eq_false h3
          go_enter Try.func32, Try.ntmps32
          go_wp2
          go_ret
          refine ⟨?_, HF.out⟩
          rw [show mayR c s = false from Bool.eq_false_iff.2 (fun e => by have := HM.out.1 e; omega)]; rfl
      · have d3 : decide (1 ≤ s) = false := decide_eq_false h2
        go_enter Try.func32, Try.ntmps32
        go_wp2
        go_ret
        refine ⟨?_, HF.out⟩
        rw [show mayR c s = false from Bool.eq_false_iff.2 (fun e => by have := HM.out.1 e; omega)]; rfl
    · have d2 : decide (c ≤ 1048576) = false := decide_eq_false h1
      go_enter Try.func32, Try.ntmps32
      go_wp2
      go_ret
      refine ⟨?_, HF.out⟩
      rw [show mayR c s = false from Bool.eq_false_iff.2 (fun e => by have := HM.out.1 e; omega)]; rfl
  · have d1 : decide (0 ≤ c) = false := decide_eq_false h0
    go_enter Try.func32, Try.ntmps32
    go_wp2
    go_ret
    refine ⟨?_, HF.out⟩
    rw [show mayR c s = false from Bool.eq_false_iff.2 (fun e => by have := HM.out.1 e; omega)]; rfl

theorem I64.of {x : Int} (h1 : -9223372036854775808 ≤ x) (h2 : x ≤ 9223372036854775807) : I64 x := ⟨h1, h2⟩
theorem TabM.lookR {g ba br : Nat} {F : Nat → Prop} {t : DT} {Da Dr : DV} {w : World} (h : TabM w g ba br F t Da Dr) {c : Int} (hc : I64 c) :
    ∃ v, (∀ w', Fr (fun _ => False) w w' → (Instr.lookup 54 (.map (some br)) (.int .i64 c) false).run Try.prog w' = .ok v w' ∧ RI w' v (t.row c)) ∧ (t.row c ≠ [] → At Dr (.int .i64 c) v ∧ ∀ k, v.ownBlock = some k → F k) ∧ (t.row c = [] → v = .slice none 0 0) := by
  by_cases hr : t.row c = []
  · refine ⟨.slice none 0 0, fun w' hf => ⟨((h.mr.fr hf (fun h => h)).at0 kInt tRow (zeroRow w') hc.key (h.noRow c hc hr)).2, ?_⟩, fun h => absurd hr h, fun _ => rfl⟩
    rw [hr]; exact Row.nil _ _ _
  · obtain ⟨v, h1, h2, h3⟩ := h.row c hc hr
    exact ⟨v, fun w' hf => ⟨((h.mr.fr hf (fun h => h)).at1 kInt tRow (zeroRow w') hc.key h1).2, Row.fr0 h2 hf⟩, fun _ => ⟨h1, h3⟩, fun e => absurd e hr⟩

set_option maxRecDepth 100000 in
set_option maxHeartbeats 2000000 in
theorem top_any {g ba br : Nat} {F : Nat → Prop} {t : DT} {Da Dr : DV} {w : World} (h : TabM w g ba br F t Da Dr) {c : Int} (hc : I64 c) (hl : (t.row c).length ≤ 1048576) :
    Calls Try.prog 11 #[.pointer (some ⟨g, 0, none⟩), .int .i64 c] w fun e w' => e = .returned (.int .i64 (t.top c)) ∧ w = w' := by
  have c2 : w.cell? ⟨g, 2, none⟩ = some (.map (some br)) := h.blk.cell 2
  obtain ⟨v, h1, _⟩ := h.lookR hc
  obtain ⟨hlk, hri⟩ := h1 w (Fr.refl _ _)
  unfold DT.top
  obtain ⟨r, hr⟩ : ∃ r, t.row c = r := ⟨_, rfl⟩
  rw [hr] at hl hri ⊢
  clear h h1 hr
  rcases hri.cases with ⟨rfl, rfl⟩ | ⟨b, off, cap, cur, rfl, hb, hc1, hc2, hc3, hc4⟩
  · clear hri
    go_enter Try.func11, Try.ntmps11
    go_wp2
    go_ret
    exact ⟨rfl, rfl⟩
  · clear hri
    by_cases h0 : r.length = 0
    · have hr0 : r = [] := List.eq_nil_of_length_eq_zero h0
      subst hr0
      clear hc4 hb
      go_enter Try.func11, Try.ntmps11
      go_wp2
      go_ret
      exact ⟨rfl, rfl⟩
    · obtain ⟨n, hn⟩ : ∃ n, r.length = n + 1 := ⟨r.length - 1, by omega⟩
      have hcell : w.cell? ⟨b, off + n, none⟩ = some (.int .i64 (topR r)) := by
        rw [hb.cell, hc4 n (by omega)]
        have := topR_at (r := r) (fun e => h0 (by rw [e]; rfl))
        rw [show r.length - 1 = n by omega, List.getElem?_eq_getElem (by omega)] at this
        injection this with this
        rw [IV, this]
      rw [hn] at hc1 hl hlk
      have w1 : IntKind.i64.wrap (((n + 1 : Nat) : Int) - 1) = (n : Int) := by rw [IntWalk.i64_in _ (by omega)]; omega
      have d1 : (((n + 1 : Nat) : Int) == 0) = false := by simp; omega
      generalize topR r = tp at *
      clear hc4 hb h0 hn
      go_enter Try.func11, Try.ntmps11
      go_wp2
      go_ret
      exact ⟨rfl, rfl⟩

set_option maxRecDepth 100000 in
set_option maxHeartbeats 2000000 in
theorem least_any {g ba br : Nat} {F : Nat → Prop} {t : DT} {Da Dr : DV} {w : World} (h : TabM w g ba br F t Da Dr) (ok : t.ok0) {c : Int} (hc : I64 c) (hl : (t.row c).length ≤ 1048576) :
    Calls Try.prog 33 #[.pointer (some ⟨g, 0, none⟩), .int .i64 c] w fun e w' => e = .returned (.int .i64 (t.least c)) ∧ ∃ m, w' = w.drewN m := by
  have hT : ∀ n, Calls Try.prog 11 #[.pointer (some ⟨g, 0, none⟩), .int .i64 c] (w.drewN n) fun e w' => e = .returned (.int .i64 (t.top c)) ∧ w' = w.drewN n := fun n => (top_any (h.fr ((Fr.refl (fun _ => False) _).drewN n) (fun _ _ h => h)) hc hl).mono fun _ _ ⟨h1, h2⟩ => ⟨h1, h2.symm⟩
  have htr := ok.top_rng c
  have hw1 := ok.w1
  have hw2 := ok.w2
  have c0 : w.cell? ⟨g, 0, none⟩ = some (.int .i64 t.win) := h.blk.cell 0
  unfold DT.least
  generalize t.top c = tp at *
  generalize t.win = win at *
  have w1 : IntKind.i64.wrap (tp - win) = tp - win := IntWalk.i64_in _ (by omega)
  have w2 : IntKind.i64.wrap (tp - win + 1) = tp - win + 1 := IntWalk.i64_in _ (by omega)
  have CT := Lib.hid hT
  clear h ok hT htr hw1 hw2
  go_enter Try.func33, Try.ntmps33
  go_wp2_with fail
  go_quiet (first
    | (go_at_call 11; exact Calls.quiet_of_same (CT.out _)))
  go_wp2
  go_ret
  exact ⟨rfl, _, rfl⟩
end Go.Proofs.Ytdfkoehcmgcoiaa
