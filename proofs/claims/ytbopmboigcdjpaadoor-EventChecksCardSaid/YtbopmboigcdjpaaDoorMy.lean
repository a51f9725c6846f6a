/- The reference's Status, the law's ints. -/
import Derived.Test.YtbopmboigcdjpaaDoorMt
namespace Go.Proofs.YtbopmboigcdjpaaDoor
open Go.RowKit Go.Maps

set_option maxRecDepth 100000 in
set_option maxHeartbeats 4000000 in
theorem rstatus_any (A : Option Addr) (n c : Nat) (ps : List VL) (F : Nat → Prop) (w : World) (h : Vs w A n ps F) (hn : n ≤ 1048576) :
    Calls Tryd.prog 13 #[.slice A n c] w fun e w' => e = .returned (.int .i64 (statusL (evs ps))) ∧ w = w' := by
  unfold statusL
  cases n with
  | zero =>
    have hp : ps = [] := List.eq_nil_of_length_eq_zero h.len
    subst hp
    clear h
    go_enter Tryd.func13, Tryd.ntmps13
    go_wp2
    go_ret
    exact ⟨rfl, rfl⟩
  | succ m =>
    rw [last_get h.len]
    simp only
    obtain ⟨b, off, rfl, -, hcs, -⟩ := h.at (i := m) (by omega)
    have q0 : w.cell? ⟨b, off + m * 7, none⟩ = some (.int .i64 (ps.getD m default).e.k) := hcs 0 _ rfl
    generalize (ps.getD m default).e.k = k at *
    have w1 : IntKind.i64.wrap (((m + 1 : Nat) : Int) - 1) = (m : Int) := by rw [IntWalk.i64_in _ (by omega)]; omega
    have d1 : (((m + 1 : Nat) : Int) == 0) = false := by simp; omega
    have hm0 : (0 : Int) ≤ (m : Int) := by omega
    have hm1 : (m : Int) < ((m + 1 : Nat) : Int) := by omega
    clear h hcs
    by_cases h1 : k = 19
    · subst h1
      go_enter Tryd.func13, Tryd.ntmps13
      go_wp2
      go_ret
      exact ⟨rfl, rfl⟩
    by_cases h2 : k = 20
    · subst h2
      go_enter Tryd.func13, Tryd.ntmps13
      go_wp2
      go_ret
      exact ⟨rfl, rfl⟩
    by_cases h3 : k = 21
    · subst h3
      go_enter Tryd.func13, Tryd.ntmps13
      go_wp2
      go_ret
      exact ⟨rfl, rfl⟩
    by_cases h4 : k = 22
    · subst h4
      go_enter Tryd.func13, Tryd.ntmps13
      go_wp2
      go_ret
      exact ⟨rfl, rfl⟩
    by_cases h5 : k = 23
    · subst h5
      go_enter Tryd.func13, Tryd.ntmps13
      go_wp2
      go_ret
      exact ⟨rfl, rfl⟩
    have e1 : (k == 19) = false := by simp [h1]
    have e2 : (k == 20) = false := by simp [h2]
    have e3 : (k == 21) = false := by simp [h3]
    have e4 : (k == 22) = false := by simp [h4]
    have e5 : (k == 23) = false := by simp [h5]
    have hs : statusK k = 1 := by unfold statusK; rw [if_neg h1, if_neg h2, if_neg h3, if_neg h4, if_neg h5]
    rw [hs]
    clear h1 h2 h3 h4 h5 hs
    go_enter Tryd.func13, Tryd.ntmps13
    go_wp2
    go_ret
    exact ⟨rfl, rfl⟩

set_option maxRecDepth 100000 in
set_option maxHeartbeats 4000000 in
theorem ints_any (v u : Value) (zs : List Int) (w : World) (h : IdR w v zs) (h2 : IdR w u zs) (hl : zs.length ≤ 1048576) : Calls Tryd.prog 15 #[v, u] w fun e w' => e = .returned (.bool true) ∧ Fr (fun _ => False) w w' := by
  obtain ⟨A, cap, rfl, hc⟩ := h
  obtain ⟨B, cap2, rfl, hc2⟩ := h2
  obtain ⟨n, hn⟩ : ∃ n, zs.length = n := ⟨_, rfl⟩
  have HC : Hid (∀ k, k < n → ∃ d d2 x, A = some ⟨d, 0, none⟩ ∧ B = some ⟨d2, 0, none⟩ ∧ w.cell? ⟨d, k, none⟩ = some (.int .i64 x) ∧ w.cell? ⟨d2, k, none⟩ = some (.int .i64 x)) := Lib.hid (fun k hk => by
    obtain ⟨d, e, hcc⟩ := hc (by omega)
    obtain ⟨d2, e2, hcc2⟩ := hc2 (by omega)
    exact ⟨d, d2, zs[k], e, e2, hcc k (by omega), hcc2 k (by omega)⟩)
  rw [hn] at hl ⊢
  have hnI : (n : Int) ≤ 1048576 := by omega
  have d0 : ((n : Int) != (n : Int)) = false := by simp
  clear hc hc2 hn
  go_enter Tryd.func15, Tryd.ntmps15
  go_wp2_with fail
  go_loopw [5] (fun i wr => ∃ (k : Nat), i = .int .i64 (k : Int) ∧ k ≤ n ∧ Hid (∃ m, wr = w.drewN m)) (fun i _ => n - (intOf i).toNat)
  case atStart => exact ⟨0, rfl, by omega, ⟨0, rfl⟩⟩
  case round =>
    obtain ⟨k, rfl, hkn, HW⟩ := hrel
    have hk0 : (0 : Int) ≤ (k : Int) := by omega
    by_cases hlt : k < n
    · have hlt' : (k : Int) < n := by omega
      obtain ⟨d, d2, x, rfl, rfl, cx, cy⟩ := HC.out k hlt
      have w2 : IntKind.i64.wrap ((k : Int) + 1) = (k : Int) + 1 := IntWalk.i64_in _ (by omega)
      have cx' : ∀ q, (wr.drewN q).cell? ⟨d, k, none⟩ = some (.int .i64 x) := fun _ => by obtain ⟨m, e⟩ := HW.out; subst e; exact cx
      have cy' : ∀ q, (wr.drewN q).cell? ⟨d2, k, none⟩ = some (.int .i64 x) := fun _ => by obtain ⟨m, e⟩ := HW.out; subst e; exact cy
      clear cx cy
      go_wp2_with fail
      go_quiet (fail)
      go_wp2
      go_roundw
      case rel => exact ⟨k + 1, by first | rfl | (go_num; done) | (congr 1; omega), by omega, by obtain ⟨m, e⟩ := HW.out; exact ⟨m + nq, by rw [e]; simp [World.drewN, Nat.add_assoc]⟩⟩
      case measure => (simp [intOf]) <;> omega
    · have hlt' : ¬ (k : Int) < (n : Int) := by omega
      clear hlt
      go_wp2
      go_ret
      obtain ⟨m, e⟩ := HW.out
      exact ⟨rfl, by rw [e]; exact (Fr.refl _ _).drewN _⟩
end Go.Proofs.YtbopmboigcdjpaaDoor
