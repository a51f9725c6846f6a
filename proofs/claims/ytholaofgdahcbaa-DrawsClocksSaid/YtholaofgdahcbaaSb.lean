/- Sources, both. -/
import Derived.Test.YtholaofgdahcbaaSa
import Derived.Test.YtholaofgdahcbaaMem
namespace Go.Proofs.Ytholaofgdahcbaa
open Go.RowKit

/-- The state behind the next draw. -/
def stepN (s : Nat) : Nat := (s + 11400714819323198485) % 18446744073709551616
theorem stepN_lt (s : Nat) : U64 (stepN s) := Nat.mod_lt _ (by decide)
theorem step_val (s : Nat) : IntKind.u64.wrap ((s : Int) + 11400714819323198485) = ((stepN s : Nat) : Int) := by
  rw [wrap_u64]; unfold stepN; omega
theorem u64N_wrap64 (v : Nat) (h : U64 v) : u64N (wrap64 (v : Int)) = v := by
  have := h.lt
  unfold u64N wrap64; omega
theorem hash_state (v : Nat) (h : U64 v) (w : World) :
    Calls Try.prog 31 #[.int .i64 (wrap64 (v : Int))] w fun e w' => e = .returned (.int .u64 ((hashN v : Nat) : Int)) ∧ w = w' := by
  have := hash_any (wrap64 (v : Int)) w
  rw [u64N_wrap64 v h] at this
  exact this

/-- A source at block g: its state, how many were drawn. -/
def Src (w : World) (g : Nat) (s n : Nat) : Prop := Bk w g 54 #[.int .u64 (s : Int), .int .i64 (n : Int)]
theorem new_any (s : Nat) (w : World) :
    Calls Try.prog 19 #[.int .u64 s] w fun e w' => e = .returned (.pointer (some ⟨w.heap.size, 0, none⟩)) ∧ w' = w.alloc (.cells #[.int .u64 s, .int .i64 0] 54) := by
  go_enter Try.func19, Try.ntmps19
  go_wp2
  go_ret
  exact ⟨rfl, rfl⟩

theorem two_set {w : World} {g : Nat} {t : TypeId} {a b : Value} (h : Bk w g t #[a, b]) (a' b' : Value) :
    Bk ((w.setCell ⟨g, 0, none⟩ a').setCell ⟨g, 1, none⟩ b') g t #[a', b'] := by
  simpa using (h.set 0 a').set 1 b'
theorem two_fr (w : World) (g : Nat) (a' b' : Value) : Fr (fun k => k = g) w ((w.setCell ⟨g, 0, none⟩ a').setCell ⟨g, 1, none⟩ b') :=
  Fr.setCell (S := fun k => k = g) (p := ⟨g, 1, none⟩) (Fr.setCell (S := fun k => k = g) (p := ⟨g, 0, none⟩) (Fr.refl _ _) (fun _ => rfl) _) (fun _ => rfl) _

set_option maxHeartbeats 1000000 in
theorem next_any (g s n : Nat) (w : World) (h : Src w g s n) (hn : (n : Int) ≤ 4611686018427387904) :
    Calls Try.prog 25 #[.pointer (some ⟨g, 0, none⟩)] w fun e w' => e = .returned (.int .u64 ((hashN (stepN s) : Nat) : Int)) ∧ Src w' g (stepN s) (n + 1) ∧ Fr (fun k => k = g) w w' := by
  have c0 : w.cell? ⟨g, 0, none⟩ = some (.int .u64 (s : Int)) := h.cell 0
  have c1 : w.cell? ⟨g, 1, none⟩ = some (.int .i64 (n : Int)) := h.cell 1
  have f0 : w.frozen? ⟨g, 0, none⟩ = false := h.frozen 0
  have f1 : w.frozen? ⟨g, 1, none⟩ = false := h.frozen 1
  have e0 := step_val s
  have C1 := Lib.hid (fun w => hash_state (stepN s) (stepN_lt s) w)
  have H := Lib.hid h
  clear h
  generalize stepN s = m at *
  generalize hashN m = r at *
  have hfin : ((n : Int) + 1) = ((n + 1 : Nat) : Int) := by omega
  have HF := Lib.hid hfin
  clear hfin
  go_enter Try.func25, Try.ntmps25
  go_wp2_with fail
  refine (C1.out _).mono ?_; rintro e2 w1 ⟨rfl, rfl⟩
  go_wp2
  go_ret
  refine ⟨rfl, ?_, two_fr _ _ _ _⟩
  have := two_set H.out (.int .u64 (m : Int)) (.int .i64 ((n + 1 : Nat) : Int))
  simpa [Src] using this

/-- What Below tells, and the state and count behind it. -/
def belowV (s : Nat) (n : Int) : Int := if n < 1 then 0 else ((hashN (stepN s) : Nat) : Int) % n
def belowS (s : Nat) (n : Int) : Nat := if n < 1 then s else stepN s
def belowK (k : Nat) (n : Int) : Nat := if n < 1 then k else k + 1
theorem belowK_le (k : Nat) (n : Int) : belowK k n ≤ k + 1 := by unfold belowK; split <;> omega
theorem below_no {s : Nat} {n : Int} (h : n < 1) : belowV s n = 0 ∧ belowS s n = s ∧ ∀ k, belowK k n = k := ⟨if_pos h, if_pos h, fun _ => if_pos h⟩
theorem below_yes {s : Nat} {n : Int} (h : 1 ≤ n) : belowV s n = ((hashN (stepN s) : Nat) : Int) % n ∧ belowS s n = stepN s ∧ ∀ k, belowK k n = k + 1 := ⟨if_neg (by omega), if_neg (by omega), fun _ => if_neg (by omega)⟩
theorem belowV_in {s : Nat} {n : Int} (h : 1 ≤ n) : 0 ≤ belowV s n ∧ belowV s n < n := by
  rw [(below_yes h).1]; exact ⟨Int.emod_nonneg _ (by omega), Int.emod_lt_of_pos _ (by omega)⟩

set_option maxHeartbeats 1000000 in
theorem below_any (g s k : Nat) (n : Int) (w : World) (h : Src w g s k) (hk : (k : Int) ≤ 4611686018427387904) (hn : n ≤ 9223372036854775807) :
    Calls Try.prog 20 #[.pointer (some ⟨g, 0, none⟩), .int .i64 n] w fun e w' => e = .returned (.int .i64 (belowV s n)) ∧ Src w' g (belowS s n) (belowK k n) ∧ Fr (fun k => k = g) w w' := by
  by_cases hlt : n < 1
  · obtain ⟨e1, e2, e3⟩ := below_no (s := s) hlt
    rw [e1, e2, e3]
    clear e1 e2 e3
    have H := Lib.hid h
    clear h
    go_enter Try.func20, Try.ntmps20
    go_wp2
    go_ret
    exact ⟨rfl, H.out, Fr.refl _ _⟩
  · have b2 : 1 ≤ n := by omega
    obtain ⟨e1, e2, e3⟩ := below_yes (s := s) b2
    rw [e2, e3]
    have hi := belowV_in (s := s) b2
    have HV := Lib.hid e1
    clear e1 e2 e3 hlt
    generalize belowV s n = z at *
    have C1 := Lib.hid (fun w h => next_any g s k w h hk)
    have H := Lib.hid h
    clear h hk
    have hl : U64 (hashN (stepN s)) := hashN_lt _
    have b0 : (0 : Int) ≤ (hashN (stepN s) : Nat) := by omega
    have b1 : ((hashN (stepN s) : Nat) : Int) ≤ 18446744073709551615 := by have := hl.lt; omega
    clear hl
    generalize hashN (stepN s) = r at *
    generalize stepN s = m at *
    have HW := Lib.hid (show wrap64 ((r : Int) % n) = z by rw [← HV.out]; exact wrap64_in (by omega) (by omega))
    clear hi HV
    go_enter Try.func20, Try.ntmps20
    go_wp2_with fail
    refine (C1.out _ H.out).mono ?_; rintro e2 w1 ⟨rfl, h1, hf1⟩
    go_wp2
    go_ret
    exact ⟨ret_int HW.out, h1, hf1⟩

theorem count_any (g s k : Nat) (w : World) (h : Src w g s k) :
    Calls Try.prog 21 #[.pointer (some ⟨g, 0, none⟩)] w fun e w' => e = .returned (.int .i64 (k : Int)) ∧ w = w' := by
  have c1 : w.cell? ⟨g, 1, none⟩ = some (.int .i64 (k : Int)) := h.cell 1
  clear h
  go_enter Try.func21, Try.ntmps21
  go_wp2
  go_ret
  exact ⟨rfl, rfl⟩

end Go.Proofs.Ytholaofgdahcbaa
