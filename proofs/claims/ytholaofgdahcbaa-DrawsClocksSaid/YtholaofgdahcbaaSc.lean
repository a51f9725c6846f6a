/- Between, both. -/
import Derived.Test.YtholaofgdahcbaaSb
namespace Go.Proofs.Ytholaofgdahcbaa
open Go.RowKit

def nearB (n : Int) : Bool := decide (-1099511627776 ≤ n ∧ n ≤ 1099511627776)
theorem nearB_yes {n : Int} (h : nearB n = true) : -1099511627776 ≤ n ∧ n ≤ 1099511627776 := by simpa [nearB] using h
theorem nearB_no {n : Int} (h : nearB n = false) : n < -1099511627776 ∨ 1099511627776 < n := by simp [nearB] at h; omega
theorem nearB_mk {n : Int} (h : -1099511627776 ≤ n ∧ n ≤ 1099511627776) : nearB n = true := by simpa [nearB] using h

theorem isNear_any (n : Int) (w : World) :
    Calls Try.prog 26 #[.int .i64 n] w fun e w' => e = .returned (.bool (nearB n)) ∧ w = w' := by
  cases hr : nearB n with
  | true =>
    obtain ⟨h1, h2⟩ := nearB_yes hr
    clear hr
    go_enter Try.func26, Try.ntmps26
    go_wp2
    go_ret
    exact ⟨rfl, rfl⟩
  | false =>
    rcases nearB_no hr with h1 | h1
    · clear hr
      go_enter Try.func26, Try.ntmps26
      go_wp2
      go_ret
      exact ⟨rfl, rfl⟩
    · have h0 : -1099511627776 ≤ n := by omega
      have h2 : decide (n ≤ 1099511627776) = false := by simp; omega
      clear hr
      go_enter Try.func26, Try.ntmps26
      go_wp2
      go_ret
      exact ⟨rfl, rfl⟩
/-- May a number between the two be drawn? -/
def betB (lo hi : Int) : Bool := nearB lo && nearB hi && decide (lo ≤ hi) && decide (hi - lo < 1099511627776)
def betV (s : Nat) (lo hi : Int) : Int := if betB lo hi then lo + belowV s (hi - lo + 1) else lo
def betS (s : Nat) (lo hi : Int) : Nat := if betB lo hi then stepN s else s
def betK (k : Nat) (lo hi : Int) : Nat := if betB lo hi then k + 1 else k
theorem betB_yes {lo hi : Int} (h : betB lo hi = true) : nearB lo = true ∧ nearB hi = true ∧ lo ≤ hi ∧ hi - lo < 1099511627776 := by
  simpa [betB, and_assoc] using h
theorem betB_no {lo hi : Int} (h : betB lo hi = false) : nearB lo = false ∨ (nearB lo = true ∧ nearB hi = false) ∨ (nearB lo = true ∧ nearB hi = true ∧ (hi < lo ∨ (lo ≤ hi ∧ 1099511627776 ≤ hi - lo))) := by
  unfold betB at h
  cases h1 : nearB lo
  · exact .inl rfl
  · cases h2 : nearB hi
    · exact .inr (.inl ⟨rfl, rfl⟩)
    · simp [h1, h2] at h
      exact .inr (.inr ⟨rfl, rfl, by omega⟩)
theorem bet_no {s : Nat} {lo hi : Int} (h : betB lo hi = false) : betV s lo hi = lo ∧ betS s lo hi = s ∧ ∀ k, betK k lo hi = k := by simp [betV, betS, betK, h]
theorem bet_yes {s : Nat} {lo hi : Int} (h : betB lo hi = true) : betV s lo hi = lo + belowV s (hi - lo + 1) ∧ betS s lo hi = belowS s (hi - lo + 1) ∧ ∀ k, betK k lo hi = belowK k (hi - lo + 1) := by
  have := betB_yes h
  obtain ⟨_, e2, e3⟩ := below_yes (s := s) (n := hi - lo + 1) (by omega)
  refine ⟨by simp [betV, h], by rw [e2]; simp [betS, h], fun k => by rw [e3]; simp [betK, h]⟩
theorem betK_le (k : Nat) (lo hi : Int) : betK k lo hi ≤ k + 1 := by unfold betK; split <;> omega
theorem betV_in (s : Nat) {lo hi : Int} (h : lo ≤ hi) : lo ≤ betV s lo hi ∧ betV s lo hi ≤ hi := by
  cases hb : betB lo hi
  · rw [(bet_no hb).1]; omega
  · rw [(bet_yes hb).1]
    have := belowV_in (s := s) (n := hi - lo + 1) (by omega)
    omega
theorem betV_no (s : Nat) {lo hi : Int} (h : hi < lo) : betV s lo hi = lo := (bet_no (by simp [betB]; omega)).1

theorem shr_no {a : Int} (h : a < 0 ∨ 1099511627776 ≤ a) : (a / 1099511627776 == 0) = false ∧ (a / 1099511627776 != 0) = true := by
  have h1 : a / 1099511627776 ≠ 0 := by omega
  simp [h1]
theorem shr_yes {a : Int} (h : 0 ≤ a) (h2 : a < 1099511627776) : (a / 1099511627776 == 0) = true ∧ (a / 1099511627776 != 0) = false := by
  have h1 : a / 1099511627776 = 0 := by omega
  simp [h1]

set_option maxHeartbeats 1000000 in
theorem between_any (g s k : Nat) (lo hi : Int) (w : World) (h : Src w g s k) (hk : (k : Int) ≤ 4611686018427387904) :
    Calls Try.prog 22 #[.pointer (some ⟨g, 0, none⟩), .int .i64 lo, .int .i64 hi] w fun e w' => e = .returned (.int .i64 (betV s lo hi)) ∧ Src w' g (betS s lo hi) (betK k lo hi) ∧ Fr (fun k => k = g) w w' := by
  have C1 := Lib.hid (fun w => isNear_any lo w)
  have C2 := Lib.hid (fun w => isNear_any hi w)
  cases hb : betB lo hi with
  | false =>
    obtain ⟨e1, e2, e3⟩ := bet_no (s := s) hb
    rw [e1, e2, e3]
    clear e1 e2 e3
    have H := Lib.hid h
    clear h hk
    rcases betB_no hb with h1 | ⟨h1, h2⟩ | ⟨h1, h2, h3⟩
    · clear hb
      rw [h1] at C1
      clear h1
      go_enter Try.func22, Try.ntmps22
      go_wp2_with fail
      refine (C1.out _).mono ?_; rintro e2 w1 ⟨rfl, rfl⟩
      go_wp2
      go_ret
      exact ⟨rfl, H.out, Fr.refl _ _⟩
    · clear hb
      rw [h1] at C1
      rw [h2] at C2
      clear h1 h2
      go_enter Try.func22, Try.ntmps22
      go_wp2_with fail
      refine (C1.out _).mono ?_; rintro e2 w1 ⟨rfl, rfl⟩
      go_wp2_with fail
      refine (C2.out _).mono ?_; rintro e2 w1 ⟨rfl, rfl⟩
      go_wp2
      go_ret
      exact ⟨rfl, H.out, Fr.refl _ _⟩
    · clear hb
      obtain ⟨b1, b2⟩ := nearB_yes h1
      obtain ⟨b3, b4⟩ := nearB_yes h2
      rw [h1] at C1
      rw [h2] at C2
      obtain ⟨d1, d2⟩ := shr_no (a := hi - lo) (by omega)
      clear h1 h2 h3
      go_enter Try.func22, Try.ntmps22
      go_wp2_with fail
      refine (C1.out _).mono ?_; rintro e2 w1 ⟨rfl, rfl⟩
      go_wp2_with fail
      refine (C2.out _).mono ?_; rintro e2 w1 ⟨rfl, rfl⟩
      go_wp2
      go_ret
      exact ⟨rfl, H.out, Fr.refl _ _⟩
  | true =>
    obtain ⟨e1, e2, e3⟩ := bet_yes (s := s) hb
    rw [e1, e2, e3]
    clear e1 e2 e3
    obtain ⟨h1, h2, h3, h4⟩ := betB_yes hb
    obtain ⟨b1, b2⟩ := nearB_yes h1
    obtain ⟨b3, b4⟩ := nearB_yes h2
    rw [h1] at C1
    rw [h2] at C2
    clear hb h1 h2
    obtain ⟨d1, d2⟩ := shr_yes (a := hi - lo) (by omega) h4
    have C3 := Lib.hid (fun w h => below_any g s k (hi - lo + 1) w h hk (by omega))
    obtain ⟨v1, v2⟩ := belowV_in (s := s) (n := hi - lo + 1) (by omega)
    generalize belowV s (hi - lo + 1) = z at *
    generalize belowS s (hi - lo + 1) = s' at *
    generalize belowK k (hi - lo + 1) = k' at *
    have H := Lib.hid h
    clear h hk
    go_enter Try.func22, Try.ntmps22
    go_wp2_with fail
    refine (C1.out _).mono ?_; rintro e2 w1 ⟨rfl, rfl⟩
    go_wp2_with fail
    refine (C2.out _).mono ?_; rintro e2 w1 ⟨rfl, rfl⟩
    go_wp2_with fail
    refine (C3.out _ H.out).mono ?_; rintro e2 w1 ⟨rfl, hs, hf⟩
    go_wp2
    go_ret
    exact ⟨rfl, hs, hf⟩

end Go.Proofs.Ytholaofgdahcbaa
