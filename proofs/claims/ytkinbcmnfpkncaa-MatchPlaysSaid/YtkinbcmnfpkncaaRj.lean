/- match: IndexFunc, DeleteFunc over a row, by the numbers that are out. -/
import Derived.Test.YtkinbcmnfpkncaaRk
namespace Go.Proofs.Ytkinbcmnfpkncaa
open Go.RowKit Go.Maps

abbrev tP : TypeId := 61
/-- Whether a task's number is out. -/
def isO (out : List Int) (p : Nat × Int) : Bool := out.contains (p.1 : Int)
/-- The function value that asks so. -/
def DelF (bo : Nat) : Value := .func (.func 33) #[] #[.pointer (some ⟨bo, 0, none⟩)]
/-- What it reads. -/
structure Ask (w : World) (bo : Nat) (ov : Value) (out : List Int) : Prop where
  box : w.cell? ⟨bo, 0, none⟩ = some ov
  row : RI w ov out
  rise : Rise out
  len : out.length ≤ 1048576
theorem Ask.fr {S : Nat → Prop} {w w' : World} {bo : Nat} {ov : Value} {out : List Int} (h : Ask w bo ov out) (hf : Fr S w w') (hb : ¬ S bo) (ho : ∀ k, ov.ownBlock = some k → ¬ S k) : Ask w' bo ov out :=
  ⟨(hf.cell (p := ⟨bo, 0, none⟩) (World.block_lt_of_cell? w _ h.box) hb).trans h.box, Row.fr h.row hf ho, h.rise, h.len⟩
theorem Ask.call {w : World} {bo : Nat} {ov : Value} {out : List Int} (h : Ask w bo ov out) (p : Nat × Int) :
    Calls Try.prog 33 #[.agg #[.int .i64 p.1, .int .i64 p.2], .pointer (some ⟨bo, 0, none⟩)] w fun e w' => e = .returned (.bool (isO out p)) ∧ Fr (fun _ => False) w w' := isOut_I h.box h.row h.rise h.len p

/-- The two cells of the k-th task. -/
theorem Row.task {w : World} {b off n c : Nat} {q : List (Nat × Int)} (h : Row w tP 2 (.slice (some ⟨b, off, none⟩) n c) n (pcs IV q)) {k : Nat} (hk : k < q.length) {p : Nat × Int} (hp : q[k]'hk = p) : w.cell? ⟨b, off + k * 2, none⟩ = some (.int .i64 p.1) ∧ w.cell? ⟨b, off + k * 2 + 1, none⟩ = some (.int .i64 p.2) ∧ w.frozen? ⟨b, off + k * 2, none⟩ = false ∧ w.frozen? ⟨b, off + k * 2 + 1, none⟩ = false := by
  subst hp
  have hat := pcs_at IV q k hk
  obtain ⟨cur, hb⟩ := h.bk (g := b) rfl
  exact ⟨h.cell hat.1, by have := h.cell hat.2; rwa [← Nat.add_assoc] at this, hb.frozen _, hb.frozen _⟩
theorem pcs_set (q : List (Nat × Int)) (i : Nat) (p : Nat × Int) (hi : i < q.length) : pcs IV (q.set i p) = ((pcs IV q).set (i * 2) (.int .i64 p.1)).set (i * 2 + 1) (.int .i64 p.2) := by
  induction q generalizing i with
  | nil => simp at hi
  | cons a r ih =>
    cases i with
    | zero => simp [pcs_cons, IV]
    | succ i =>
      rw [List.set_cons_succ, pcs_cons, ih i (by simpa using hi), pcs_cons, show (i + 1) * 2 = i * 2 + 1 + 1 by omega]
      simp
theorem pcs_take (q : List (Nat × Int)) (i : Nat) : pcs IV (q.take i) = (pcs IV q).take (i * 2) := by
  induction q generalizing i with
  | nil => simp [pcs]
  | cons a r ih =>
    cases i with
    | zero => simp [pcs]
    | succ i =>
      rw [List.take_succ_cons, pcs_cons, pcs_cons, ih, show (i + 1) * 2 = i * 2 + 1 + 1 by omega]
      simp
/-- A task is laid over another. -/
theorem Row.lays {w : World} {b off n c : Nat} {q : List (Nat × Int)} (h : Row w tP 2 (.slice (some ⟨b, off, none⟩) n c) n (pcs IV q)) {i : Nat} (hi : i < q.length) (p : Nat × Int) : Row ((w.setCell ⟨b, off + i * 2, none⟩ (.int .i64 p.1)).setCell ⟨b, off + i * 2 + 1, none⟩ (.int .i64 p.2)) tP 2 (.slice (some ⟨b, off, none⟩) n c) n (pcs IV (q.set i p)) := by
  have hl := h.1
  rcases h.2 with ⟨e, _⟩ | ⟨b', off', cap, cur, e, hb, h1, h2, h3, h4⟩
  · cases e
  injection e with e1 e2 e3
  injection e1 with e1
  injection e1 with e1 e4
  subst e1 e4 e3
  rw [pcs_len] at hl
  refine ⟨by rw [pcs_len, List.length_set]; exact hl, .inr ⟨b, off, c, _, rfl, (hb.set _ _).set _ _, h1, h2, by simp; exact h3, fun j hj => ?_⟩⟩
  rw [pcs_len, List.length_set] at hj
  rw [pcs_set q i p hi]
  by_cases h5 : j = i * 2 + 1
  · subst h5
    rw [show off + i * 2 + 1 = off + (i * 2 + 1) by omega, Array.getElem?_setIfInBounds_self_of_lt (by simp; omega), List.getElem?_set_self (by simp [pcs_len]; omega)]
  · rw [Array.getElem?_setIfInBounds_ne (by omega), List.getElem?_set_ne (by omega)]
    by_cases h6 : j = i * 2
    · subst h6
      rw [Array.getElem?_setIfInBounds_self_of_lt (by omega), List.getElem?_set_self (by simp [pcs_len]; omega)]
    · rw [Array.getElem?_setIfInBounds_ne (by omega), List.getElem?_set_ne (by omega)]
      exact h4 j (by rw [pcs_len]; omega)

set_option maxRecDepth 100000 in
set_option maxHeartbeats 2000000 in
/-- The first one that is out; or none is. -/
theorem index_I {w : World} {bo : Nat} {ov : Value} {out : List Int} (ha : Ask w bo ov out) {A : Option Addr} {n c : Nat} {r : List (Nat × Int)} (hrow : Row w tP 2 (.slice A n c) n (pcs IV r)) (hl : r.length = n) (hn : n ≤ 1048576) :
    Calls Try.prog 44 #[.slice A n c, DelF bo] w fun e w' => Fr (fun _ => False) w w' ∧
      ((e = .returned (.int .i64 (-1)) ∧ ∀ p ∈ r, isO out p = false) ∨ ∃ k, ∃ h : k < r.length, e = .returned (.int .i64 (k : Int)) ∧ isO out r[k] = true ∧ ∀ j (hj : j < r.length), j < k → isO out r[j] = false) := by
  obtain ⟨A', c', e, -, -, hA⟩ := hrow.form
  injection e with e1 e2 e3
  subst e1 e3
  have HA := Lib.hid hA
  have H := Lib.hid ha
  have HROW := Lib.hid hrow
  have HL := Lib.hid hl
  have HN := Lib.hid hn
  clear ha hrow hl hn hA e2
  unfold DelF
  go_enter Try.func44, Try.ntmps44
  go_wp2_with fail
  go_loopw [8] (fun v wr => ∃ k : Nat, v = .int .i64 (k : Int) ∧ k ≤ n ∧ Hid (∀ j (h : j < r.length), j < k → isO out r[j] = false) ∧ Hid (Fr (fun _ => False) w wr)) (fun v _ => n - (intOf v).toNat)
  case atStart => exact ⟨0, rfl, Nat.zero_le _, Lib.hid (fun j _ h => by omega), Lib.hid (Fr.refl _ _)⟩
  case round =>
    obtain ⟨k, rfl, hk, HB, HF⟩ := hrel
    by_cases hlt : k < n
    · have di : decide ((k : Int) < (n : Int)) = true := decide_eq_true (by omega)
      have di' : decide (k < n) = true := decide_eq_true hlt
      have k0 : (0 : Int) ≤ (k : Int) := by omega
      have k1 : (k : Int) < (n : Int) := by omega
      obtain ⟨b, off, rfl⟩ := HA.out (by omega)
      have hkr : k < r.length := by rw [HL.out]; exact hlt
      have HKR := Lib.hid hkr
      obtain ⟨p, hp⟩ : ∃ p, r[k] = p := ⟨_, rfl⟩
      obtain ⟨q0, q1, -, -⟩ := (HROW.out.fr0 HF.out).task hkr hp
      have HP := Lib.hid hp
      have CA := Lib.hid ((H.out.fr HF.out (fun h => h) (fun _ _ h => h)).call p)
      obtain ⟨x, hx⟩ : ∃ x : Int, (p.1 : Int) = x := ⟨_, rfl⟩
      rw [hx] at CA q0
      obtain ⟨y, hy⟩ : ∃ y : Int, p.2 = y := ⟨_, rfl⟩
      rw [hy] at CA q1
      have hwk := wrap_succ (k := k) (by have := HN.out; omega)
      clear hlt hk hkr hp hx hy
      cases hd : isO out p
      · rw [hd] at CA
        have HB2 : Hid (∀ j (h : j < r.length), j < k + 1 → isO out r[j] = false) := Lib.hid (fun j h hj => by
          by_cases hjk : j = k
          · subst hjk; exact (congrArg (isO out) HP.out).trans hd
          · exact HB.out j h (by omega))
        clear hd HB
        go_wp2_with fail
        refine CA.out.mono ?_; rintro e w1 ⟨rfl, hf⟩
        have HF1 := Lib.hid (HF.out.trans hf (fun _ _ h => h))
        clear hf CA q0 q1 di di'
        go_wp2
        go_roundw
        case rel => exact ⟨k + 1, by first | rfl | (push_cast; rfl) | (go_num; done), by have := HKR.out; have := HL.out; omega, HB2, HF1⟩
        case measure =>
          show n - ((k : Int) + 1).toNat < n - ((k : Int)).toNat
          exact meas_up (by have := HKR.out; have := HL.out; omega)
      · rw [hd] at CA
        have HD : Hid (isO out r[k] = true) := Lib.hid ((congrArg (isO out) HP.out).trans hd)
        clear hd
        go_wp2_with fail
        refine CA.out.mono ?_; rintro e w1 ⟨rfl, hf⟩
        have HF1 := Lib.hid (HF.out.trans hf (fun _ _ h => h))
        clear hf CA q0 q1 di di'
        go_wp2
        go_ret
        exact ⟨HF1.out, .inr ⟨k, HKR.out, rfl, HD.out, HB.out⟩⟩
    · have di : decide ((k : Int) < (n : Int)) = false := decide_eq_false (by omega)
      have di' : decide (k < n) = false := decide_eq_false hlt
      obtain rfl : k = n := by omega
      clear hlt hk
      go_wp2
      go_ret
      exact ⟨HF.out, .inl ⟨rfl, fun p hp => by
        obtain ⟨j, hj, rfl⟩ := List.mem_iff_getElem.1 hp
        exact HB.out j hj (by have := HL.out; omega)⟩⟩
end Go.Proofs.Ytkinbcmnfpkncaa
