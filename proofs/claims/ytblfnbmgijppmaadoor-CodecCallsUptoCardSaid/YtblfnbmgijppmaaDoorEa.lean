/- The reference's reader: a fault stays; a number. -/
import Derived.Test.YtblfnbmgijppmaaDoorCp
namespace Go.Proofs.YtblfnbmgijppmaaDoor
open Go.RowKit

/-- The reference's reader at block g. -/
structure RR (w : World) (g : Nat) (A : Option Addr) (n c : Nat) (xs : List UInt8) (at_ er fat : Int) (what : ByteArray) : Prop where
  bk : Bk w g 67 #[.slice A n c, .int .i64 at_, .int .i64 er, .int .i64 fat, .string what]
  rd : Rd8 w A xs
  len : xs.length = n
  cap : n ≤ c
  big : (n : Int) ≤ 140737488355328
  apart : ∀ ad, A = some ad → 0 < n → ad.block ≠ g
section
variable {w w' : World} {g : Nat} {A : Option Addr} {n c : Nat} {xs : List UInt8} {at_ er fat : Int} {what : ByteArray}
theorem RR.fr {S : Nat → Prop} (h : RR w g A n c xs at_ er fat what) (hf : Fr S w w') (hg : ¬ S g) (hA : ∀ ad, A = some ad → 0 < n → ¬ S ad.block) : RR w' g A n c xs at_ er fat what :=
  { h with bk := h.bk.fr hf hg, rd := h.rd.fr hf (by rw [h.len]; exact hA) }
theorem RR.quiet (h : RR w g A n c xs at_ er fat what) (hf : Fr (fun _ => False) w w') : RR w' g A n c xs at_ er fat what := h.fr hf (fun h => h) (fun _ _ _ h => h)
theorem RR.set (h : RR w g A n c xs at_ er fat what) (x : Int) : RR (w.setCell ⟨g, 1, none⟩ (.int .i64 x)) g A n c xs x er fat what :=
  { h with bk := by simpa using h.bk.set 1 (.int .i64 x), rd := h.rd.fr (Fr.setCell (S := fun k => k = g) (p := ⟨g, 1, none⟩) (Fr.refl _ _) (fun _ => rfl) _) (fun ad ha h0 => h.apart ad ha (h.len ▸ h0)) }
theorem RR.fault (h : RR w g A n c xs at_ er fat what) (e a : Int) (wh : ByteArray) :
    RR (((w.setCell ⟨g, 2, none⟩ (.int .i64 e)).setCell ⟨g, 3, none⟩ (.int .i64 a)).setCell ⟨g, 4, none⟩ (.string wh)) g A n c xs at_ e a wh :=
  { h with
    bk := by simpa using ((h.bk.set 2 (.int .i64 e)).set 3 (.int .i64 a)).set 4 (.string wh)
    rd := h.rd.fr (((fr_set (g := g) (i := 2) (v := .int .i64 e)).trans (fr_set (i := 3) (v := .int .i64 a)) (fun _ _ h => h)).trans (fr_set (i := 4) (v := .string wh)) (fun _ _ h => h)) (fun ad ha h0 => h.apart ad ha (h.len ▸ h0)) }
end
def RRAt (w : World) (g : Nat) (A : Option Addr) (n c : Nat) (xs : List UInt8) : St → Prop
  | .at_ k => k ≤ n ∧ ∃ fat what, RR w g A n c xs k 0 fat what
  | .bad er a wh => er ≠ 0 ∧ ∃ p, RR w g A n c xs p er a wh
theorem RRAt.quiet {w w' : World} {g : Nat} {A : Option Addr} {n c : Nat} {xs : List UInt8} {s : St} (h : RRAt w g A n c xs s) (hf : Fr (fun _ => False) w w') : RRAt w' g A n c xs s := by
  cases s with
  | at_ k => exact ⟨h.1, h.2.imp fun _ h => h.imp fun _ h => h.quiet hf⟩
  | bad er a wh => exact ⟨h.1, h.2.imp fun _ h => h.quiet hf⟩

set_option maxRecDepth 100000 in
set_option maxHeartbeats 1000000 in
theorem rfail_any {w : World} {g : Nat} {A : Option Addr} {n c : Nat} {xs : List UInt8} {at_ fat : Int} {what : ByteArray} (h : RR w g A n c xs at_ 0 fat what) (e a : Int) (wh : ByteArray) :
    Calls Tryd.prog 48 #[.pointer (some ⟨g, 0, none⟩), .int .i64 e, .int .i64 a, .string wh] w fun x w' => x = .returned (.tuple #[]) ∧ RR w' g A n c xs at_ e a wh ∧ Fr (fun x => x = g) w w' := by
  have c2 : w.cell? ⟨g, 2, none⟩ = some (.int .i64 0) := h.bk.cell 2
  have f2 : w.frozen? ⟨g, 2, none⟩ = false := h.bk.frozen 2
  have f3 : w.frozen? ⟨g, 3, none⟩ = false := h.bk.frozen 3
  have f4 : w.frozen? ⟨g, 4, none⟩ = false := h.bk.frozen 4
  have c3 : w.cell? ⟨g, 3, none⟩ = some (.int .i64 fat) := h.bk.cell 3
  have c4 : w.cell? ⟨g, 4, none⟩ = some (.string what) := h.bk.cell 4
  go_enter Tryd.func48, Tryd.ntmps48
  go_wp2
  exact bodyPost_end (results_none rfl _ _ _) rfl ⟨rfl, h.fault e a wh, ((fr_set (g := g) (i := 2) (v := .int .i64 e)).trans (fr_set (i := 3) (v := .int .i64 a)) (fun _ _ h => h)).trans (fr_set (i := 4) (v := .string wh)) (fun _ _ h => h)⟩

/-- A number's value, seven bits a byte. -/
def val : List UInt8 → Nat
  | [] => 0
  | c :: l => c.toNat % 128 + 128 * val l

theorem num_lead : ∀ (k f i acc : Nat) (l : List UInt8), k ≤ f → (∀ j (h : j < k), ∃ h' : j < l.length, 128 ≤ (l[j]'h').toNat) →
    num f i acc l = num (f - k) (i + k) (acc + val (l.take k) * 128 ^ i) (l.drop k)
  | 0, f, i, acc, l, _, _ => by simp [val]
  | k + 1, f, i, acc, l, hk, hl => by
    obtain ⟨f, rfl⟩ : ∃ f', f = f' + 1 := ⟨f - 1, by omega⟩
    obtain ⟨h0, h1⟩ := hl 0 (by omega)
    match l, h0 with
    | c :: l, _ =>
      simp only [List.getElem_cons_zero] at h1
      rw [num, if_pos h1, num_lead k f (i + 1) _ l (by omega) (fun j h => by
        obtain ⟨h2, h3⟩ := hl (j + 1) (by omega)
        exact ⟨by simpa using h2, by simpa using h3⟩)]
      simp only [List.take_succ_cons, List.drop_succ_cons, val]
      congr 1
      · omega
      · omega
      · rw [Nat.pow_succ, Nat.add_mul, Nat.mul_comm (128 ^ i) 128, ← Nat.mul_assoc, Nat.mul_comm (val (l.take k)) 128, Nat.add_assoc]
theorem val_lt (l : List UInt8) : val l < 128 ^ l.length := by
  induction l with
  | nil => simp [val]
  | cons c l ih =>
    rw [val, List.length_cons, Nat.pow_succ]
    omega

theorem val_snoc (l : List UInt8) (c : UInt8) : val (l ++ [c]) = val l + c.toNat % 128 * 128 ^ l.length := by
  induction l with
  | nil => simp [val]
  | cons d l ih =>
    rw [List.cons_append, val, val, ih, List.length_cons, Nat.pow_succ, Nat.mul_add, Nat.mul_comm (128 ^ l.length) 128, ← Nat.mul_assoc, ← Nat.mul_assoc, Nat.mul_comm 128 (c.toNat % 128)]
    omega

/-- Ten bytes that go on; or all that is left goes on; or a byte that ends. -/
theorem rd_ten (l : List UInt8) (h : ∀ j (_ : j < 10), ∃ h' : j < l.length, 128 ≤ (l[j]'h').toNat) : rdNum l = .bad 8 := by
  unfold rdNum
  rw [num_lead 10 10 0 0 l (Nat.le_refl _) h]
  rfl
theorem rd_short (l : List UInt8) (k : Nat) (hk : k < 10) (hl : l.length = k) (h : ∀ j (_ : j < k), ∃ h' : j < l.length, 128 ≤ (l[j]'h').toNat) : rdNum l = .bad 7 := by
  unfold rdNum
  rw [num_lead k 10 0 0 l (by omega) h, List.drop_of_length_le (by omega)]
  obtain ⟨f, hf⟩ : ∃ f', 10 - k = f' + 1 := ⟨9 - k, by omega⟩
  rw [hf]
  rfl
theorem rd_last (l : List UInt8) (k : Nat) (hk : k < 10) (hl : k < l.length) (h : ∀ j (_ : j < k), ∃ h' : j < l.length, 128 ≤ (l[j]'h').toNat) (hlast : (l[k]'hl).toNat < 128) :
    rdNum l = if (0 < k ∧ (l[k]'hl).toNat = 0) ∨ (k = 9 ∧ 1 < (l[k]'hl).toNat) then .bad 8 else .ok (val (l.take (k + 1))) (k + 1) := by
  unfold rdNum
  rw [num_lead k 10 0 0 l (by omega) h]
  obtain ⟨f, hf⟩ : ∃ f', 10 - k = f' + 1 := ⟨9 - k, by omega⟩
  rw [hf, List.drop_eq_getElem_cons hl, num, if_neg (by omega), Nat.zero_add]
  split
  · rfl
  · congr 1
    rw [List.take_succ_eq_append_getElem hl, val_snoc, List.length_take, Nat.min_eq_left (by omega), Nat.mod_eq_of_lt hlast]
    omega
end Go.Proofs.YtblfnbmgijppmaaDoor
