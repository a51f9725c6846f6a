import Derived.Test.YtieoeoonopcjbaaGreatDoorKs06
import Derived.IntWalk
import Derived.Lib.LaidTab
import Derived.Sort.Grow
import Derived.Lib.QuietBelow
import Derived.BigQuiet

/- The reference's reader: a fault stays; a number. -/
namespace Go.Proofs.YtieoeoonopcjbaaGreatDoor
open Go.RowKit

/-- The reference's reader at block g. -/
structure RR (w : World) (g : Nat) (A : Option Addr) (n c : Nat) (xs : List UInt8) (at_ er fat : Int) (what : ByteArray) : Prop where
  bk : Bk w g 84 #[.slice A n c, .int .i64 at_, .int .i64 er, .int .i64 fat, .string what]
  rd : Rd8 w A xs
  len : xs.length = n
  cap : n ≤ c
  big : (n : Int) ≤ 140737488355328
  apart : ∀ ad, A = some ad → 0 < n → ad.block ≠ g
section
variable {w w' : World} {g : Nat} {A : Option Addr} {n c : Nat} {xs : List UInt8} {at_ er fat : Int} {what : ByteArray}
theorem RR.fr {S : Nat → Prop} (h : RR w g A n c xs at_ er fat what) (hf : Fr S w w') (hg : ¬ S g) (hA : ∀ ad, A = some ad → 0 < n → ¬ S ad.block) : RR w' g A n c xs at_ er fat what :=
  { h with bk := h.bk.fr hf hg, rd := h.rd.fr hf (by rw [h.len]; exact hA) }
theorem RR.quiet (h : RR w g A n c xs at_ er fat what) (hf : Fr (fun _ => False) w w') : RR w' g A n c xs at_ er fat what := h.fr hf (fun h => h) (fun _ _ _ h => h)
theorem RR.set (h : RR w g A n c xs at_ er fat what) (x : Int) : RR (w.setCell ⟨g, 1, none⟩ (.int .i64 x)) g A n c xs x er fat what :=
  { h with bk := by simpa using h.bk.set 1 (.int .i64 x), rd := h.rd.fr (Fr.setCell (S := fun k => k = g) (p := ⟨g, 1, none⟩) (Fr.refl _ _) (fun _ => rfl) _) (fun ad ha h0 => h.apart ad ha (h.len ▸ h0)) }
theorem RR.fault (h : RR w g A n c xs at_ er fat what) (e a : Int) (wh : ByteArray) :
    RR (((w.setCell ⟨g, 2, none⟩ (.int .i64 e)).setCell ⟨g, 3, none⟩ (.int .i64 a)).setCell ⟨g, 4, none⟩ (.string wh)) g A n c xs at_ e a wh :=
  { h with
    bk := by simpa using ((h.bk.set 2 (.int .i64 e)).set 3 (.int .i64 a)).set 4 (.string wh)
    rd := h.rd.fr (((fr_set (g := g) (i := 2) (v := .int .i64 e)).trans (fr_set (i := 3) (v := .int .i64 a)) (fun _ _ h => h)).trans (fr_set (i := 4) (v := .string wh)) (fun _ _ h => h)) (fun ad ha h0 => h.apart ad ha (h.len ▸ h0)) }
end
def RRAt (w : World) (g : Nat) (A : Option Addr) (n c : Nat) (xs : List UInt8) : St → Prop
  | .at_ k => k ≤ n ∧ ∃ fat what, RR w g A n c xs k 0 fat what
  | .bad er a wh => er ≠ 0 ∧ ∃ p, RR w g A n c xs p er a wh
theorem RRAt.quiet {w w' : World} {g : Nat} {A : Option Addr} {n c : Nat} {xs : List UInt8} {s : St} (h : RRAt w g A n c xs s) (hf : Fr (fun _ => False) w w') : RRAt w' g A n c xs s := by
  cases s with
  | at_ k => exact ⟨h.1, h.2.imp fun _ h => h.imp fun _ h => h.quiet hf⟩
  | bad er a wh => exact ⟨h.1, h.2.imp fun _ h => h.quiet hf⟩

set_option maxRecDepth 100000 in
set_option maxHeartbeats 1000000 in
theorem rfail_any {w : World} {g : Nat} {A : Option Addr} {n c : Nat} {xs : List UInt8} {at_ fat : Int} {what : ByteArray} (h : RR w g A n c xs at_ 0 fat what) (e a : Int) (wh : ByteArray) :
    Calls Tryz.prog 113 #[.pointer (some ⟨g, 0, none⟩), .int .i64 e, .int .i64 a, .string wh] w fun x w' => x = .returned (.tuple #[]) ∧ RR w' g A n c xs at_ e a wh ∧ Fr (fun x => x = g) w w' := by
  have c2 : w.cell? ⟨g, 2, none⟩ = some (.int .i64 0) := h.bk.cell 2
  have f2 : w.frozen? ⟨g, 2, none⟩ = false := h.bk.frozen 2
  have f3 : w.frozen? ⟨g, 3, none⟩ = false := h.bk.frozen 3
  have f4 : w.frozen? ⟨g, 4, none⟩ = false := h.bk.frozen 4
  have c3 : w.cell? ⟨g, 3, none⟩ = some (.int .i64 fat) := h.bk.cell 3
  have c4 : w.cell? ⟨g, 4, none⟩ = some (.string what) := h.bk.cell 4
  go_enter Tryz.func113, Tryz.ntmps113
  go_wp2
  exact bodyPost_end (results_none rfl _ _ _) rfl ⟨rfl, h.fault e a wh, ((fr_set (g := g) (i := 2) (v := .int .i64 e)).trans (fr_set (i := 3) (v := .int .i64 a)) (fun _ _ h => h)).trans (fr_set (i := 4) (v := .string wh)) (fun _ _ h => h)⟩

/-- A number's value, seven bits a byte. -/
def val : List UInt8 → Nat
  | [] => 0
  | c :: l => c.toNat % 128 + 128 * val l

theorem num_lead : ∀ (k f i acc : Nat) (l : List UInt8), k ≤ f → (∀ j (h : j < k), ∃ h' : j < l.length, 128 ≤ (l[j]'h').toNat) →
    num f i acc l = num (f - k) (i + k) (acc + val (l.take k) * 128 ^ i) (l.drop k)
  | 0, f, i, acc, l, _, _ => by simp [val]
  | k + 1, f, i, acc, l, hk, hl => by
    obtain ⟨f, rfl⟩ : ∃ f', f = f' + 1 := ⟨f - 1, by omega⟩
    obtain ⟨h0, h1⟩ := hl 0 (by omega)
    match l, h0 with
    | c :: l, _ =>
      simp only [List.getElem_cons_zero] at h1
      rw [num, if_pos h1, num_lead k f (i + 1) _ l (by omega) (fun j h => by
        obtain ⟨h2, h3⟩ := hl (j + 1) (by omega)
        exact ⟨by simpa using h2, by simpa using h3⟩)]
      simp only [List.take_succ_cons, List.drop_succ_cons, val]
      congr 1
      · omega
      · omega
      · rw [Nat.pow_succ, Nat.add_mul, Nat.mul_comm (128 ^ i) 128, ← Nat.mul_assoc, Nat.mul_comm (val (l.take k)) 128, Nat.add_assoc]
theorem val_lt (l : List UInt8) : val l < 128 ^ l.length := by
  induction l with
  | nil => simp [val]
  | cons c l ih =>
    rw [val, List.length_cons, Nat.pow_succ]
    omega

theorem val_snoc (l : List UInt8) (c : UInt8) : val (l ++ [c]) = val l + c.toNat % 128 * 128 ^ l.length := by
  induction l with
  | nil => simp [val]
  | cons d l ih =>
    rw [List.cons_append, val, val, ih, List.length_cons, Nat.pow_succ, Nat.mul_add, Nat.mul_comm (128 ^ l.length) 128, ← Nat.mul_assoc, ← Nat.mul_assoc, Nat.mul_comm 128 (c.toNat % 128)]
    omega

/-- Ten bytes that go on; or all that is left goes on; or a byte that ends. -/
theorem rd_ten (l : List UInt8) (h : ∀ j (_ : j < 10), ∃ h' : j < l.length, 128 ≤ (l[j]'h').toNat) : rdNum l = .bad 8 := by
  unfold rdNum
  rw [num_lead 10 10 0 0 l (Nat.le_refl _) h]
  rfl
theorem rd_short (l : List UInt8) (k : Nat) (hk : k < 10) (hl : l.length = k) (h : ∀ j (_ : j < k), ∃ h' : j < l.length, 128 ≤ (l[j]'h').toNat) : rdNum l = .bad 7 := by
  unfold rdNum
  rw [num_lead k 10 0 0 l (by omega) h, List.drop_of_length_le (by omega)]
  obtain ⟨f, hf⟩ : ∃ f', 10 - k = f' + 1 := ⟨9 - k, by omega⟩
  rw [hf]
  rfl
theorem rd_last (l : List UInt8) (k : Nat) (hk : k < 10) (hl : k < l.length) (h : ∀ j (_ : j < k), ∃ h' : j < l.length, 128 ≤ (l[j]'h').toNat) (hlast : (l[k]'hl).toNat < 128) :
    rdNum l = if (0 < k ∧ (l[k]'hl).toNat = 0) ∨ (k = 9 ∧ 1 < (l[k]'hl).toNat) then .bad 8 else .ok (val (l.take (k + 1))) (k + 1) := by
  unfold rdNum
  rw [num_lead k 10 0 0 l (by omega) h]
  obtain ⟨f, hf⟩ : ∃ f', 10 - k = f' + 1 := ⟨9 - k, by omega⟩
  rw [hf, List.drop_eq_getElem_cons hl, num, if_neg (by omega), Nat.zero_add]
  split
  · rfl
  · congr 1
    rw [List.take_succ_eq_append_getElem hl, val_snoc, List.length_take, Nat.min_eq_left (by omega), Nat.mod_eq_of_lt hlast]
    omega
end Go.Proofs.YtieoeoonopcjbaaGreatDoor

/- The reference's reader: Int. -/
namespace Go.Proofs.YtieoeoonopcjbaaGreatDoor
open Go.RowKit

set_option maxRecDepth 100000 in
set_option maxHeartbeats 4000000 in
theorem refInt_bad {w : World} {g : Nat} {A : Option Addr} {n c : Nat} {xs : List UInt8} {p er fat : Int} {what : ByteArray} (h : RR w g A n c xs p er fat what) (he : (er == 0) = false) (wh : ByteArray) :
    Calls Tryz.prog 112 #[.pointer (some ⟨g, 0, none⟩), .string wh] w fun e w' => e = .returned (.int .i64 0) ∧ w = w' := by
  have c2 : w.cell? ⟨g, 2, none⟩ = some (.int .i64 er) := h.bk.cell 2
  have he' : (er != 0) = true := by simp [bne, he]
  go_enter Tryz.func112, Tryz.ntmps112
  go_wp2
  go_ret
  exact ⟨rfl, rfl⟩

theorem val_lim (xs : List UInt8) (k j : Nat) (hk : k + j < xs.length) (hx : (xs[k + j]'hk).toNat ≤ 1 ∨ j ≤ 8) (hj : j ≤ 9) (p : Nat) (hp : p ≤ j) : (val ((xs.drop (k + p)).take (j + 1 - p)) : Int) ≤ 18446744073709551615 := by
  rcases hx with hx | hx
  · rw [show j + 1 - p = (j - p) + 1 by omega, List.take_succ_eq_append_getElem (by simp; omega), val_snoc]
    simp only [List.getElem_drop, List.length_take, List.length_drop]
    have h1 := val_lt ((xs.drop (k + p)).take (j - p))
    simp only [List.length_take, List.length_drop] at h1
    rw [Nat.min_eq_left (by omega)] at h1 ⊢
    have h2 : 128 ^ (j - p) ≤ 128 ^ 9 := Nat.pow_le_pow_right (by omega) (by omega)
    have h3 : (xs[k + p + (j - p)]'(by omega)).toNat % 128 * 128 ^ (j - p) ≤ 1 * 128 ^ (j - p) := Nat.mul_le_mul_right _ (by
      have e : k + p + (j - p) = k + j := by omega
      simp only [e]
      omega)
    omega
  · have h1 := val_lt ((xs.drop (k + p)).take (j + 1 - p))
    have h2 : 128 ^ ((xs.drop (k + p)).take (j + 1 - p)).length ≤ 128 ^ 9 := Nat.pow_le_pow_right (by omega) (by simp; omega)
    omega

set_option maxRecDepth 100000 in
set_option maxHeartbeats 4000000 in
theorem refInt_at {w : World} {g : Nat} {A : Option Addr} {n c : Nat} {xs : List UInt8} {k : Nat} {fat : Int} {what : ByteArray} (h : RR w g A n c xs k 0 fat what) (hk : k ≤ n) (wh : ByteArray) :
    Calls Tryz.prog 112 #[.pointer (some ⟨g, 0, none⟩), .string wh] w fun e w' =>
      e = .returned (.int .i64 (stInt xs wh (.at_ k)).1) ∧ RRAt w' g A n c xs (stInt xs wh (.at_ k)).2 ∧ Fr (fun x => x = g) w w' := by
  have c0 : w.cell? ⟨g, 0, none⟩ = some (.slice A n c) := h.bk.cell 0
  have c1 : w.cell? ⟨g, 1, none⟩ = some (.int .i64 k) := h.bk.cell 1
  have c2 : w.cell? ⟨g, 2, none⟩ = some (.int .i64 0) := h.bk.cell 2
  have hbig := h.big
  have hl := h.len
  generalize hS : stInt xs wh (.at_ k) = S
  have HS := Lib.hid hS
  clear hS
  go_enter Tryz.func112, Tryz.ntmps112
  go_wp2
  go_loopw [5] (fun i wr => ∃ j : Nat, (j : Int) ≤ 10 ∧ k + j ≤ n ∧ i = .int .i64 j ∧ RR wr g A n c xs k 0 fat what ∧ Fr (fun _ => False) w wr ∧ ∀ q, q < j → ∃ h' : k + q < xs.length, 128 ≤ (xs[k + q]'h').toNat) (fun i _ => 10 - (intOf i).toNat)
  case atStart => exact ⟨0, by omega, by omega, rfl, h, Fr.refl _ _, fun q h => by omega⟩
  case round =>
    clear h c0 c1 c2
    obtain ⟨j, hj, hkj, rfl, h, hfr, hlead⟩ := hrel
    have c0 : wr.cell? ⟨g, 0, none⟩ = some (.slice A n c) := h.bk.cell 0
    have c1 : wr.cell? ⟨g, 1, none⟩ = some (.int .i64 k) := h.bk.cell 1
    have c2 : wr.cell? ⟨g, 2, none⟩ = some (.int .i64 0) := h.bk.cell 2
    have HLEAD := Lib.hid hlead
    clear hlead
    have i0 : (0 : Int) ≤ (k : Int) + j := by omega
    by_cases h1 : (k : Int) + j < n
    · obtain ⟨ad, rfl, hsp, hc⟩ := h.rd (by omega)
      obtain ⟨b, o, sp⟩ := ad
      cases hsp
      have hcell := hc (k + j) (by omega)
      simp only at hcell
      have hx256 := (xs[k + j]'(by omega)).toNat_lt
      generalize hxv : (xs[k + j]'(by omega)).toNat = x at *
      have HX := Lib.hid hxv
      clear hxv hc
      by_cases h2 : (j : Int) < 10
      · by_cases h3 : (128 : Int) ≤ x
        · go_wp2_with fail
          go_quiet (fail)
          go_wp2
          go_roundw
          case rel =>
            refine ⟨j + 1, by omega, by omega, by go_num, h.quiet ((Fr.refl _ _).drewN _), hfr.drewN _, fun q hq => ?_⟩
            by_cases hqj : q < j
            · exact HLEAD.out q hqj
            · obtain rfl : q = j := by omega
              exact ⟨by omega, by rw [HX.out]; omega⟩
          case measure => simp [intOf]; omega
        · have hjb : ((j : Int) == 10) = false := by rw [beq_eq_false_iff_ne]; omega
          have hnb : ((k : Int) + j == n) = false := by rw [beq_eq_false_iff_ne]; omega
          go_wp2_with fail
          go_quiet (fail)
          go_wp2_with fail
          go_quiet (fail)
          go_wp2_with fail
          have hlast := rd_last (xs.drop k) j (by omega) (by simp; omega) (fun q hq => by obtain ⟨h1, h2⟩ := HLEAD.out q hq; exact ⟨by simp; omega, by simpa using h2⟩) (by simp only [List.getElem_drop]; rw [HX.out]; omega)
          simp only [List.getElem_drop] at hlast
          rw [HX.out] at hlast
          by_cases hbad : (0 < j ∧ x = 0) ∨ (j = 9 ∧ 1 < x)
          · rw [if_pos hbad] at hlast
            have HT := Lib.hid hlast
            clear hlast
            go_quiet (fail)
            rcases hbad with ⟨ha, rfl⟩ | ⟨rfl, hb⟩
            · have ha' : (0 : Int) < j := by omega
              go_wp2_with fail
              refine (rfail_any (h.quiet ((Fr.refl _ _).drewN _)) 8 k wh).mono ?_; rintro e w2 ⟨rfl, hr2, hf2⟩
              go_wp2
              go_ret
              have hSS : stInt xs wh (.at_ k) = (0, .bad 8 k wh) := by unfold stInt; simp only [HT.out]
              rw [← HS.out, hSS]
              exact ⟨rfl, ⟨by decide, _, hr2⟩, ((hfr.drewN _).mono (fun _ _ h => h.elim)).trans hf2 (fun _ _ h => h)⟩
            · have hb' : (1 : Int) < x := by omega
              have hx0 : ((x : Int) == 0) = false := by rw [beq_eq_false_iff_ne]; omega
              go_wp2_with fail
              refine (rfail_any (h.quiet ((Fr.refl _ _).drewN _)) 8 k wh).mono ?_; rintro e w2 ⟨rfl, hr2, hf2⟩
              go_wp2
              go_ret
              have hSS : stInt xs wh (.at_ k) = (0, .bad 8 k wh) := by unfold stInt; simp only [HT.out]
              rw [← HS.out, hSS]
              exact ⟨rfl, ⟨by decide, _, hr2⟩, ((hfr.drewN _).mono (fun _ _ h => h.elim)).trans hf2 (fun _ _ h => h)⟩
          · rw [if_neg hbad] at hlast
            have HT := Lib.hid hlast
            clear hlast
            go_quiet (fail)
            rcases Nat.eq_zero_or_pos j with hj0 | hj0
            · have hz : ¬ (0 : Int) < j := by omega
              have h9 : ((j : Int) == 9) = false := by rw [beq_eq_false_iff_ne]; omega
              go_wp2_with fail
              have HLIM := Lib.hid (val_lim xs k j (by omega) (by rw [HX.out]; omega) (by omega))
              obtain ⟨w0, hw0⟩ : ∃ w0, w0 = wr := ⟨_, rfl⟩
              subst hw0
              go_loopw [7, 8] (fun u i w3 => ∃ m : Nat, (m : Int) ≤ (j : Int) + 1 ∧ i = .int .i64 ((m : Int) - 1) ∧ u = .int .u64 (val ((xs.drop (k + m)).take (j + 1 - m)) : Nat) ∧ Fr (fun _ => False) w0 w3) (fun _ i _ => (intOf i + 1).toNat)
              case atStart => exact ⟨j + 1, by omega, by go_num, by simp [val], (Fr.refl _ _).drewN _⟩
              case round =>
                clear c0 c1 c2 hcell
                obtain ⟨m, hm, rfl, rfl, hf3⟩ := hrel
                have h3' := h.quiet hf3
                have c0 : wr.cell? ⟨g, 0, none⟩ = some (.slice (some ⟨b, o, none⟩) n c) := h3'.bk.cell 0
                have c1 : wr.cell? ⟨g, 1, none⟩ = some (.int .i64 k) := h3'.bk.cell 1
                rcases Nat.eq_zero_or_pos m with hm0 | hm0
                · subst hm0
                  have f1 : wr.frozen? ⟨g, 1, none⟩ = false := h3'.bk.frozen 1
                  simp only [Nat.add_zero, Nat.sub_zero]
                  have hu : (val ((xs.drop k).take (j + 1)) : Int) ≤ 18446744073709551615 := by have := HLIM.out 0 (by omega); simpa using this
                  generalize val ((xs.drop k).take (j + 1)) = u at *
                  have hro := unfN_range u (by omega)
                  have hSS : stInt xs wh (.at_ k) = (unfN u, .at_ (k + (j + 1))) := by unfold stInt; simp only [HT.out]
                  have hpost := (h3'.quiet ((Fr.refl (fun _ => False) wr).drewN 0)).set ((k : Int) + j + 1)
                  have hF9 : Fr (fun x => x = g) w (wr.setCell ⟨g, 1, none⟩ (.int .i64 ((k : Int) + j + 1))) := ((hfr.trans hf3 (fun _ _ h => h)).mono (fun _ _ h => h.elim)).trans fr_set (fun _ _ h => h)
                  have HPOST := Lib.hid hpost
                  have HSS := Lib.hid hSS
                  have HF9 := Lib.hid hF9
                  clear hpost hSS hF9 hro h h3' hf3 hfr
                  by_cases hu2 : u % 2 = 1
                  · have hub : ((u : Int) % 2 == 1) = true := by rw [beq_iff_eq]; omega
                    have hun : unfN u = - ((u / 2 : Nat) : Int) - 1 := by unfold unfN; rw [if_neg (by omega)]
                    have HUN := Lib.hid hun
                    clear hun
                    go_wp2_with fail
                    go_ret
                    rw [← HS.out, HSS.out]
                    rw [show (k : Int) + 1 = (k : Int) + j + 1 by omega]
                    refine ⟨by rw [HUN.out]; congr 2, ⟨by omega, fat, what, ?_⟩, HF9.out⟩
                    have e : ((k + (j + 1) : Nat) : Int) = (k : Int) + j + 1 := by omega
                    rw [e]
                    exact HPOST.out
                  · have hub : ((u : Int) % 2 == 1) = false := by rw [beq_eq_false_iff_ne]; omega
                    have hun : unfN u = ((u / 2 : Nat) : Int) := by unfold unfN; rw [if_pos (by omega)]
                    have HUN := Lib.hid hun
                    clear hun
                    go_wp2_with fail
                    go_ret
                    rw [← HS.out, HSS.out]
                    rw [show (k : Int) + 1 = (k : Int) + j + 1 by omega]
                    refine ⟨by rw [HUN.out]; congr 2, ⟨by omega, fat, what, ?_⟩, HF9.out⟩
                    have e : ((k + (j + 1) : Nat) : Int) = (k : Int) + j + 1 := by omega
                    rw [e]
                    exact HPOST.out
                · obtain ⟨ad, e, _, hc⟩ := h3'.rd (by omega)
                  injection e with e
                  subst e
                  have hcell := hc (k + (m - 1)) (by omega)
                  simp only at hcell
                  have hst : val ((xs.drop (k + (m - 1))).take (j + 1 - (m - 1))) = (xs[k + (m - 1)]'(by omega)).toNat % 128 + 128 * val ((xs.drop (k + m)).take (j + 1 - m)) := by
                    rw [List.drop_eq_getElem_cons (by omega : k + (m - 1) < xs.length), show j + 1 - (m - 1) = (j + 1 - m) + 1 by omega, List.take_succ_cons, val, show k + (m - 1) + 1 = k + m by omega]
                  have hlim : (val ((xs.drop (k + (m - 1))).take (j + 1 - (m - 1))) : Int) ≤ 18446744073709551615 := HLIM.out (m - 1) (by omega)
                  rw [hst] at hlim
                  have HST := Lib.hid hst
                  clear hst hc
                  have hy := (xs[k + (m - 1)]'(by omega)).toNat_lt
                  generalize (xs[k + (m - 1)]'(by omega)).toNat = y at *
                  generalize val ((xs.drop (k + m)).take (j + 1 - m)) = u at *
                  have s1 : IntKind.u64.wrap ((u : Int) * 128) = (u : Int) * 128 := by rw [IntKind.wrap_u64]; omega
                  have s2 : IntKind.i64.wrap ((k : Int) + ((m : Int) - 1)) = ((k + (m - 1) : Nat) : Int) := by rw [IntKind.wrap_i64]; omega
                  have s3 : IntKind.u64.wrap ((u : Int) * 128 + (y : Int) % 128) = (u : Int) * 128 + (y : Int) % 128 := by rw [IntKind.wrap_u64]; omega
                  have s4 : ((k + (m - 1) : Nat) : Int) < n := by omega
                  have s5 : (0 : Int) ≤ ((k + (m - 1) : Nat) : Int) := by omega
                  have s6 : (0 : Int) ≤ (m : Int) - 1 := by omega
                  go_wp2_with fail
                  go_quiet (fail)
                  clear s1 s2 s3 s4 s5 s6
                  go_wp2
                  go_roundw
                  case rel =>
                    refine ⟨m - 1, by omega, by go_num, ?_, hf3.drewN _⟩
                    rw [HST.out]
                    congr 1
                    omega
                  case measure => simp [intOf]; omega
            · have hz : (0 : Int) < j := by omega
              have hx0 : ((x : Int) == 0) = false := by rw [beq_eq_false_iff_ne]; omega
              by_cases hj9 : j = 9
              · have h9 : ((j : Int) == 9) = true := by rw [beq_iff_eq]; omega
                have hx1 : ¬ (1 : Int) < x := by omega
                go_wp2_with fail
                have HLIM := Lib.hid (val_lim xs k j (by omega) (by rw [HX.out]; omega) (by omega))
                obtain ⟨w0, hw0⟩ : ∃ w0, w0 = wr := ⟨_, rfl⟩
                subst hw0
                go_loopw [7, 8] (fun u i w3 => ∃ m : Nat, (m : Int) ≤ (j : Int) + 1 ∧ i = .int .i64 ((m : Int) - 1) ∧ u = .int .u64 (val ((xs.drop (k + m)).take (j + 1 - m)) : Nat) ∧ Fr (fun _ => False) w0 w3) (fun _ i _ => (intOf i + 1).toNat)
                case atStart => exact ⟨j + 1, by omega, by go_num, by simp [val], (Fr.refl _ _).drewN _⟩
                case round =>
                  clear c0 c1 c2 hcell
                  obtain ⟨m, hm, rfl, rfl, hf3⟩ := hrel
                  have h3' := h.quiet hf3
                  have c0 : wr.cell? ⟨g, 0, none⟩ = some (.slice (some ⟨b, o, none⟩) n c) := h3'.bk.cell 0
                  have c1 : wr.cell? ⟨g, 1, none⟩ = some (.int .i64 k) := h3'.bk.cell 1
                  rcases Nat.eq_zero_or_pos m with hm0 | hm0
                  · subst hm0
                    have f1 : wr.frozen? ⟨g, 1, none⟩ = false := h3'.bk.frozen 1
                    simp only [Nat.add_zero, Nat.sub_zero]
                    have hu : (val ((xs.drop k).take (j + 1)) : Int) ≤ 18446744073709551615 := by have := HLIM.out 0 (by omega); simpa using this
                    generalize val ((xs.drop k).take (j + 1)) = u at *
                    have hro := unfN_range u (by omega)
                    have hSS : stInt xs wh (.at_ k) = (unfN u, .at_ (k + (j + 1))) := by unfold stInt; simp only [HT.out]
                    have hpost := (h3'.quiet ((Fr.refl (fun _ => False) wr).drewN 0)).set ((k : Int) + j + 1)
                    have hF9 : Fr (fun x => x = g) w (wr.setCell ⟨g, 1, none⟩ (.int .i64 ((k : Int) + j + 1))) := ((hfr.trans hf3 (fun _ _ h => h)).mono (fun _ _ h => h.elim)).trans fr_set (fun _ _ h => h)
                    have HPOST := Lib.hid hpost
                    have HSS := Lib.hid hSS
                    have HF9 := Lib.hid hF9
                    clear hpost hSS hF9 hro h h3' hf3 hfr
                    by_cases hu2 : u % 2 = 1
                    · have hub : ((u : Int) % 2 == 1) = true := by rw [beq_iff_eq]; omega
                      have hun : unfN u = - ((u / 2 : Nat) : Int) - 1 := by unfold unfN; rw [if_neg (by omega)]
                      have HUN := Lib.hid hun
                      clear hun
                      go_wp2_with fail
                      go_ret
                      rw [← HS.out, HSS.out]
                      rw [show (k : Int) + 9 + 1 = (k : Int) + j + 1 by omega]
                      refine ⟨by rw [HUN.out]; congr 2, ⟨by omega, fat, what, ?_⟩, HF9.out⟩
                      have e : ((k + (j + 1) : Nat) : Int) = (k : Int) + j + 1 := by omega
                      rw [e]
                      exact HPOST.out
                    · have hub : ((u : Int) % 2 == 1) = false := by rw [beq_eq_false_iff_ne]; omega
                      have hun : unfN u = ((u / 2 : Nat) : Int) := by unfold unfN; rw [if_pos (by omega)]
                      have HUN := Lib.hid hun
                      clear hun
                      go_wp2_with fail
                      go_ret
                      rw [← HS.out, HSS.out]
                      rw [show (k : Int) + 9 + 1 = (k : Int) + j + 1 by omega]
                      refine ⟨by rw [HUN.out]; congr 2, ⟨by omega, fat, what, ?_⟩, HF9.out⟩
                      have e : ((k + (j + 1) : Nat) : Int) = (k : Int) + j + 1 := by omega
                      rw [e]
                      exact HPOST.out
                  · obtain ⟨ad, e, _, hc⟩ := h3'.rd (by omega)
                    injection e with e
                    subst e
                    have hcell := hc (k + (m - 1)) (by omega)
                    simp only at hcell
                    have hst : val ((xs.drop (k + (m - 1))).take (j + 1 - (m - 1))) = (xs[k + (m - 1)]'(by omega)).toNat % 128 + 128 * val ((xs.drop (k + m)).take (j + 1 - m)) := by
                      rw [List.drop_eq_getElem_cons (by omega : k + (m - 1) < xs.length), show j + 1 - (m - 1) = (j + 1 - m) + 1 by omega, List.take_succ_cons, val, show k + (m - 1) + 1 = k + m by omega]
                    have hlim : (val ((xs.drop (k + (m - 1))).take (j + 1 - (m - 1))) : Int) ≤ 18446744073709551615 := HLIM.out (m - 1) (by omega)
                    rw [hst] at hlim
                    have HST := Lib.hid hst
                    clear hst hc
                    have hy := (xs[k + (m - 1)]'(by omega)).toNat_lt
                    generalize (xs[k + (m - 1)]'(by omega)).toNat = y at *
                    generalize val ((xs.drop (k + m)).take (j + 1 - m)) = u at *
                    have s1 : IntKind.u64.wrap ((u : Int) * 128) = (u : Int) * 128 := by rw [IntKind.wrap_u64]; omega
                    have s2 : IntKind.i64.wrap ((k : Int) + ((m : Int) - 1)) = ((k + (m - 1) : Nat) : Int) := by rw [IntKind.wrap_i64]; omega
                    have s3 : IntKind.u64.wrap ((u : Int) * 128 + (y : Int) % 128) = (u : Int) * 128 + (y : Int) % 128 := by rw [IntKind.wrap_u64]; omega
                    have s4 : ((k + (m - 1) : Nat) : Int) < n := by omega
                    have s5 : (0 : Int) ≤ ((k + (m - 1) : Nat) : Int) := by omega
                    have s6 : (0 : Int) ≤ (m : Int) - 1 := by omega
                    go_wp2_with fail
                    go_quiet (fail)
                    clear s1 s2 s3 s4 s5 s6
                    go_wp2
                    go_roundw
                    case rel =>
                      refine ⟨m - 1, by omega, by go_num, ?_, hf3.drewN _⟩
                      rw [HST.out]
                      congr 1
                      omega
                    case measure => simp [intOf]; omega
              · have h9 : ((j : Int) == 9) = false := by rw [beq_eq_false_iff_ne]; omega
                go_wp2_with fail
                have HLIM := Lib.hid (val_lim xs k j (by omega) (by rw [HX.out]; omega) (by omega))
                obtain ⟨w0, hw0⟩ : ∃ w0, w0 = wr := ⟨_, rfl⟩
                subst hw0
                go_loopw [7, 8] (fun u i w3 => ∃ m : Nat, (m : Int) ≤ (j : Int) + 1 ∧ i = .int .i64 ((m : Int) - 1) ∧ u = .int .u64 (val ((xs.drop (k + m)).take (j + 1 - m)) : Nat) ∧ Fr (fun _ => False) w0 w3) (fun _ i _ => (intOf i + 1).toNat)
                case atStart => exact ⟨j + 1, by omega, by go_num, by simp [val], (Fr.refl _ _).drewN _⟩
                case round =>
                  clear c0 c1 c2 hcell
                  obtain ⟨m, hm, rfl, rfl, hf3⟩ := hrel
                  have h3' := h.quiet hf3
                  have c0 : wr.cell? ⟨g, 0, none⟩ = some (.slice (some ⟨b, o, none⟩) n c) := h3'.bk.cell 0
                  have c1 : wr.cell? ⟨g, 1, none⟩ = some (.int .i64 k) := h3'.bk.cell 1
                  rcases Nat.eq_zero_or_pos m with hm0 | hm0
                  · subst hm0
                    have f1 : wr.frozen? ⟨g, 1, none⟩ = false := h3'.bk.frozen 1
                    simp only [Nat.add_zero, Nat.sub_zero]
                    have hu : (val ((xs.drop k).take (j + 1)) : Int) ≤ 18446744073709551615 := by have := HLIM.out 0 (by omega); simpa using this
                    generalize val ((xs.drop k).take (j + 1)) = u at *
                    have hro := unfN_range u (by omega)
                    have hSS : stInt xs wh (.at_ k) = (unfN u, .at_ (k + (j + 1))) := by unfold stInt; simp only [HT.out]
                    have hpost := (h3'.quiet ((Fr.refl (fun _ => False) wr).drewN 0)).set ((k : Int) + j + 1)
                    have hF9 : Fr (fun x => x = g) w (wr.setCell ⟨g, 1, none⟩ (.int .i64 ((k : Int) + j + 1))) := ((hfr.trans hf3 (fun _ _ h => h)).mono (fun _ _ h => h.elim)).trans fr_set (fun _ _ h => h)
                    have HPOST := Lib.hid hpost
                    have HSS := Lib.hid hSS
                    have HF9 := Lib.hid hF9
                    clear hpost hSS hF9 hro h h3' hf3 hfr
                    by_cases hu2 : u % 2 = 1
                    · have hub : ((u : Int) % 2 == 1) = true := by rw [beq_iff_eq]; omega
                      have hun : unfN u = - ((u / 2 : Nat) : Int) - 1 := by unfold unfN; rw [if_neg (by omega)]
                      have HUN := Lib.hid hun
                      clear hun
                      go_wp2_with fail
                      go_ret
                      rw [← HS.out, HSS.out]
                      refine ⟨by rw [HUN.out]; congr 2, ⟨by omega, fat, what, ?_⟩, HF9.out⟩
                      have e : ((k + (j + 1) : Nat) : Int) = (k : Int) + j + 1 := by omega
                      rw [e]
                      exact HPOST.out
                    · have hub : ((u : Int) % 2 == 1) = false := by rw [beq_eq_false_iff_ne]; omega
                      have hun : unfN u = ((u / 2 : Nat) : Int) := by unfold unfN; rw [if_pos (by omega)]
                      have HUN := Lib.hid hun
                      clear hun
                      go_wp2_with fail
                      go_ret
                      rw [← HS.out, HSS.out]
                      refine ⟨by rw [HUN.out]; congr 2, ⟨by omega, fat, what, ?_⟩, HF9.out⟩
                      have e : ((k + (j + 1) : Nat) : Int) = (k : Int) + j + 1 := by omega
                      rw [e]
                      exact HPOST.out
                  · obtain ⟨ad, e, _, hc⟩ := h3'.rd (by omega)
                    injection e with e
                    subst e
                    have hcell := hc (k + (m - 1)) (by omega)
                    simp only at hcell
                    have hst : val ((xs.drop (k + (m - 1))).take (j + 1 - (m - 1))) = (xs[k + (m - 1)]'(by omega)).toNat % 128 + 128 * val ((xs.drop (k + m)).take (j + 1 - m)) := by
                      rw [List.drop_eq_getElem_cons (by omega : k + (m - 1) < xs.length), show j + 1 - (m - 1) = (j + 1 - m) + 1 by omega, List.take_succ_cons, val, show k + (m - 1) + 1 = k + m by omega]
                    have hlim : (val ((xs.drop (k + (m - 1))).take (j + 1 - (m - 1))) : Int) ≤ 18446744073709551615 := HLIM.out (m - 1) (by omega)
                    rw [hst] at hlim
                    have HST := Lib.hid hst
                    clear hst hc
                    have hy := (xs[k + (m - 1)]'(by omega)).toNat_lt
                    generalize (xs[k + (m - 1)]'(by omega)).toNat = y at *
                    generalize val ((xs.drop (k + m)).take (j + 1 - m)) = u at *
                    have s1 : IntKind.u64.wrap ((u : Int) * 128) = (u : Int) * 128 := by rw [IntKind.wrap_u64]; omega
                    have s2 : IntKind.i64.wrap ((k : Int) + ((m : Int) - 1)) = ((k + (m - 1) : Nat) : Int) := by rw [IntKind.wrap_i64]; omega
                    have s3 : IntKind.u64.wrap ((u : Int) * 128 + (y : Int) % 128) = (u : Int) * 128 + (y : Int) % 128 := by rw [IntKind.wrap_u64]; omega
                    have s4 : ((k + (m - 1) : Nat) : Int) < n := by omega
                    have s5 : (0 : Int) ≤ ((k + (m - 1) : Nat) : Int) := by omega
                    have s6 : (0 : Int) ≤ (m : Int) - 1 := by omega
                    go_wp2_with fail
                    go_quiet (fail)
                    clear s1 s2 s3 s4 s5 s6
                    go_wp2
                    go_roundw
                    case rel =>
                      refine ⟨m - 1, by omega, by go_num, ?_, hf3.drewN _⟩
                      rw [HST.out]
                      congr 1
                      omega
                    case measure => simp [intOf]; omega
      · have hj10 : j = 10 := by omega
        subst hj10
        have h1' : (k : Int) + 10 < n := by omega
        have i0' : (0 : Int) ≤ (k : Int) + 10 := by omega
        have hten := rd_ten (xs.drop k) (fun q hq => by obtain ⟨h1, h2⟩ := HLEAD.out q hq; exact ⟨by simp; omega, by simpa using h2⟩)
        have HT := Lib.hid hten
        clear hten
        go_wp2_with fail
        go_quiet (fail)
        go_wp2_with fail
        refine (rfail_any (h.quiet ((Fr.refl _ _).drewN _)) 8 k wh).mono ?_; rintro e w2 ⟨rfl, hr2, hf2⟩
        go_wp2
        go_ret
        have hSS : stInt xs wh (.at_ k) = (0, .bad 8 k wh) := by unfold stInt; simp only [HT.out]
        rw [← HS.out, hSS]
        exact ⟨rfl, ⟨by decide, _, hr2⟩, ((hfr.drewN _).mono (fun _ _ h => h.elim)).trans hf2 (fun _ _ h => h)⟩
    · have hkn : (n : Int) = (k : Int) + j := by omega
      by_cases hj10 : j = 10
      · subst hj10
        have hkn : (n : Int) = (k : Int) + 10 := by omega
        have h1' : ¬ (k : Int) + 10 < n := by omega
        have hw : IntKind.i64.wrap ((k : Int) + 10) = (k : Int) + 10 := IntWalk.i64_in _ (by omega)
        have hten := rd_ten (xs.drop k) (fun q hq => by obtain ⟨h1, h2⟩ := HLEAD.out q hq; exact ⟨by simp; omega, by simpa using h2⟩)
        have HT := Lib.hid hten
        clear hten
        go_wp2_with fail
        go_quiet (fail)
        clear hw
        go_wp2_with fail
        refine (rfail_any (h.quiet ((Fr.refl _ _).drewN _)) 8 k wh).mono ?_; rintro e w2 ⟨rfl, hr2, hf2⟩
        go_wp2
        go_ret
        have hSS : stInt xs wh (.at_ k) = (0, .bad 8 k wh) := by unfold stInt; simp only [HT.out]
        rw [← HS.out, hSS]
        exact ⟨rfl, ⟨by decide, _, hr2⟩, ((hfr.drewN _).mono (fun _ _ h => h.elim)).trans hf2 (fun _ _ h => h)⟩
      · have hw : IntKind.i64.wrap ((k : Int) + j) = (k : Int) + j := IntWalk.i64_in _ (by omega)
        have hjb : ((j : Int) == 10) = false := by rw [beq_eq_false_iff_ne]; omega
        have hnb : ((k : Int) + j == n) = true := by rw [beq_iff_eq]; omega
        have hsh := rd_short (xs.drop k) j (by omega) (by simp; omega) (fun q hq => by obtain ⟨h1, h2⟩ := HLEAD.out q hq; exact ⟨by simp; omega, by simpa using h2⟩)
        have HT := Lib.hid hsh
        clear hsh
        go_wp2_with fail
        go_quiet (fail)
        go_wp2_with fail
        go_quiet (fail)
        clear hw
        go_wp2_with fail
        refine (rfail_any (h.quiet ((Fr.refl _ _).drewN _)) 7 k wh).mono ?_; rintro e w2 ⟨rfl, hr2, hf2⟩
        go_wp2
        go_ret
        have hSS : stInt xs wh (.at_ k) = (0, .bad 7 k wh) := by unfold stInt; simp only [HT.out]
        rw [← HS.out, hSS]
        exact ⟨rfl, ⟨by decide, _, hr2⟩, ((hfr.drewN _).mono (fun _ _ h => h.elim)).trans hf2 (fun _ _ h => h)⟩
end Go.Proofs.YtieoeoonopcjbaaGreatDoor

/- errors.As, at a *Fault and a **Fault. -/
namespace Go.Proofs.YtieoeoonopcjbaaGreatDoor
open Go.RowKit Go.Extern.Stop Go.Stop Go.Extern

theorem Tryz.afTypeOf (v : Value) (w : World) : (callFunc 105 #[.iface 96 v]).run Tryz.prog w = .ok (.value (.iface 217 (.agg #[.pointer (some ⟨6, 96, none⟩)]))) w := by kernel_rfl
theorem Tryz.afValueOfP (t : Addr) (w : World) : (callFunc 101 #[.iface 97 (.pointer (some t))]).run Tryz.prog w
    = .ok (.value (.agg #[.pointer (some ⟨6, 97, none⟩), .pointer (some ⟨w.heap.size, 0, none⟩), .int .u64 150])) (w.alloc (.cells #[.pointer (some t)] 97)) := by kernel_rfl
theorem Tryz.afTypeP (a : Addr) (w : World) : (callFunc 102 #[.agg #[.pointer (some ⟨6, 97, none⟩), .pointer (some a), .int .u64 150]]).run Tryz.prog w
    = .ok (.value (.iface 217 (.agg #[.pointer (some ⟨6, 97, none⟩)]))) w := by kernel_rfl
theorem Tryz.afKindP (w : World) : (callFunc 214 #[.pointer (some ⟨6, 97, none⟩)]).run Tryz.prog w = .ok (.value (.int .u8 22)) w := by kernel_rfl
theorem Tryz.afKindN (w : World) : (callFunc 214 #[.pointer (some ⟨6, 96, none⟩)]).run Tryz.prog w = .ok (.value (.int .u8 22)) w := by kernel_rfl
theorem Tryz.afElemP (w : World) : (callFunc 225 #[.agg #[.pointer (some ⟨6, 97, none⟩)]]).run Tryz.prog w = .ok (.value (.iface 217 (.agg #[.pointer (some ⟨6, 96, none⟩)]))) w := by kernel_rfl
theorem Tryz.afImplementsN (w : World) : (callFunc 226 #[.agg #[.pointer (some ⟨6, 96, none⟩)], .iface 217 (.agg #[.pointer (some ⟨6, 27, none⟩)])]).run Tryz.prog w = .ok (.value (.bool true)) w := by kernel_rfl
theorem Tryz.afAssignableN (w : World) : (callFunc 223 #[.agg #[.pointer (some ⟨6, 96, none⟩)], .iface 217 (.agg #[.pointer (some ⟨6, 96, none⟩)])]).run Tryz.prog w = .ok (.value (.bool true)) w := by kernel_rfl
theorem Tryz.afValueOfN (k : Addr) (w : World) : (callFunc 101 #[.iface 96 (.pointer (some k))]).run Tryz.prog w
    = .ok (.value (.agg #[.pointer (some ⟨6, 96, none⟩), .pointer (some ⟨w.heap.size, 0, none⟩), .int .u64 150])) (w.alloc (.cells #[.pointer (some k)] 96)) := by kernel_rfl

theorem Tryz.afPartsP (a : Addr) (w : World) : (ReflectliteValue.parts (.agg #[.pointer (some ⟨6, 97, none⟩), .pointer (some a), .int .u64 150])).run Tryz.prog w = .ok (some (97, a, 150)) w := by kernel_rfl
theorem Tryz.afPartsN (a : Addr) (w : World) : (ReflectliteValue.parts (.agg #[.pointer (some ⟨6, 96, none⟩), .pointer (some a), .int .u64 406])).run Tryz.prog w = .ok (some (96, a, 406)) w := by kernel_rfl
theorem Tryz.afPartsM (a : Addr) (w : World) : (ReflectliteValue.parts (.agg #[.pointer (some ⟨6, 96, none⟩), .pointer (some a), .int .u64 150])).run Tryz.prog w = .ok (some (96, a, 150)) w := by kernel_rfl
theorem Tryz.afElemOf (w : World) : (Rtype.elem? 97).run Tryz.prog w = .ok (some 96) w := by kernel_rfl
theorem Tryz.afMk (p : Addr) (w : World) : (ReflectliteValue.mk 96 p ReflectliteValue.flagAddr).run Tryz.prog w = .ok (.agg #[.pointer (some ⟨6, 96, none⟩), .pointer (some p), .int .u64 406]) w := by kernel_rfl
theorem Tryz.afDirect (w : World) : (Rtype.directlyAssignable 96 96).run Tryz.prog w = .ok true w := by kernel_rfl

theorem Tryz.afIsNil (a p : Addr) (W : World) (ha : W.cell? a = some (.pointer (some p))) :
    (callFunc 103 #[.agg #[.pointer (some ⟨6, 97, none⟩), .pointer (some a), .int .u64 150]]).run Tryz.prog W = .ok (.value (.bool false)) W := by
  rw [@run_callFunc_extern Tryz.prog 103 _ (ReflectliteValue.method (ReflectliteValue.valueError "reflectlite.Value.IsNil" 0) ReflectliteValue.isNil) Tryz.func103 (by kernel_rfl) (by kernel_rfl) (by kernel_rfl) (by kernel_rfl)]
  change (Sem.run _ (ReflectliteValue.parts (.agg #[.pointer (some ⟨6, 97, none⟩), .pointer (some a), .int .u64 150]) >>= _) _).andThen _ = _
  simp only [Sem.run_bind, Tryz.afPartsP, Result.andThen]
  simp [ReflectliteValue.isNil, loadVar, isAgg, underlying, Tryz.underlying97, ha, Result.andThen]
theorem Tryz.afElemV (a p : Addr) (W : World) (ha : W.cell? a = some (.pointer (some p))) :
    (callFunc 158 #[.agg #[.pointer (some ⟨6, 97, none⟩), .pointer (some a), .int .u64 150]]).run Tryz.prog W = .ok (.value (.agg #[.pointer (some ⟨6, 96, none⟩), .pointer (some p), .int .u64 406])) W := by
  rw [@run_callFunc_extern Tryz.prog 158 _ (ReflectliteValue.method (ReflectliteValue.valueError "reflectlite.Value.Elem" 0) ReflectliteValue.elem) Tryz.func158 (by kernel_rfl) (by kernel_rfl) (by kernel_rfl) (by kernel_rfl)]
  change (Sem.run _ (ReflectliteValue.parts (.agg #[.pointer (some ⟨6, 97, none⟩), .pointer (some a), .int .u64 150]) >>= _) _).andThen _ = _
  simp only [Sem.run_bind, Tryz.afPartsP, Result.andThen]
  simp [ReflectliteValue.elem, loadVar, isAgg, underlying, Tryz.underlying97, ha, Result.andThen, Tryz.afElemOf, Tryz.afMk]
theorem Tryz.afSet (ta b : Addr) (k : Addr) (old : Value) (W : World) (hb : W.cell? b = some (.pointer (some k))) (ht : W.cell? ta = some old) (hf : W.frozen? ta = false) :
    (callFunc 159 #[.agg #[.pointer (some ⟨6, 96, none⟩), .pointer (some ta), .int .u64 406], .agg #[.pointer (some ⟨6, 96, none⟩), .pointer (some b), .int .u64 150]]).run Tryz.prog W
      = .ok (.value (.tuple #[])) (W.setCell ta (.pointer (some k))) := by
  rw [@run_callFunc_extern Tryz.prog 159 _ ReflectliteValue.set Tryz.func159 (by kernel_rfl) (by kernel_rfl) (by kernel_rfl) (by kernel_rfl)]
  change (Sem.run _ (ReflectliteValue.parts (.agg #[.pointer (some ⟨6, 96, none⟩), .pointer (some ta), .int .u64 406]) >>= fun _ => ReflectliteValue.parts (.agg #[.pointer (some ⟨6, 96, none⟩), .pointer (some b), .int .u64 150]) >>= fun _ => _) _).andThen _ = _
  simp only [Sem.run_bind, Tryz.afPartsN, Tryz.afPartsM, Result.andThen]
  simp [ReflectliteValue.flagAddr, loadVar, isAgg, underlying, Tryz.underlying96, hb, Result.andThen, Tryz.afDirect, storeVar, Value.cells, storeCells, Addr.add]
  rw [run_store Tryz.prog W ta _ _ (by rfl)]
  simp [ht, hf]
set_option maxRecDepth 100000 in
set_option maxHeartbeats 4000000 in
theorem as_fault (t : Addr) (k : Addr) (old : Value) (w : World) (hg : w.cell? ⟨0, 0, none⟩ = some (.iface 217 (.agg #[.pointer (some ⟨6, 27, none⟩)]))) (ht0 : w.cell? t = some old) (hf0 : w.frozen? t = false) :
    Calls Tryz.prog 31 #[.iface 96 (.pointer (some k)), .iface 97 (.pointer (some t))] w fun ev w' => ev = .returned (.bool true) ∧ Fr (fun x => x = t.block) w w' ∧ w'.cell? t = some (.pointer (some k)) := by
  have tO := Tryz.afTypeOf
  have mA := Tryz.asMethodAssignable
  have a25 := Tryz.afAssignableN
  have v25 := Tryz.afValueOfN
  have f6 := Tryz.afValueOfP
  have f7 := Tryz.afTypeP
  have mK := Tryz.asMethodKind
  have mE := Tryz.asMethodElem
  have mI := Tryz.asMethodImplements
  have k27 := Tryz.afKindP
  have k25 := Tryz.afKindN
  have e27 := Tryz.afElemP
  have i25 := Tryz.afImplementsN
  have htl : t.block < w.heap.size := World.block_lt_of_cell? w _ ht0
  have hlt : 0 < w.heap.size := World.block_lt_of_cell? w _ hg
  have n8 := Tryz.afIsNil ⟨w.heap.size, 0, none⟩ t ((w.alloc (.cells #[.pointer (some t)] 97)).alloc (.cells #[.pointer (some ⟨6, 97, none⟩), .pointer (some ⟨w.heap.size, 0, none⟩), .int .u64 150] 164)) (by simp)
  have hg2 : ((w.alloc (.cells #[.pointer (some t)] 97)).alloc (.cells #[.pointer (some ⟨6, 97, none⟩), .pointer (some ⟨w.heap.size, 0, none⟩), .int .u64 150] 164)).cell? ⟨0, 0, none⟩ = some (.iface 217 (.agg #[.pointer (some ⟨6, 27, none⟩)])) := by
    rw [World.cell?_alloc_lt _ _ ⟨0, 0, none⟩ (by first | (simp; omega) | simp), World.cell?_alloc_lt _ _ ⟨0, 0, none⟩ hlt]; exact hg
  have el := Tryz.afElemV ⟨w.heap.size, 0, none⟩ t (((w.alloc (.cells #[.pointer (some t)] 97)).alloc (.cells #[.pointer (some ⟨6, 97, none⟩), .pointer (some ⟨w.heap.size, 0, none⟩), .int .u64 150] 164)).alloc (.cells #[.pointer (some ⟨6, 97, none⟩), .pointer (some ⟨w.heap.size, 0, none⟩), .int .u64 150] 164)) (by rw [World.cell?_alloc_lt _ _ ⟨w.heap.size, 0, none⟩ (by simp; omega)]; simp)
  have HW := Lib.hid (show ((((w.alloc (.cells #[.pointer (some t)] 97)).alloc (.cells #[.pointer (some ⟨6, 97, none⟩), .pointer (some ⟨w.heap.size, 0, none⟩), .int .u64 150] 164)).alloc (.cells #[.pointer (some ⟨6, 97, none⟩), .pointer (some ⟨w.heap.size, 0, none⟩), .int .u64 150] 164)).alloc (.cells #[.pointer (some k)] 96)).cell? t = some old by rw [World.cell?_alloc_lt _ _ t (by simp; omega), World.cell?_alloc_lt _ _ t (by simp; omega), World.cell?_alloc_lt _ _ t (by simp; omega), World.cell?_alloc_lt _ _ t htl]; exact ht0)
  have st := Tryz.afSet t ⟨w.heap.size + 1 + 1 + 1, 0, none⟩ k old ((((w.alloc (.cells #[.pointer (some t)] 97)).alloc (.cells #[.pointer (some ⟨6, 97, none⟩), .pointer (some ⟨w.heap.size, 0, none⟩), .int .u64 150] 164)).alloc (.cells #[.pointer (some ⟨6, 97, none⟩), .pointer (some ⟨w.heap.size, 0, none⟩), .int .u64 150] 164)).alloc (.cells #[.pointer (some k)] 96))
    (by rw [World.cell?_alloc_at _ _ _ _ (by simp)]; rfl)
    HW.out
    (by rw [World.frozen?_alloc_old _ _ t (by simp; omega), World.frozen?_alloc_old _ _ t (by simp; omega), World.frozen?_alloc_old _ _ t (by simp; omega), World.frozen?_alloc_old _ _ t (Nat.ne_of_lt htl)]; exact hf0)
  go_enter Tryz.func31, Tryz.ntmps31
  go_wp2
  refine wp_loop_rounds 1 ?_
  rw [rounds_succ]
  go_wp2
  go_ret
  refine ⟨rfl, Fr.setCell (((((Fr.refl (fun x => x = t.block) w).alloc _).alloc _).alloc _).alloc _) (fun _ => rfl) _, ?_⟩
  exact World.cell?_setCell_same _ _ _ HW.out

end Go.Proofs.YtieoeoonopcjbaaGreatDoor

/- Texts of faults. -/
namespace Go.Proofs.YtieoeoonopcjbaaGreatDoor
open Go.RowKit

def errText (k : Int) : ByteArray := if k = 7 then ⟨#[115, 104, 111, 114, 116]⟩ else if k = 8 then ⟨#[102, 111, 114, 109]⟩ else if k = 9 then ⟨#[115, 117, 109]⟩ else ⟨#[108, 111, 110, 103]⟩
theorem errno_7 (w : World) : Calls Tryz.prog 49 #[.int .i64 7] w fun e w' => e = .returned (.string (errText 7)) ∧ w = w' := by
  go_enter Tryz.func49, Tryz.ntmps49
  go_wp2
  go_ret
  exact ⟨rfl, rfl⟩
theorem errno_8 (w : World) : Calls Tryz.prog 49 #[.int .i64 8] w fun e w' => e = .returned (.string (errText 8)) ∧ w = w' := by
  go_enter Tryz.func49, Tryz.ntmps49
  go_wp2
  go_ret
  exact ⟨rfl, rfl⟩
theorem errno_9 (w : World) : Calls Tryz.prog 49 #[.int .i64 9] w fun e w' => e = .returned (.string (errText 9)) ∧ w = w' := by
  go_enter Tryz.func49, Tryz.ntmps49
  go_wp2
  go_ret
  exact ⟨rfl, rfl⟩
theorem errno_10 (w : World) : Calls Tryz.prog 49 #[.int .i64 10] w fun e w' => e = .returned (.string (errText 10)) ∧ w = w' := by
  go_enter Tryz.func49, Tryz.ntmps49
  go_wp2
  go_ret
  exact ⟨rfl, rfl⟩
/-- One of the document's faults. -/
def Bad4 (k : Int) : Prop := k = 7 ∨ k = 8 ∨ k = 9 ∨ k = 10
theorem errno_any (k : Int) (w : World) (h : Bad4 k) : Calls Tryz.prog 49 #[.int .i64 k] w fun e w' => e = .returned (.string (errText k)) ∧ w = w' := by
  rcases h with rfl | rfl | rfl | rfl
  · exact errno_7 w
  · exact errno_8 w
  · exact errno_9 w
  · exact errno_10 w

theorem rd_one (w : World) (z : Int) (d : UInt8) (hd : (d.toNat : Int) = z) (c : TypeId) : Rd8 (w.alloc (.cells #[.int .u8 z] c)) (some ⟨w.heap.size, 0, none⟩) [d] := fun _ =>
  ⟨_, rfl, rfl, fun j hj => by
    obtain rfl : j = 0 := by simpa using hj
    have := (Bk.new w c #[.int .u8 z]).cell 0
    simp [← hd]⟩
theorem digit_val (k : Nat) : ((UInt8.ofNat (48 + k % 10)).toNat : Int) = 48 + (k : Int) % 10 := by
  rw [UInt8.toNat_ofNat', Nat.mod_eq_of_lt (by omega)]; omega
theorem digit_val' (k : Nat) (h : k < 10) : ((UInt8.ofNat (48 + k)).toNat : Int) = 48 + (k : Int) := by
  rw [UInt8.toNat_ofNat', Nat.mod_eq_of_lt (by omega)]; omega
theorem dec_ge {k : Nat} (h : 10 ≤ k) : Lib.decDigits k = Lib.decDigits (k / 10) ++ [UInt8.ofNat (48 + k % 10)] := by
  rw [Lib.decDigits, dif_neg (by omega)]
theorem dec_lt {k : Nat} (h : k < 10) : Lib.decDigits k = [UInt8.ofNat (48 + k)] := by
  rw [Lib.decDigits, dif_pos h]

theorem nDigits_le : ∀ (j n : Nat), n < 10 ^ (j + 1) → Lib.nDigits n ≤ j + 1
  | 0, n, h => by rw [Lib.nDigits_small (by simpa using h)]; exact Nat.le_refl _
  | j + 1, n, h => by
    by_cases h1 : n < 10
    · rw [Lib.nDigits_small h1]; omega
    · rw [Lib.nDigits_big h1]
      have := nDigits_le j (n / 10) (by rw [Nat.pow_succ] at h; omega)
      omega
theorem dec_len {n : Nat} (h : n ≤ 9223372036854775807) : (Lib.decDigits n).length ≤ 20 := by
  rw [Lib.decDigits_length]
  exact nDigits_le 19 n (by omega)
theorem strOf_size (l : List UInt8) : (strOf l).size = l.length := by simp [strOf, ByteArray.size]
theorem strOf_app (a b : List UInt8) : strOf a ++ strOf b = strOf (a ++ b) := by
  apply ByteArray.ext
  simp [strOf, ByteArray.data_append]

set_option maxRecDepth 100000 in
theorem decimal_any (n : Nat) (w : World) (h : n ≤ 9223372036854775807) :
    Calls Tryz.prog 50 #[.int .i64 n] w fun e w' => e = .returned (.string (strOf (Lib.decDigits n))) ∧ Fr (fun _ => False) w w' := by
  have hlen := dec_len h
  go_enter Tryz.func50, Tryz.ntmps50
  go_wp2
  go_loopw [0, 3] (fun m s wr => ∃ (k : Nat) (t : ByteArray) (l : List UInt8), m = .int .i64 k ∧ s = .string t ∧ Hid (Lib.decDigits n = Lib.decDigits k ++ l ∧ t = strOf l) ∧ k ≤ 9223372036854775807 ∧ Fr (fun _ => False) w wr) (fun m _ _ => (intOf m).toNat)
  case atStart => exact ⟨n, _, [], rfl, rfl, Lib.hid ⟨by simp, rfl⟩, h, Fr.refl _ _⟩
  case round =>
    obtain ⟨k, t, l, rfl, rfl, HD, hk, hF⟩ := hrel
    have hl : t.size ≤ 20 := by
      have h1 := congrArg List.length HD.out.1
      rw [List.length_append] at h1
      rw [HD.out.2, strOf_size]
      omega
    by_cases hlt : 10 ≤ k
    · have i1 : (10 : Int) ≤ k := by omega
      have HG := Lib.hid (dec_ge hlt)
      have sc := run_str8 Tryz.t8 Tryz.underlying5 Tryz.underlying9 (n := 1) 1 (rd_one wr (48 + (k : Int) % 10) _ (digit_val k) 5) rfl
      generalize UInt8.ofNat (48 + k % 10) = d at *
      have hs : (strOf [d]).size + t.size ≤ 9223372036854775807 := by rw [strOf_size]; simp; omega
      go_wp2
      go_roundw
      case rel =>
        refine ⟨k / 10, strOf [d] ++ t, d :: l, by go_num, rfl, Lib.hid ⟨?_, ?_⟩, by omega, hF.alloc _⟩
        · rw [HD.out.1, HG.out]; simp
        · rw [HD.out.2, strOf_app]; rfl
      case measure => simp [intOf]; omega
    · have i1 : (k : Int) < 10 := by omega
      have HG := Lib.hid (dec_lt (k := k) (by omega))
      have sc := run_str8 Tryz.t8 Tryz.underlying5 Tryz.underlying9 (n := 1) 1 (rd_one wr (48 + (k : Int)) _ (digit_val' k (by omega)) 5) rfl
      generalize UInt8.ofNat (48 + k) = d at *
      have hs : (strOf [d]).size + t.size ≤ 9223372036854775807 := by rw [strOf_size]; simp; omega
      go_wp2
      go_ret
      refine ⟨?_, hF.alloc _⟩
      show Ending.returned (.string (strOf [d] ++ t)) = _
      rw [HD.out.1, HD.out.2, HG.out, strOf_app]
end Go.Proofs.YtieoeoonopcjbaaGreatDoor

/- A fault's text. -/
namespace Go.Proofs.YtieoeoonopcjbaaGreatDoor
open Go.RowKit

/-- The library's table of powers of ten holds what it must. -/
def PowT (w : World) : Prop := Lib.TabIs Tryz.prog w "internal/strconv.uint64pow10" .u64 Lib.pow10Tab
theorem Tryz.gPow : Tryz.prog.globalNamed "internal/strconv.uint64pow10" = some 3 := by kernel_rfl
theorem PowT.lt {w : World} (h : PowT w) : 3 < w.heap.size := by
  unfold PowT Lib.TabIs World.var? at h
  rw [Tryz.gPow] at h
  rcases Nat.lt_or_ge 3 w.heap.size with hlt | hge
  · exact hlt
  · simp [Array.getElem?_eq_none hge] at h
theorem PowT.fr {S : Nat → Prop} {w w' : World} (h : PowT w) (hb : Fr S w w') (hS : ¬ S 3) : PowT w' := by
  have hlt := h.lt
  unfold PowT Lib.TabIs World.var? at h ⊢
  rw [Tryz.gPow] at h ⊢
  simp only [Option.bind_some] at h ⊢
  rw [hb.block _ hlt hS]
  exact h
theorem fr_grow (w : World) (k : Nat) (os : Array Obj) : Fr (fun _ => False) w (Sort.grow (w.drewN k) os) :=
  ⟨rfl, rfl, rfl, by show w.heap.size ≤ (w.heap ++ os).size; simp, fun x hx _ => by
    show (w.heap ++ os)[x]? = w.heap[x]?
    rw [Array.getElem?_append_left hx]⟩
theorem itoa_any (n : Nat) (w : World) (h : n ≤ 9223372036854775807) (ht : PowT w) :
    Calls Tryz.prog 107 #[.int .i64 n] w fun e w' => e = .returned (.string (strOf (Lib.decDigits n))) ∧ Fr (fun _ => False) w w' :=
  (Tryz.strconv_Itoa n (by omega) (by omega) w ht).mono fun e w' ⟨he, k, os, hw⟩ => ⟨by rw [he, Lib.itoa, if_neg (by omega)]; rfl, hw ▸ fr_grow w k os⟩

theorem Fr.of_regrown (w : World) (d : Nat) (os : Array Obj) : Fr (fun _ => False) w (Sort.grow (redrawn w d) os) :=
  ⟨rfl, rfl, rfl, by show w.heap.size ≤ (w.heap ++ os).size; simp, fun x hx _ => by
    show (w.heap ++ os)[x]? = w.heap[x]?
    rw [Array.getElem?_append_left hx]⟩
def sIn : ByteArray := ⟨#[32, 105, 110, 32]⟩
def sAt : ByteArray := ⟨#[32, 97, 116, 32]⟩
/-- What a fault says. -/
def faultText (k : Int) (what : ByteArray) (p : Nat) : ByteArray := errText k ++ sIn ++ what ++ sAt ++ strOf (Lib.decDigits p)
theorem errText_size (k : Int) : (errText k).size ≤ 5 := by
  unfold errText; split; · decide
  split; · decide
  split <;> decide
set_option maxRecDepth 100000 in
set_option maxHeartbeats 1000000 in
theorem faultError_any (g : Nat) (k : Int) (p : Nat) (what : ByteArray) (w : World) (hk : Bad4 k) (hp : p ≤ 9223372036854775807) (hw : what.size ≤ 1000000) (ht : PowT w) (h0 : w.cell? ⟨g, 0, none⟩ = some (.int .i64 k)) (h1 : w.cell? ⟨g, 1, none⟩ = some (.int .i64 p)) (h2 : w.cell? ⟨g, 2, none⟩ = some (.string what)) :
    Calls Tryz.prog 48 #[.pointer (some ⟨g, 0, none⟩)] w fun e w' => e = .returned (.string (faultText k what p)) ∧ Fr (fun _ => False) w w' := by
  have C1 := Lib.hid (fun w => errno_any k w hk)
  have C2 := Lib.hid (fun w (h : PowT w) => itoa_any p w hp h)
  have HT : Hid (faultText k what p = errText k ++ sIn ++ what ++ sAt ++ strOf (Lib.decDigits p)) := Lib.hid rfl
  have z1 := errText_size k
  have z2 : (strOf (Lib.decDigits p)).size ≤ 20 := by rw [strOf_size]; exact dec_len hp
  generalize faultText k what p = txt at *
  generalize errText k = t1 at *
  generalize strOf (Lib.decDigits p) = t2 at *
  have k0 := cell_regrown h0
  have k1 := cell_regrown h1
  have k2 := cell_regrown h2
  have cE : ∀ d os, Calls Tryz.prog 49 #[.int .i64 k] (Sort.grow (redrawn w d) os) fun e w'' => e = .returned (.string t1) ∧ ∃ p : Regrown, w'' = Sort.grow (redrawn w p.d) p.os := fun d os =>
    Calls.regrown_of ((C1.out _).mono fun _ _ ⟨h, k⟩ => ⟨h, k ▸ Below.refl _ _⟩)
  have cI : ∀ d os, Calls Tryz.prog 107 #[.int .i64 p] (Sort.grow (redrawn w d) os) fun e w'' => e = .returned (.string t2) ∧ ∃ p : Regrown, w'' = Sort.grow (redrawn w p.d) p.os := fun d os =>
    Calls.regrown_of ((C2.out _ (ht.fr (Fr.of_below (below_regrown w d os)) (fun h => by have := ht.lt; have h' : w.heap.size ≤ 3 := h; omega))).mono fun _ _ ⟨h, k⟩ => ⟨h, k.below _ (Nat.le_refl _) (fun _ _ h => h)⟩)
  clear ht hk hp C1 C2 h0 h1 h2
  have s1 : ¬ 9223372036854775807 < t1.size + 4 := by omega
  have s2 : ¬ 9223372036854775807 < t1.size + 4 + what.size := by omega
  have s3 : ¬ 9223372036854775807 < t1.size + 4 + what.size + 4 := by omega
  have s4 : ¬ 9223372036854775807 < t1.size + 4 + what.size + 4 + t2.size := by omega
  clear z1 z2 hw
  unfold sIn sAt at *
  go_enter Tryz.func48, Tryz.ntmps48
  go_wp2
  refine wp_region_quiet_below (by kernel_rfl) (by kernel_rfl) ?_
  repeat (quiet_step (first | exact cE _ _ | exact cI _ _))
  refine wpQuiet_nil ?_
  intro _ hw'
  obtain ⟨⟨dq, osq⟩, hw''⟩ := hw'
  subst hw''
  go_wp2
  go_ret
  exact ⟨by rw [HT.out]; rfl, Fr.of_regrown w dq osq⟩
end Go.Proofs.YtieoeoonopcjbaaGreatDoor

/- Is an error the document's fault. -/
namespace Go.Proofs.YtieoeoonopcjbaaGreatDoor
open Go.RowKit

/-- The document's fault, as the reference has it. -/
structure Flt where
  er : Nat
  at_ : Nat
  what : ByteArray
def Flt.v (f : Flt) : Value := .agg #[.int .i64 f.er, .int .i64 f.at_, .string f.what]

/-- A region of which some operations have come up: the others only read, their callees make memory at most: one walk of them, in the order of the text. -/
theorem wpAny_rest {P : Program} {ops : Array Oper} {Q : Exit → Act → World → Prop} {md : Region.Mode} {listed : Array Bool} {a : Act} {w : World} {l : List Oper} (k : Nat) (hs : Region.noSelect ops = true) (hl : l = ops.toList.drop k)
    (hB : Region.lexFrom md ops l.length k listed = true)
    (h : wpQuiet P ops (fun w' => ∃ p : Regrown, w' = Sort.grow (redrawn w p.d) p.os) (fun a' => ∀ w', (∃ p : Regrown, w' = Sort.grow (redrawn w p.d) p.os) → Q .normal a' w') l a) : wpAny P md ops Q l.length listed a w :=
  wpAny_of_quiet (Q := fun a' => ∀ w', (∃ p : Regrown, w' = Sort.grow (redrawn w p.d) p.os) → Q .normal a' w') (fun _ w' hw' h => h w' hw') _ _ _ _ ⟨⟨w.drawn, #[]⟩, by rw [Sort.grow_empty]; rfl⟩
    (wpAnyQ_lex hs l k listed a (fun j => by subst hl; rw [List.getElem?_drop]; simp) hB h)

set_option maxRecDepth 100000 in
theorem same_nil (p : Nat) (what : ByteArray) (w : World) :
    Calls Tryz.prog 12 #[.nilIface, .agg #[.int .i64 0, .int .i64 p, .string what]] w fun e w' => e = .returned (.bool true) ∧ Fr (fun _ => False) w w' := by
  go_enter Tryz.func12, Tryz.ntmps12
  go_wp2
  go_ret
  exact ⟨rfl, (Fr.refl _ _).alloc _⟩

set_option maxRecDepth 100000 in
set_option maxHeartbeats 4000000 in
theorem same_fault (fb : Nat) (k p : Nat) (what : ByteArray) (w : World) (hk : Bad4 k) (hp : p ≤ 9223372036854775807) (hw : what.size ≤ 1000000) (ht : PowT w) (hE : ErrT w) (hc : FaultAt w fb k p what) :
    Calls Tryz.prog 12 #[faultV fb, .agg #[.int .i64 k, .int .i64 p, .string what]] w fun e w' => e = .returned (.bool true) ∧ Fr (fun _ => False) w w' := by
  have hF : Fr (fun _ => False) w ((w.alloc (.cells #[.int .i64 k, .int .i64 p, .string what] 31)).alloc (.cells #[.pointer none] 96)) := ((Fr.refl _ _).alloc _).alloc _
  have hB : Bk ((w.alloc (.cells #[.int .i64 k, .int .i64 p, .string what] 31)).alloc (.cells #[.pointer none] 96)) w.heap.size 31 #[.int .i64 k, .int .i64 p, .string what] := (Bk.new w _ _).alloc _
  have hT : Bk ((w.alloc (.cells #[.int .i64 k, .int .i64 p, .string what] 31)).alloc (.cells #[.pointer none] 96)) (w.heap.size + 1) 96 #[.pointer none] := by
    have := Bk.new (w.alloc (.cells #[.int .i64 k, .int .i64 p, .string what] 31)) 96 #[.pointer none]
    simpa using this
  have hP := ht.fr hF (fun h => h)
  have hX := hE.fr hF (fun h => h)
  have hC : FaultAt _ fb k p what := Bk.fr hc hF (fun h => h)
  have hl1 : fb ≠ w.heap.size + 1 := by have := Bk.lt hc; omega
  have hl2 : 0 ≠ w.heap.size + 1 := by have : 0 < w.heap.size := World.block_lt_of_cell? w _ hE; omega
  have hl3 : 3 ≠ w.heap.size + 1 := by have := ht.lt; omega
  have hk0 : ((k : Int) == 0) = false := by rw [beq_eq_false_iff_ne]; rcases hk with h | h | h | h <;> omega
  have b1 : ((k : Int) == (k : Int)) = true := by simp
  have b2 : ((p : Int) == (p : Int)) = true := by simp
  have b3 : (what.toList == what.toList) = true := by simp
  have HT : Hid (faultText k what p = errText k ++ sIn ++ what ++ sAt ++ strOf (Lib.decDigits p)) := Lib.hid rfl
  have z1 := errText_size k
  have z2 : (strOf (Lib.decDigits p)).size ≤ 20 := by rw [strOf_size]; exact dec_len hp
  have C2 := Lib.hid (fun w (hc : w.cell? ⟨fb, 0, none⟩ = some (.int .i64 k)) => is_fault_same fb 0 k k b1 w hc)
  have C3 := Lib.hid (fun w (h0 : w.cell? ⟨fb, 0, none⟩ = some (.int .i64 k)) (h1 : w.cell? ⟨fb, 1, none⟩ = some (.int .i64 p)) (h2 : w.cell? ⟨fb, 2, none⟩ = some (.string what)) (ht : PowT w) => faultError_any fb k p what w hk hp hw ht h0 h1 h2)
  have C4 := Lib.hid (fun w => errno_any k w hk)
  have C5 := Lib.hid (fun w => decimal_any p w hp)
  generalize faultText k what p = txt at *
  generalize errText k = t1 at *
  generalize strOf (Lib.decDigits p) = t2 at *
  have s1 : ¬ 9223372036854775807 < t1.size + 4 := by omega
  have s2 : ¬ 9223372036854775807 < t1.size + 4 + what.size := by omega
  have s3 : ¬ 9223372036854775807 < t1.size + 4 + what.size + 4 := by omega
  have s4 : ¬ 9223372036854775807 < t1.size + 4 + what.size + 4 + t2.size := by omega
  clear z1 z2 hw hk hp hc hE ht
  unfold faultV at *
  go_enter Tryz.func12, Tryz.ntmps12
  go_wp2_with fail
  generalize (w.alloc (.cells #[.int .i64 k, .int .i64 p, .string what] 31)).alloc (.cells #[.pointer none] 96) = W at *
  generalize hgg : w.heap.size = g at *
  have HG := Lib.hid hgg
  clear hgg
  have C1 := Lib.hid (fun w2 (hf : Fr (fun x => x = g + 1) W w2) (h0 : w2.cell? ⟨g + 1, 0, none⟩ = some (.pointer none)) (h1 : w2.frozen? ⟨g + 1, 0, none⟩ = false) => as_fault ⟨g + 1, 0, none⟩ ⟨fb, 0, none⟩ (.pointer none) w2 (hX.fr hf hl2) h0 h1)
  have hq0 : W.cell? ⟨g + 1, 0, none⟩ = some (.pointer none) := hT.cell 0
  have hq1 : W.frozen? ⟨g + 1, 0, none⟩ = false := hT.frozen 0
  have mk : ∀ w', Fr (fun x => x = g + 1) W w' → w'.cell? ⟨g, 0, none⟩ = some (.int .i64 k) ∧ w'.cell? ⟨g, 1, none⟩ = some (.int .i64 p) ∧ w'.cell? ⟨g, 2, none⟩ = some (.string what) ∧ w'.cell? ⟨fb, 0, none⟩ = some (.int .i64 k) ∧ w'.cell? ⟨fb, 1, none⟩ = some (.int .i64 p) ∧ w'.cell? ⟨fb, 2, none⟩ = some (.string what) := fun w' hf => by
    have h1 := hB.fr hf (fun h => by have h' : g = g + 1 := h; omega)
    have h2 : FaultAt w' fb k p what := Bk.fr hC hf hl1
    exact ⟨h1.cell 0, h1.cell 1, h1.cell 2, h2.cell 0, h2.cell 1, h2.cell 2⟩
  have MK := @Lib.hid _ mk
  have HP := Lib.hid (fun w' (hf : Fr (fun x => x = g + 1) W w') => hP.fr hf hl3)
  clear mk hB hT hC hX hP
  unfold sIn sAt at *
  refine wp_region_any (by kernel_rfl) ?_
  refine wpAny_take (i := 0) (v := .iface 96 (.pointer (some ⟨fb, 0, none⟩))) rfl (by kernel_rfl) (by kernel_rfl) (by kernel_rfl) (fun _ _ _ h => h) (Or.inl ⟨by rfl, by intro w'; go_simp⟩) ?_
  try simp only [Act.put, List.setIfInBounds_toArray, List.set_cons_zero, List.set_cons_succ]
  refine wpAny_take (i := 1) (v := .bool true) rfl (by kernel_rfl) (by kernel_rfl) (by kernel_rfl) (fun _ _ _ h => h) (Or.inl ⟨by rfl, by intro w'; go_simp⟩) ?_
  try simp only [Act.put, List.setIfInBounds_toArray, List.set_cons_zero, List.set_cons_succ]
  refine wpAny_take (i := 2) (v := .bool true) rfl (by kernel_rfl) (by kernel_rfl) (by kernel_rfl) (fun _ _ _ h => h) (Or.inl ⟨by rfl, by intro w'; go_simp⟩) ?_
  try simp only [Act.put, List.setIfInBounds_toArray, List.set_cons_zero, List.set_cons_succ]
  refine wpAny_take (i := 3) (v := .iface 96 (.pointer (some ⟨fb, 0, none⟩))) rfl (by kernel_rfl) (by kernel_rfl) (by kernel_rfl) (fun _ _ _ h => h) (Or.inl ⟨by rfl, by intro w'; go_simp⟩) ?_
  try simp only [Act.put, List.setIfInBounds_toArray, List.set_cons_zero, List.set_cons_succ]
  refine wpAny_take (i := 4) (v := .iface 97 (.pointer (some ⟨g + 1, 0, none⟩))) rfl (by kernel_rfl) (by kernel_rfl) (by kernel_rfl) (fun _ _ _ h => h) (Or.inl ⟨by rfl, by intro w'; go_simp⟩) ?_
  try simp only [Act.put, List.setIfInBounds_toArray, List.set_cons_zero, List.set_cons_succ]
  refine wpAny_ready (rs := [5]) (by kernel_rfl) (by simp) ?_
  refine AllReady.cons rfl (fun K hK => ?_) AllReady.nil
  go_simp
  refine (C1.out _ (Fr.refl _ _).drew hq0 hq1).mono ?_; rintro e9 v1 ⟨rfl, hf1, hq⟩
  have hg1 : Fr (fun x => x = g + 1) W v1 := (Fr.refl (fun x => x = g + 1) W).drew.trans hf1 (fun _ _ h => h)
  go_simp
  refine hK _ _ ?_
  clear hK K
  try simp only [Act.put, List.setIfInBounds_toArray, List.set_cons_zero, List.set_cons_succ]
  refine wpAny_rest 6 (by kernel_rfl) rfl (by kernel_rfl) ?_
  obtain ⟨m0, m1, m2, m3, m4, m5⟩ := MK.out _ hg1
  have hP1 := HP.out _ hg1
  have k0 := cell_regrown m0
  have k1 := cell_regrown m1
  have k2 := cell_regrown m2
  have k3 := cell_regrown m3
  have k4 := cell_regrown m4
  have k5 := cell_regrown m5
  have k6 := cell_regrown hq
  have cS : ∀ d os, Calls Tryz.prog 32 #[.iface 96 (.pointer (some ⟨fb, 0, none⟩)), .iface 43 (.int .i64 k)] (Sort.grow (redrawn v1 d) os) fun e w'' => e = .returned (.bool true) ∧ ∃ p : Regrown, w'' = Sort.grow (redrawn v1 p.d) p.os := fun d os =>
    Calls.regrown_of ((C2.out _ (k3 d os)).mono fun _ _ ⟨h, k⟩ => ⟨h, k ▸ Below.refl _ _⟩)
  have cT : ∀ d os, Calls Tryz.prog 48 #[.pointer (some ⟨fb, 0, none⟩)] (Sort.grow (redrawn v1 d) os) fun e w'' => e = .returned (.string txt) ∧ ∃ p : Regrown, w'' = Sort.grow (redrawn v1 p.d) p.os := fun d os =>
    Calls.regrown_of ((C3.out _ (k3 d os) (k4 d os) (k5 d os) (hP1.fr (Fr.of_regrown v1 d os) (fun h => h))).mono fun _ _ ⟨h, k⟩ => ⟨h, k.below _ (Nat.le_refl _) (fun _ _ h => h)⟩)
  have cE : ∀ d os, Calls Tryz.prog 49 #[.int .i64 k] (Sort.grow (redrawn v1 d) os) fun e w'' => e = .returned (.string t1) ∧ ∃ p : Regrown, w'' = Sort.grow (redrawn v1 p.d) p.os := fun d os =>
    Calls.regrown_of ((C4.out _).mono fun _ _ ⟨h, k⟩ => ⟨h, k ▸ Below.refl _ _⟩)
  have cD : ∀ d os, Calls Tryz.prog 50 #[.int .i64 p] (Sort.grow (redrawn v1 d) os) fun e w'' => e = .returned (.string t2) ∧ ∃ p : Regrown, w'' = Sort.grow (redrawn v1 p.d) p.os := fun d os =>
    Calls.regrown_of ((C5.out _).mono fun _ _ ⟨h, k⟩ => ⟨h, k.below _ (Nat.le_refl _) (fun _ _ h => h)⟩)
  have b4 : (txt.toList == (t1 ++ ⟨#[32, 105, 110, 32]⟩ ++ what ++ ⟨#[32, 97, 116, 32]⟩ ++ t2).toList) = true := by rw [HT.out]; simp
  have hF1 : Fr (fun _ => False) w v1 := ((hF.mono (fun _ _ h => h.elim) : Fr (fun x => x = g + 1) w W).trans hg1 (fun _ _ h => h)).mono (fun x hx h => by have h' : x = g + 1 := h; have := HG.out; omega)
  clear MK HP m0 m1 m2 m3 m4 m5 hq hP1 C1 C2 C3 C4 C5 hq0 hq1 hf1 hg1
  repeat (quiet_step (first | exact cS _ _ | exact cT _ _ | exact cE _ _ | exact cD _ _))
  refine wpQuiet_nil ?_
  intro _ hw'
  obtain ⟨⟨dq, osq⟩, hw''⟩ := hw'
  subst hw''
  go_wp2
  go_ret
  exact ⟨rfl, hF1.trans (Fr.of_regrown v1 dq osq) (fun _ _ h => h)⟩
end Go.Proofs.YtieoeoonopcjbaaGreatDoor

/- A reader at its fault; the reference's end. -/
namespace Go.Proofs.YtieoeoonopcjbaaGreatDoor
open Go.RowKit

set_option maxRecDepth 100000 in
theorem rBetween_bad {w : World} {g : Nat} {A : Option Addr} {n c : Nat} {xs : List UInt8} {p er fat : Int} {what : ByteArray} (hr : Rdr w g A n c xs p er fat what) (he' : (er == 0) = false) (wh : ByteArray) (lo hi : Int) :
    Calls Tryz.prog 69 #[.pointer (some ⟨g, 0, none⟩), .string wh, .int .i64 lo, .int .i64 hi] w fun e w' => e = .returned (.int .i64 0) ∧ Fr (fun _ => False) w w' := by
  have hmf : ∀ (fn : Fn) (first cap : Array Value) (w : World), (Instr.makeFunc fn first cap).run Tryz.prog w = .ok (.func fn first cap) w := fun _ _ _ _ => rfl
  have hf0 : Fr (fun _ => False) w (((w.alloc (.cells #[.pointer (some ⟨g, 0, none⟩)] 78)).alloc (.cells #[.int .i64 lo] 3)).alloc (.cells #[.int .i64 hi] 3)) := (((Fr.refl _ _).alloc _).alloc _).alloc _
  go_enter Tryz.func69, Tryz.ntmps69
  go_wp2_with (go_at_call 124; refine (tryInt_bad (hr.quiet hf0) he' wh _).mono ?_; rintro e w1 ⟨rfl, h1⟩)
  go_ret
  exact ⟨rfl, hf0.trans h1 (fun _ _ h => h)⟩
set_option maxRecDepth 100000 in
theorem rBytes_bad {w : World} {g : Nat} {A : Option Addr} {n c : Nat} {xs : List UInt8} {p er fat : Int} {what : ByteArray} (hr : Rdr w g A n c xs p er fat what) (he' : (er == 0) = false) (wh : ByteArray) (most : Int) :
    Calls Tryz.prog 70 #[.pointer (some ⟨g, 0, none⟩), .string wh, .int .i64 most] w fun e w' => e = .returned (.slice none 0 0) ∧ Fr (fun _ => False) w w' := by
  have hmf : ∀ (fn : Fn) (first cap : Array Value) (w : World), (Instr.makeFunc fn first cap).run Tryz.prog w = .ok (.func fn first cap) w := fun _ _ _ _ => rfl
  have hf0 : Fr (fun _ => False) w ((w.alloc (.cells #[.pointer (some ⟨g, 0, none⟩)] 78)).alloc (.cells #[.int .i64 most] 3)) := ((Fr.refl _ _).alloc _).alloc _
  go_enter Tryz.func70, Tryz.ntmps70
  go_wp2_with (go_at_call 127; refine (tryB_bad (hr.quiet hf0) he' wh _).mono ?_; rintro e w1 ⟨rfl, h1⟩)
  go_ret
  exact ⟨rfl, hf0.trans h1 (fun _ _ h => h)⟩

/-- The reference's reader, told its end at a fault. -/
theorem refEnd_bad {w : World} {g : Nat} {A : Option Addr} {n c : Nat} {xs : List UInt8} {p er a : Int} {what : ByteArray} (h : RR w g A n c xs p er a what) (he : (er == 0) = false) :
    Calls Tryz.prog 41 #[.pointer (some ⟨g, 0, none⟩)] w fun e w' => e = .returned (.agg #[.int .i64 er, .int .i64 a, .string what]) ∧ Fr (fun _ => False) w w' := by
  have c2 : w.cell? ⟨g, 2, none⟩ = some (.int .i64 er) := h.bk.cell 2
  have c3 : w.cell? ⟨g, 3, none⟩ = some (.int .i64 a) := h.bk.cell 3
  have c4 : w.cell? ⟨g, 4, none⟩ = some (.string what) := h.bk.cell 4
  have hlt := h.bk.lt
  go_enter Tryz.func41, Tryz.ntmps41
  go_wp2
  go_quiet (fail)
  go_wp2
  refine bodyPost_ret (v := .agg #[.int .i64 er, .int .i64 a, .string what]) (by simp [results, Tryz.results41, go_sem]) rfl ⟨rfl, ?_⟩
  exact (((((Fr.refl _ _).alloc _).drewN _).setCell (fun h => absurd h (Nat.lt_irrefl _)) _).setCell (fun h => absurd h (Nat.lt_irrefl _)) _).setCell (fun h => absurd h (Nat.lt_irrefl _)) _
theorem refEnd_over {w : World} {g : Nat} {A : Option Addr} {n c : Nat} {xs : List UInt8} {a : Int} {what : ByteArray} (h : RR w g A n c xs n 0 a what) :
    Calls Tryz.prog 41 #[.pointer (some ⟨g, 0, none⟩)] w fun e w' => e = .returned (.agg #[.int .i64 0, .int .i64 a, .string what]) ∧ Fr (fun _ => False) w w' := by
  have c0 : w.cell? ⟨g, 0, none⟩ = some (.slice A n c) := h.bk.cell 0
  have c1 : w.cell? ⟨g, 1, none⟩ = some (.int .i64 n) := h.bk.cell 1
  have c2 : w.cell? ⟨g, 2, none⟩ = some (.int .i64 0) := h.bk.cell 2
  have c3 : w.cell? ⟨g, 3, none⟩ = some (.int .i64 a) := h.bk.cell 3
  have c4 : w.cell? ⟨g, 4, none⟩ = some (.string what) := h.bk.cell 4
  have hlt := h.bk.lt
  have hb : decide ((n : Int) < (n : Int)) = false := by simp
  go_enter Tryz.func41, Tryz.ntmps41
  go_wp2
  go_quiet (fail)
  go_wp2
  refine bodyPost_ret (v := .agg #[.int .i64 0, .int .i64 a, .string what]) (by simp [results, Tryz.results41, go_sem]) rfl ⟨rfl, ?_⟩
  exact (((((Fr.refl _ _).alloc _).drewN _).setCell (fun h => absurd h (Nat.lt_irrefl _)) _).setCell (fun h => absurd h (Nat.lt_irrefl _)) _).setCell (fun h => absurd h (Nat.lt_irrefl _)) _
theorem refEnd_left {w : World} {g : Nat} {A : Option Addr} {n c : Nat} {xs : List UInt8} {k : Nat} {a : Int} {what : ByteArray} (h : RR w g A n c xs k 0 a what) (hk : k < n) :
    Calls Tryz.prog 41 #[.pointer (some ⟨g, 0, none⟩)] w fun e w' => e = .returned (.agg #[.int .i64 8, .int .i64 k, .string sEnd]) ∧ Fr (fun _ => False) w w' := by
  have c0 : w.cell? ⟨g, 0, none⟩ = some (.slice A n c) := h.bk.cell 0
  have c1 : w.cell? ⟨g, 1, none⟩ = some (.int .i64 k) := h.bk.cell 1
  have c2 : w.cell? ⟨g, 2, none⟩ = some (.int .i64 0) := h.bk.cell 2
  have hlt := h.bk.lt
  have hb : (k : Int) < (n : Int) := by omega
  go_enter Tryz.func41, Tryz.ntmps41
  go_wp2
  go_quiet (fail)
  go_wp2
  refine bodyPost_ret (v := .agg #[.int .i64 8, .int .i64 k, .string sEnd]) (by simp [results, Tryz.results41, go_sem, sEnd]) rfl ⟨rfl, ?_⟩
  exact (((((Fr.refl _ _).alloc _).drewN _).setCell (fun h => absurd h (Nat.lt_irrefl _)) _).setCell (fun h => absurd h (Nat.lt_irrefl _)) _).setCell (fun h => absurd h (Nat.lt_irrefl _)) _

/-- The reference's Int, wherever its reader stands. -/
theorem refInt_any {w : World} {g : Nat} {A : Option Addr} {n c : Nat} {xs : List UInt8} {s : St} (h : RRAt w g A n c xs s) (wh : ByteArray) :
    Calls Tryz.prog 112 #[.pointer (some ⟨g, 0, none⟩), .string wh] w fun e w' =>
      e = .returned (.int .i64 (stInt xs wh s).1) ∧ RRAt w' g A n c xs (stInt xs wh s).2 ∧ Fr (fun x => x = g) w w' := by
  cases s with
  | at_ k =>
    obtain ⟨hk, fat, what, hr⟩ := h
    exact refInt_at hr hk wh
  | bad er a w0 =>
    obtain ⟨he, p, hr⟩ := h
    exact (refInt_bad hr (by rw [beq_eq_false_iff_ne]; exact he) wh).mono fun e w' ⟨h1, h2⟩ => ⟨h1, h2 ▸ ⟨he, p, hr⟩, h2 ▸ Fr.refl _ _⟩

/-- Behind k reads: at a place no nearer than k, or at a fault. -/
def Along (n k : Nat) : St → Prop
  | .at_ j => k ≤ j ∧ j ≤ n
  | .bad er a wh => (er = 7 ∨ er = 8) ∧ (∃ p : Nat, a = p ∧ p ≤ n) ∧ wh = ⟨#[105]⟩
theorem along_step {n k : Nat} {xs : List UInt8} {s : St} (hn : xs.length = n) (h : Along n k s) : Along n (k + 1) (stInt xs ⟨#[105]⟩ s).2 := by
  cases s with
  | at_ j =>
    obtain ⟨h1, h2⟩ := h
    cases hN : rdNum (xs.drop j) with
    | bad b =>
      simp only [stInt, hN]
      exact ⟨num_bad_or _ _ _ _ _ hN, ⟨j, rfl, h2⟩, rfl⟩
    | ok u m =>
      have := num_ok _ _ _ _ _ _ hN
      rw [List.length_drop] at this
      simp only [stInt, hN]
      exact ⟨by omega, by omega⟩
  | bad er a wh => exact h
theorem RdAt.fr {S : Nat → Prop} {w w' : World} {g : Nat} {A : Option Addr} {n c : Nat} {xs : List UInt8} {s : St} (h : RdAt w g A n c xs s) (hf : Fr S w w') (hg : ¬ S g) (hA : ∀ ad, A = some ad → 0 < n → ¬ S ad.block) : RdAt w' g A n c xs s := by
  cases s with
  | at_ k => exact ⟨h.1, h.2.imp fun _ h => h.imp fun _ h => h.fr hf hg hA⟩
  | bad er a wh => exact ⟨h.1, h.2.imp fun _ h => h.fr hf hg hA⟩
theorem RRAt.fr {S : Nat → Prop} {w w' : World} {g : Nat} {A : Option Addr} {n c : Nat} {xs : List UInt8} {s : St} (h : RRAt w g A n c xs s) (hf : Fr S w w') (hg : ¬ S g) (hA : ∀ ad, A = some ad → 0 < n → ¬ S ad.block) : RRAt w' g A n c xs s := by
  cases s with
  | at_ k => exact ⟨h.1, h.2.imp fun _ h => h.imp fun _ h => h.fr hf hg hA⟩
  | bad er a wh => exact ⟨h.1, h.2.imp fun _ h => h.fr hf hg hA⟩
/-- A reader's bytes lie in a block that there is. -/
theorem RdAt.src {w : World} {g : Nat} {A : Option Addr} {n c : Nat} {xs : List UInt8} {s : St} (h : RdAt w g A n c xs s) : ∀ ad, A = some ad → 0 < n → ad.block < w.heap.size := by
  have go : Rd8 w A xs → xs.length = n → ∀ ad, A = some ad → 0 < n → ad.block < w.heap.size := fun hr hn ad ha h0 => by
    obtain ⟨ad', e, _, hc⟩ := hr (by omega)
    rw [ha] at e
    injection e with e
    subst e
    exact World.block_lt_of_cell? w ⟨ad.block, ad.off + 0, none⟩ (hc 0 (by omega))
  cases s with
  | at_ k => obtain ⟨_, _, _, h⟩ := h; exact go h.rd h.len
  | bad er a wh => obtain ⟨_, _, h⟩ := h; exact go h.rd h.len
end Go.Proofs.YtieoeoonopcjbaaGreatDoor

/- The reference's Between and Bytes. -/
namespace Go.Proofs.YtieoeoonopcjbaaGreatDoor
open Go.RowKit

theorem srW (xs : List UInt8) (wh : ByteArray) (lo hi : Int) (k : Nat) : stBetween xs wh lo hi (.at_ k) = match (srWithin xs k lo hi).1 with | .bad b => (0, .bad b k wh) | .ok k' => ((srWithin xs k lo hi).2, .at_ k') := rfl

set_option maxRecDepth 100000 in
set_option maxHeartbeats 2000000 in
theorem refBetween_any {w : World} {g : Nat} {A : Option Addr} {n c : Nat} {xs : List UInt8} {s : St} (h : RRAt w g A n c xs s) (hn : n ≤ 140737488355328) (wh : ByteArray) (lo hi : Int) :
    Calls Tryz.prog 39 #[.pointer (some ⟨g, 0, none⟩), .string wh, .int .i64 lo, .int .i64 hi] w fun e w' =>
      e = .returned (.int .i64 (stBetween xs wh lo hi s).1) ∧ RRAt w' g A n c xs (stBetween xs wh lo hi s).2 ∧ Fr (fun x => x = g) w w' := by
  have CI := Lib.hid (refInt_any h wh)
  cases s with
  | bad er a w0 =>
    obtain ⟨he, p, hr⟩ := h
    have c1 : w.cell? ⟨g, 1, none⟩ = some (.int .i64 p) := hr.bk.cell 1
    have he1 : (er == 0) = false := by rw [beq_eq_false_iff_ne]; exact he
    have he2 : (er != 0) = true := by rw [bne, he1]; rfl
    go_enter Tryz.func39, Tryz.ntmps39
    go_wp2_with fail
    refine (refInt_bad hr he1 wh).mono ?_; rintro e w1 ⟨rfl, rfl⟩
    have c2 : w.cell? ⟨g, 2, none⟩ = some (.int .i64 er) := hr.bk.cell 2
    go_wp2
    go_ret
    exact ⟨rfl, ⟨he, p, hr⟩, Fr.refl _ _⟩
  | at_ k =>
    obtain ⟨hk, fat, what, hr⟩ := h
    have c1 : w.cell? ⟨g, 1, none⟩ = some (.int .i64 k) := hr.bk.cell 1
    cases hN : rdNum (xs.drop k) with
    | bad b =>
      have hb0 := num_bad hN
      have hs : stBetween xs wh lo hi (.at_ k) = (0, .bad b k wh) := by rw [srW]; simp [srWithin, hN]
      have hs2 : stInt xs wh (.at_ k) = (0, .bad b k wh) := by simp [stInt, hN]
      rw [hs]
      rw [hs2] at CI
      clear hs hs2 hN
      have he1 : (b == 0) = false := by rw [beq_eq_false_iff_ne]; exact hb0
      have he2 : (b != 0) = true := by rw [bne, he1]; rfl
      go_enter Tryz.func39, Tryz.ntmps39
      go_wp2_with fail
      refine CI.out.mono ?_
      rintro e w1 ⟨rfl, ⟨hq, p, h1⟩, hf1⟩
      have c2 : w1.cell? ⟨g, 2, none⟩ = some (.int .i64 b) := h1.bk.cell 2
      go_wp2
      go_ret
      exact ⟨rfl, ⟨hq, p, h1⟩, hf1⟩
    | ok u m =>
      have hs2 : stInt xs wh (.at_ k) = (unfN u, .at_ (k + m)) := by simp [stInt, hN]
      rw [hs2] at CI
      clear hs2
      by_cases h1 : unfN u < lo ∨ hi < unfN u
      · have hs : stBetween xs wh lo hi (.at_ k) = (0, .bad 8 k wh) := by rw [srW]; simp [srWithin, hN, h1]
        rw [hs]
        clear hs hN
        rcases h1 with h1 | h1
        · go_enter Tryz.func39, Tryz.ntmps39
          go_wp2_with fail
          refine CI.out.mono ?_
          rintro e w1 ⟨rfl, ⟨hq, fat1, what1, hr1⟩, hf1⟩
          have c2 : w1.cell? ⟨g, 2, none⟩ = some (.int .i64 0) := hr1.bk.cell 2
          go_wp2_with fail
          refine (rfail_any hr1 8 k wh).mono ?_; rintro e w2 ⟨rfl, hr2, hf2⟩
          have c3 : w2.cell? ⟨g, 2, none⟩ = some (.int .i64 8) := hr2.bk.cell 2
          go_wp2
          go_ret
          exact ⟨rfl, ⟨by decide, _, hr2⟩, hf1.trans hf2 (fun _ _ h => h)⟩
        · by_cases h0 : unfN u < lo
          · go_enter Tryz.func39, Tryz.ntmps39
            go_wp2_with fail
            refine CI.out.mono ?_
            rintro e w1 ⟨rfl, ⟨hq, fat1, what1, hr1⟩, hf1⟩
            have c2 : w1.cell? ⟨g, 2, none⟩ = some (.int .i64 0) := hr1.bk.cell 2
            go_wp2_with fail
            refine (rfail_any hr1 8 k wh).mono ?_; rintro e w2 ⟨rfl, hr2, hf2⟩
            have c3 : w2.cell? ⟨g, 2, none⟩ = some (.int .i64 8) := hr2.bk.cell 2
            go_wp2
            go_ret
            exact ⟨rfl, ⟨by decide, _, hr2⟩, hf1.trans hf2 (fun _ _ h => h)⟩
          · have h0' : lo ≤ unfN u := by omega
            go_enter Tryz.func39, Tryz.ntmps39
            go_wp2_with fail
            refine CI.out.mono ?_
            rintro e w1 ⟨rfl, ⟨hq, fat1, what1, hr1⟩, hf1⟩
            have c2 : w1.cell? ⟨g, 2, none⟩ = some (.int .i64 0) := hr1.bk.cell 2
            go_wp2_with fail
            refine (rfail_any hr1 8 k wh).mono ?_; rintro e w2 ⟨rfl, hr2, hf2⟩
            have c3 : w2.cell? ⟨g, 2, none⟩ = some (.int .i64 8) := hr2.bk.cell 2
            go_wp2
            go_ret
            exact ⟨rfl, ⟨by decide, _, hr2⟩, hf1.trans hf2 (fun _ _ h => h)⟩
      · have hs : stBetween xs wh lo hi (.at_ k) = (unfN u, .at_ (k + m)) := by rw [srW]; simp [srWithin, hN, h1]
        rw [hs]
        clear hs hN
        have h2 : lo ≤ unfN u := by omega
        have h3 : unfN u ≤ hi := by omega
        clear h1
        go_enter Tryz.func39, Tryz.ntmps39
        go_wp2_with fail
        refine CI.out.mono ?_
        rintro e w1 ⟨rfl, ⟨hq, fat1, what1, hr1⟩, hf1⟩
        have c2 : w1.cell? ⟨g, 2, none⟩ = some (.int .i64 0) := hr1.bk.cell 2
        go_wp2
        go_ret
        exact ⟨rfl, ⟨hq, fat1, what1, hr1⟩, hf1⟩
end Go.Proofs.YtieoeoonopcjbaaGreatDoor
