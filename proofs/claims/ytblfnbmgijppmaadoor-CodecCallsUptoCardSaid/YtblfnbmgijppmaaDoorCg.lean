/- The codec's reader: failed, next, number. -/
import Derived.Test.YtblfnbmgijppmaaDoorCf
namespace Go.Proofs.YtblfnbmgijppmaaDoor
open Go.RowKit

/-- A reader at block g: the bytes xs, the place at, the fault (er 0: none). -/
structure Rdr (w : World) (g : Nat) (A : Option Addr) (n c : Nat) (xs : List UInt8) (at_ er fat : Int) (what : ByteArray) : Prop where
  bk : Bk w g 63 #[.slice A n c, .int .i64 at_, .int .i64 er, .int .i64 fat, .string what]
  rd : Rd8 w A xs
  len : xs.length = n
  cap : n ≤ c
  big : n ≤ 140737488355328
  apart : ∀ ad, A = some ad → 0 < n → ad.block ≠ g
  spot : ∀ ad, A = some ad → 0 < n → ad.spot = none

section
variable {w w' : World} {g : Nat} {A : Option Addr} {n c : Nat} {xs : List UInt8} {at_ er fat : Int} {what : ByteArray}
theorem Rdr.fr {S : Nat → Prop} (h : Rdr w g A n c xs at_ er fat what) (hf : Fr S w w') (hg : ¬ S g) (hA : ∀ ad, A = some ad → 0 < n → ¬ S ad.block) : Rdr w' g A n c xs at_ er fat what :=
  { h with bk := h.bk.fr hf hg, rd := h.rd.fr hf (by rw [h.len]; exact hA) }
theorem Rdr.quiet (h : Rdr w g A n c xs at_ er fat what) (hf : Fr (fun _ => False) w w') : Rdr w' g A n c xs at_ er fat what := h.fr hf (fun h => h) (fun _ _ _ h => h)
theorem Rdr.set (h : Rdr w g A n c xs at_ er fat what) (x : Int) : Rdr (w.setCell ⟨g, 1, none⟩ (.int .i64 x)) g A n c xs x er fat what :=
  { h with bk := by simpa using h.bk.set 1 (.int .i64 x), rd := h.rd.fr (Fr.setCell (S := fun k => k = g) (p := ⟨g, 1, none⟩) (Fr.refl _ _) (fun _ => rfl) _) (fun ad ha h0 => h.apart ad ha (by rw [← h.len]; exact h0)) }
end

theorem fr_set {w : World} {g i : Nat} {v : Value} : Fr (fun k => k = g) w (w.setCell ⟨g, i, none⟩ v) := Fr.setCell (S := fun k => k = g) (p := ⟨g, i, none⟩) (Fr.refl _ _) (fun _ => rfl) _

set_option maxRecDepth 100000 in
set_option maxHeartbeats 1000000 in
theorem failed_any {w : World} {g : Nat} {A : Option Addr} {n c : Nat} {xs : List UInt8} {at_ er fat : Int} {what : ByteArray} (h : Rdr w g A n c xs at_ er fat what) (b : Bool) (hb : (er == 0) = b) :
    Calls Tryd.prog 42 #[.pointer (some ⟨g, 0, none⟩)] w fun e w' => e = .returned (.bool (!b)) ∧ w = w' := by
  have hc : w.cell? ⟨g, 2, none⟩ = some (.int .i64 er) := h.bk.cell 2
  cases b
  · go_enter Tryd.func42, Tryd.ntmps42
    go_wp2_with (go_at_call 31; refine (is_fault_other g 2 er 0 hb w hc).mono ?_; rintro e w' ⟨rfl, rfl⟩)
    go_ret
    exact ⟨rfl, rfl⟩
  · go_enter Tryd.func42, Tryd.ntmps42
    go_wp2_with (go_at_call 31; refine (is_fault_same g 2 er 0 hb w hc).mono ?_; rintro e w' ⟨rfl, rfl⟩)
    go_ret
    exact ⟨rfl, rfl⟩

/-- A panic with an Errno. -/
abbrev pan (k : Int) : Ending := .panicked [{ v := .iface 59 (.int .i64 k), recovered := false }]

set_option maxRecDepth 100000 in
set_option maxHeartbeats 1000000 in
theorem next_some {w : World} {g : Nat} {A : Option Addr} {n c : Nat} {xs : List UInt8} {er fat : Int} {what : ByteArray} (k : Nat) (h : Rdr w g A n c xs k er fat what) (hk : k < xs.length) :
    Calls Tryd.prog 59 #[.pointer (some ⟨g, 0, none⟩)] w fun e w' => e = .returned (.int .u8 (xs[k]'hk).toNat) ∧ Rdr w' g A n c xs (k + 1 : Nat) er fat what ∧ Fr (fun x => x = g) w w' := by
  have hl := h.len
  obtain ⟨ad, rfl, hsp, hc⟩ := h.rd (by omega)
  obtain ⟨b, o, sp⟩ := ad
  cases hsp
  have hx := hc k hk
  have h0 : w.cell? ⟨g, 0, none⟩ = some (.slice (some ⟨b, o, none⟩) n c) := h.bk.cell 0
  have h1 : w.cell? ⟨g, 1, none⟩ = some (.int .i64 k) := h.bk.cell 1
  have f1 : w.frozen? ⟨g, 1, none⟩ = false := h.bk.frozen 1
  have hcap := h.cap
  have hbig := h.big
  have hne : ((k : Int) == (n : Int)) = false := by rw [beq_eq_false_iff_ne]; omega
  have i1 : (k : Int) < n := by omega
  have i2 : k < n := by omega
  simp only at hx
  clear hc hl
  go_enter Tryd.func59, Tryd.ntmps59
  go_wp2_with fail
  go_quiet (fail)
  go_wp2_with fail
  go_quiet (fail)
  go_wp2
  go_ret
  have hq : ∀ m, Fr (fun _ => False) w (w.drewN m) := fun m => (Fr.refl _ _).drewN _
  exact ⟨rfl, by rw [Int.natCast_add]; exact (h.quiet (hq _)).set _, ((hq _).mono (fun _ _ h => h.elim)).trans fr_set (fun _ _ h => h)⟩

set_option maxRecDepth 100000 in
set_option maxHeartbeats 1000000 in
theorem next_none {w : World} {g : Nat} {A : Option Addr} {n c : Nat} {xs : List UInt8} {er fat : Int} {what : ByteArray} (h : Rdr w g A n c xs (n : Nat) er fat what) :
    Calls Tryd.prog 59 #[.pointer (some ⟨g, 0, none⟩)] w fun e w' => e = pan 7 ∧ Fr (fun x => False) w w' := by
  have h0 : w.cell? ⟨g, 0, none⟩ = some (.slice A n c) := h.bk.cell 0
  have h1 : w.cell? ⟨g, 1, none⟩ = some (.int .i64 n) := h.bk.cell 1
  go_enter Tryd.func59, Tryd.ntmps59
  go_wp2_with fail
  go_quiet (fail)
  go_wp2
  exact ⟨rfl, rfl, (Fr.refl _ _).drewN _⟩

/-- What reading a number comes to. -/
inductive NR where
  | bad (k : Int)
  | ok (u n : Nat)

/-- From byte i of a number on, acc being what stood before. -/
def num : Nat → Nat → Nat → List UInt8 → NR
  | 0, _, _, _ => .bad 8
  | _ + 1, _, _, [] => .bad 7
  | f + 1, i, acc, c :: l =>
    if 128 ≤ c.toNat then num f (i + 1) (acc + (c.toNat % 128) * 128 ^ i) l
    else if (0 < i ∧ c.toNat = 0) ∨ (i = 9 ∧ 1 < c.toNat) then .bad 8
    else .ok (acc + c.toNat * 128 ^ i) (i + 1)
/-- A number at the front of l. -/
def rdNum (l : List UInt8) : NR := num 10 0 0 l

/-- unfold: a number's integer. -/
def unfN (u : Nat) : Int := if u % 2 = 0 then (u / 2 : Nat) else - ((u / 2 : Nat) : Int) - 1
theorem unfN_foldN (a : Int) : unfN (foldN a) = a := by unfold unfN foldN; split <;> split <;> omega
theorem unfN_range (u : Nat) (h : u < 18446744073709551616) : -9223372036854775808 ≤ unfN u ∧ unfN u ≤ 9223372036854775807 := by unfold unfN; split <;> omega

theorem unf_val (u : Nat) (h : (u : Int) ≤ 18446744073709551615) : bits BinOp.xor IntKind.i64 ((u : Int) / 2) (wrap64 (-wrap64 (bits BinOp.and IntKind.u64 (u : Int) 1))) = unfN u := by
  have e1 : bits BinOp.and IntKind.u64 (u : Int) 1 = ((u % 2 : Nat) : Int) := by
    rw [show (1 : Int) = ((1 : Nat) : Int) from rfl, u64_and_nat _ _ (by omega) (by omega), nat_mask1]
  rw [e1]
  unfold unfN
  rcases Nat.mod_two_eq_zero_or_one u with h2 | h2
  · rw [if_pos h2, h2, show (u : Int) / 2 = ((u / 2 : Nat) : Int) by omega, show wrap64 (-wrap64 ((0 : Nat) : Int)) = 0 by unfold wrap64; rfl]
    show IntKind.i64.wrap ((BitVec.ofInt 64 ((u / 2 : Nat) : Int) ^^^ 0#64).toNat : Int) = _
    rw [BitVec.xor_zero, BitVec.toNat_ofInt, IntKind.wrap_i64]
    omega
  · rw [if_neg (by omega), h2, show (u : Int) / 2 = ((u / 2 : Nat) : Int) by omega, show wrap64 (-wrap64 ((1 : Nat) : Int)) = -1 by unfold wrap64; rfl]
    show IntKind.i64.wrap ((BitVec.ofInt 64 ((u / 2 : Nat) : Int) ^^^ BitVec.allOnes 64).toNat : Int) = _
    rw [BitVec.xor_allOnes, BitVec.toNat_not, BitVec.toNat_ofInt, IntKind.wrap_i64]
    omega

set_option maxRecDepth 100000 in
set_option maxHeartbeats 1000000 in
theorem unfold_any (u : Nat) (h : (u : Int) ≤ 18446744073709551615) (w : World) :
    Calls Tryd.prog 60 #[.int .u64 u] w fun e w' => e = .returned (.int .i64 (unfN u)) ∧ w = w' := by
  go_enter Tryd.func60, Tryd.ntmps60
  have hv := unf_val u h
  go_wp2
  go_ret
  exact ⟨rfl, rfl⟩

theorem shl_val (acc x j : Nat) (hx : x < 2 ^ 8) (hj : j ≤ 9) (ha : acc < 128 ^ j) (hs : j ≤ 8 ∨ x % 128 ≤ 1) :
    bits BinOp.or IntKind.u64 (acc : Int) (IntKind.u64.wrap (IntKind.u64.wrap (bits BinOp.and IntKind.u8 (x : Int) 127) * 2 ^ (7 * j))) = ((acc + x % 128 * 128 ^ j : Nat) : Int) := by
  have e128 : 128 ^ j = 2 ^ (7 * j) := by rw [Nat.pow_mul]
  have hlim : x % 128 * 2 ^ (7 * j) < 18446744073709551616 := by
    rw [← e128]
    rcases Nat.lt_or_ge j 9 with h | h
    · have h1 : 128 ^ j ≤ 128 ^ 8 := Nat.pow_le_pow_right (by omega) (by omega)
      have h2 : x % 128 * 128 ^ j ≤ 127 * 128 ^ 8 := Nat.mul_le_mul (by omega) h1
      omega
    · have : j = 9 := by omega
      subst this
      have h2 : x % 128 * 128 ^ 9 ≤ 1 * 128 ^ 9 := Nat.mul_le_mul_right _ (by omega)
      omega
  have hacc : acc < 18446744073709551616 := by
    have h1 : 128 ^ j ≤ 128 ^ 9 := Nat.pow_le_pow_right (by omega) hj
    omega
  have e1 : bits BinOp.and IntKind.u8 (x : Int) 127 = ((x % 128 : Nat) : Int) := by
    rw [show (127 : Int) = ((127 : Nat) : Int) from rfl, u8_and_nat _ _ (by omega) (by omega), nat_mask7]
  rw [e1, show IntKind.u64.wrap ((x % 128 : Nat) : Int) = ((x % 128 : Nat) : Int) from IntWalk.u64_in _ (by omega)]
  have e2 : ((x % 128 : Nat) : Int) * 2 ^ (7 * j) = ((x % 128 * 2 ^ (7 * j) : Nat) : Int) := by rw [Int.natCast_mul, Int.natCast_pow]; rfl
  rw [e2, show IntKind.u64.wrap ((x % 128 * 2 ^ (7 * j) : Nat) : Int) = ((x % 128 * 2 ^ (7 * j) : Nat) : Int) from IntWalk.u64_in _ (by omega), u64_or_nat _ _ hacc hlim, e128, Nat.or_comm, nat_join (7 * j) _ _ (Nat.mul_mod_left _ _) (by rw [← e128]; exact ha), Nat.add_comm]

theorem acc_lim (acc x j : Nat) (hj : j ≤ 9) (ha : acc < 128 ^ j) (hs : j ≤ 8 ∨ x % 128 ≤ 1) : acc + x % 128 * 128 ^ j < 18446744073709551616 := by
  rcases Nat.lt_or_ge j 9 with h | h
  · have h1 : 128 ^ j ≤ 128 ^ 8 := Nat.pow_le_pow_right (by omega) (by omega)
    have h2 : x % 128 * 128 ^ j ≤ 127 * 128 ^ 8 := Nat.mul_le_mul (by omega) h1
    omega
  · have : j = 9 := by omega
    subst this
    have h2 : x % 128 * 128 ^ 9 ≤ 1 * 128 ^ 9 := Nat.mul_le_mul_right _ (by omega)
    omega
theorem acc_next (acc x j : Nat) (ha : acc < 128 ^ j) : acc + x % 128 * 128 ^ j < 128 ^ (j + 1) := by
  have h : x % 128 * 128 ^ j ≤ 127 * 128 ^ j := Nat.mul_le_mul_right _ (by omega)
  rw [Nat.pow_succ]; omega
/-- Behind a number is read at k. -/
def NumPost (w : World) (g : Nat) (A : Option Addr) (n c : Nat) (xs : List UInt8) (k : Nat) (er fat : Int) (what : ByteArray) (r : NR) (e : Ending) (w' : World) : Prop :=
  match r with
  | .bad b => e = pan b ∧ (∃ at_, Rdr w' g A n c xs at_ er fat what) ∧ Fr (fun x => x = g) w w'
  | .ok u m => e = .returned (.int .i64 (unfN u)) ∧ k + m ≤ n ∧ Rdr w' g A n c xs (k + m : Nat) er fat what ∧ Fr (fun x => x = g) w w'

set_option maxRecDepth 100000 in
set_option maxHeartbeats 1000000 in
theorem number_any {w : World} {g : Nat} {A : Option Addr} {n c : Nat} {xs : List UInt8} {er fat : Int} {what : ByteArray} (k : Nat) (h : Rdr w g A n c xs k er fat what) (hk : k ≤ n) :
    Calls Tryd.prog 38 #[.pointer (some ⟨g, 0, none⟩)] w (NumPost w g A n c xs k er fat what (rdNum (xs.drop k))) := by
  generalize hR : rdNum (xs.drop k) = R
  go_enter Tryd.func38, Tryd.ntmps38
  have hl := h.len
  go_wp2_with fail
  go_loopw [3, 4, 5, 6] (fun u _ _ i wr => ∃ (j acc : Nat), (j : Int) ≤ 10 ∧ k + j ≤ n ∧ i = .int .i64 j ∧ ((j : Int) ≤ 9 → u = .int .u64 acc ∧ acc < 128 ^ j) ∧ Rdr wr g A n c xs (k + j : Nat) er fat what ∧ Fr (fun x => x = g) w wr ∧
    num (10 - j) j acc (xs.drop (k + j)) = R) (fun _ _ _ i _ => 10 - (intOf i).toNat)
  case atStart => exact ⟨0, 0, by omega, by omega, rfl, fun _ => ⟨rfl, by decide⟩, h, Fr.refl _ _, hR⟩
  case round =>
    obtain ⟨j, acc, hj, hkj, rfl, hu, hr, hf, hnum⟩ := hrel
    clear hR
    by_cases hj10 : (10 : Int) ≤ j
    · rw [show 10 - j = 0 by omega] at hnum
      have HN := Lib.hid hnum
      clear hu hnum
      go_wp2
      have e := HN.out
      subst e
      exact ⟨rfl, rfl, ⟨_, hr⟩, hf⟩
    · obtain ⟨rfl, hacc⟩ := hu (by omega)
      clear hu
      have hA := Lib.hid hacc
      clear hacc
      rw [show 10 - j = (9 - j) + 1 by omega] at hnum
      by_cases hn : k + j = n
      · rw [List.drop_of_length_le (show xs.length ≤ k + j by omega)] at hnum
        have HN := Lib.hid hnum
        clear hnum
        go_wp2_with fail
        rw [hn] at hr
        refine (next_none hr).mono ?_; rintro e w1 ⟨rfl, hf1⟩
        have e := HN.out
        subst e
        exact ⟨rfl, rfl, ⟨_, hr.quiet hf1⟩, hf.trans hf1 (fun _ _ h => h.elim)⟩
      · have hlt : k + j < xs.length := by omega
        have hj9 : (j : Int) ≤ 9 := by omega
        clear hj
        rw [List.drop_eq_getElem_cons hlt] at hnum
        unfold num at hnum
        go_wp2_with fail
        refine (next_some (k + j) hr hlt).mono ?_; rintro e w1 ⟨rfl, hr1, hf1⟩
        have hb := (xs[k + j]'hlt).toNat_lt
        generalize hx : (xs[k + j]'hlt).toNat = x at *
        clear hx
        have hf2 := hf.trans hf1 (fun _ _ h => h)
        by_cases h128 : 128 ≤ x
        · rw [if_pos h128] at hnum
          have HN := Lib.hid hnum
          clear hnum
          go_wp2
          go_roundw
          case rel =>
            refine ⟨j + 1, acc + x % 128 * 128 ^ j, by omega, by omega, by go_num, fun h9 => ?_, hr1, hf2, ?_⟩
            · exact ⟨by rw [shl_val acc x j hb (by omega) hA.out (by omega)], acc_next acc x j hA.out⟩
            · have e := HN.out
              rw [show 9 - j = 10 - (j + 1) by omega] at e
              exact e
          case measure => simp [intOf]; omega
        · rw [if_neg h128] at hnum
          by_cases hbad : (0 < j ∧ x = 0) ∨ (j = 9 ∧ 1 < x)
          · rw [if_pos hbad] at hnum
            have HN := Lib.hid hnum
            clear hnum
            rcases hbad with ⟨hj0, hx0⟩ | ⟨hj9', hx1⟩
            · subst hx0
              have t1 : (0 : Int) < j := by omega
              go_wp2
              have e := HN.out
              subst e
              exact ⟨rfl, rfl, ⟨_, hr1⟩, hf2⟩
            · subst hj9'
              have t2 : (1 : Int) < x := by omega
              have t3 : ((x : Int) == 0) = false := by rw [beq_eq_false_iff_ne]; omega
              go_wp2
              have e := HN.out
              subst e
              exact ⟨rfl, rfl, ⟨_, hr1⟩, hf2⟩
          · rw [if_neg hbad] at hnum
            obtain ⟨v, hv, hvl, hve⟩ : ∃ v : Nat, bits BinOp.or IntKind.u64 (acc : Int) (IntKind.u64.wrap (IntKind.u64.wrap (bits BinOp.and IntKind.u8 (x : Int) 127) * 2 ^ (7 * j))) = (v : Int) ∧ (v : Int) ≤ 18446744073709551615 ∧ acc + x * 128 ^ j = v := by
              refine ⟨_, shl_val acc x j hb (by omega) hA.out (by omega), ?_, by rw [Nat.mod_eq_of_lt (by omega)]⟩
              have h1 := acc_lim acc x j (by omega) hA.out (by omega)
              omega
            rw [hve] at hnum
            have HN := Lib.hid hnum
            clear hnum hve hA
            by_cases hj0 : j = 0
            · have t1 : ¬ (0 : Int) < j := by omega
              have t2 : ((j : Int) == 9) = false := by rw [beq_eq_false_iff_ne]; omega
              clear hj0
              go_wp2_with (go_at_call 60; refine (unfold_any v hvl _).mono ?_; rintro e _ ⟨rfl, rfl⟩)
              go_ret
              have e := HN.out
              subst e
              exact ⟨rfl, by omega, hr1, hf2⟩
            · have t1 : (0 : Int) < j := by omega
              have t3 : ((x : Int) == 0) = false := by rw [beq_eq_false_iff_ne]; omega
              by_cases hj9' : j = 9
              · have t2 : ((j : Int) == 9) = true := by rw [beq_iff_eq]; omega
                have t4 : ¬ (1 : Int) < x := by omega
                clear hj0 hj9' hbad
                go_wp2_with (go_at_call 60; refine (unfold_any v hvl _).mono ?_; rintro e _ ⟨rfl, rfl⟩)
                go_ret
                have e := HN.out
                subst e
                exact ⟨rfl, by omega, hr1, hf2⟩
              · have t2 : ((j : Int) == 9) = false := by rw [beq_eq_false_iff_ne]; omega
                clear hj0 hj9' hbad
                go_wp2_with (go_at_call 60; refine (unfold_any v hvl _).mono ?_; rintro e _ ⟨rfl, rfl⟩)
                go_ret
                have e := HN.out
                subst e
                exact ⟨rfl, by omega, hr1, hf2⟩
end Go.Proofs.YtblfnbmgijppmaaDoor
