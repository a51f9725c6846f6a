/- The reference's reader: Int. -/
import Derived.Test.YtblfnbmgijppmaaDoorEa
import Derived.IntWalk
namespace Go.Proofs.YtblfnbmgijppmaaDoor
open Go.RowKit

set_option maxRecDepth 100000 in
set_option maxHeartbeats 4000000 in
theorem refInt_bad {w : World} {g : Nat} {A : Option Addr} {n c : Nat} {xs : List UInt8} {p er fat : Int} {what : ByteArray} (h : RR w g A n c xs p er fat what) (he : (er == 0) = false) (wh : ByteArray) :
    Calls Tryd.prog 24 #[.pointer (some ⟨g, 0, none⟩), .string wh] w fun e w' => e = .returned (.int .i64 0) ∧ w = w' := by
  have c2 : w.cell? ⟨g, 2, none⟩ = some (.int .i64 er) := h.bk.cell 2
  have he' : (er != 0) = true := by simp [bne, he]
  go_enter Tryd.func24, Tryd.ntmps24
  go_wp2
  go_ret
  exact ⟨rfl, rfl⟩

theorem val_lim (xs : List UInt8) (k j : Nat) (hk : k + j < xs.length) (hx : (xs[k + j]'hk).toNat ≤ 1 ∨ j ≤ 8) (hj : j ≤ 9) (p : Nat) (hp : p ≤ j) : (val ((xs.drop (k + p)).take (j + 1 - p)) : Int) ≤ 18446744073709551615 := by
  rcases hx with hx | hx
  · rw [show j + 1 - p = (j - p) + 1 by omega, List.take_succ_eq_append_getElem (by simp; omega), val_snoc]
    simp only [List.getElem_drop, List.length_take, List.length_drop]
    have h1 := val_lt ((xs.drop (k + p)).take (j - p))
    simp only [List.length_take, List.length_drop] at h1
    rw [Nat.min_eq_left (by omega)] at h1 ⊢
    have h2 : 128 ^ (j - p) ≤ 128 ^ 9 := Nat.pow_le_pow_right (by omega) (by omega)
    have h3 : (xs[k + p + (j - p)]'(by omega)).toNat % 128 * 128 ^ (j - p) ≤ 1 * 128 ^ (j - p) := Nat.mul_le_mul_right _ (by
      have e : k + p + (j - p) = k + j := by omega
      simp only [e]
      omega)
    omega
  · have h1 := val_lt ((xs.drop (k + p)).take (j + 1 - p))
    have h2 : 128 ^ ((xs.drop (k + p)).take (j + 1 - p)).length ≤ 128 ^ 9 := Nat.pow_le_pow_right (by omega) (by simp; omega)
    omega

set_option maxRecDepth 100000 in
set_option maxHeartbeats 4000000 in
theorem refInt_at {w : World} {g : Nat} {A : Option Addr} {n c : Nat} {xs : List UInt8} {k : Nat} {fat : Int} {what : ByteArray} (h : RR w g A n c xs k 0 fat what) (hk : k ≤ n) (wh : ByteArray) :
    Calls Tryd.prog 24 #[.pointer (some ⟨g, 0, none⟩), .string wh] w fun e w' =>
      e = .returned (.int .i64 (stInt xs wh (.at_ k)).1) ∧ RRAt w' g A n c xs (stInt xs wh (.at_ k)).2 ∧ Fr (fun x => x = g) w w' := by
  have c0 : w.cell? ⟨g, 0, none⟩ = some (.slice A n c) := h.bk.cell 0
  have c1 : w.cell? ⟨g, 1, none⟩ = some (.int .i64 k) := h.bk.cell 1
  have c2 : w.cell? ⟨g, 2, none⟩ = some (.int .i64 0) := h.bk.cell 2
  have hbig := h.big
  have hl := h.len
  generalize hS : stInt xs wh (.at_ k) = S
  have HS := Lib.hid hS
  clear hS
  go_enter Tryd.func24, Tryd.ntmps24
  go_wp2
  go_loopw [5] (fun i wr => ∃ j : Nat, (j : Int) ≤ 10 ∧ k + j ≤ n ∧ i = .int .i64 j ∧ RR wr g A n c xs k 0 fat what ∧ Fr (fun _ => False) w wr ∧ ∀ q, q < j → ∃ h' : k + q < xs.length, 128 ≤ (xs[k + q]'h').toNat) (fun i _ => 10 - (intOf i).toNat)
  case atStart => exact ⟨0, by omega, by omega, rfl, h, Fr.refl _ _, fun q h => by omega⟩
  case round =>
    clear h c0 c1 c2
    obtain ⟨j, hj, hkj, rfl, h, hfr, hlead⟩ := hrel
    have c0 : wr.cell? ⟨g, 0, none⟩ = some (.slice A n c) := h.bk.cell 0
    have c1 : wr.cell? ⟨g, 1, none⟩ = some (.int .i64 k) := h.bk.cell 1
    have c2 : wr.cell? ⟨g, 2, none⟩ = some (.int .i64 0) := h.bk.cell 2
    have HLEAD := Lib.hid hlead
    clear hlead
    have i0 : (0 : Int) ≤ (k : Int) + j := by omega
    by_cases h1 : (k : Int) + j < n
    · obtain ⟨ad, rfl, hsp, hc⟩ := h.rd (by omega)
      obtain ⟨b, o, sp⟩ := ad
      cases hsp
      have hcell := hc (k + j) (by omega)
      simp only at hcell
      have hx256 := (xs[k + j]'(by omega)).toNat_lt
      generalize hxv : (xs[k + j]'(by omega)).toNat = x at *
      have HX := Lib.hid hxv
      clear hxv hc
      by_cases h2 : (j : Int) < 10
      · by_cases h3 : (128 : Int) ≤ x
        · go_wp2_with fail
          go_quiet (fail)
          go_wp2
          go_roundw
          case rel =>
            refine ⟨j + 1, by omega, by omega, by go_num, h.quiet ((Fr.refl _ _).drewN _), hfr.drewN _, fun q hq => ?_⟩
            by_cases hqj : q < j
            · exact HLEAD.out q hqj
            · obtain rfl : q = j := by omega
              exact ⟨by omega, by rw [HX.out]; omega⟩
          case measure => simp [intOf]; omega
        · have hjb : ((j : Int) == 10) = false := by rw [beq_eq_false_iff_ne]; omega
          have hnb : ((k : Int) + j == n) = false := by rw [beq_eq_false_iff_ne]; omega
          go_wp2_with fail
          go_quiet (fail)
          go_wp2_with fail
          go_quiet (fail)
          go_wp2_with fail
          have hlast := rd_last (xs.drop k) j (by omega) (by simp; omega) (fun q hq => by obtain ⟨h1, h2⟩ := HLEAD.out q hq; exact ⟨by simp; omega, by simpa using h2⟩) (by simp only [List.getElem_drop]; rw [HX.out]; omega)
          simp only [List.getElem_drop] at hlast
          rw [HX.out] at hlast
          by_cases hbad : (0 < j ∧ x = 0) ∨ (j = 9 ∧ 1 < x)
          · rw [if_pos hbad] at hlast
            have HT := Lib.hid hlast
            clear hlast
            go_quiet (fail)
            rcases hbad with ⟨ha, rfl⟩ | ⟨rfl, hb⟩
            · have ha' : (0 : Int) < j := by omega
              go_wp2_with fail
              refine (rfail_any (h.quiet ((Fr.refl _ _).drewN _)) 8 k wh).mono ?_; rintro e w2 ⟨rfl, hr2, hf2⟩
              go_wp2
              go_ret
              have hSS : stInt xs wh (.at_ k) = (0, .bad 8 k wh) := by unfold stInt; simp only [HT.out]
              rw [← HS.out, hSS]
              exact ⟨rfl, ⟨by decide, _, hr2⟩, ((hfr.drewN _).mono (fun _ _ h => h.elim)).trans hf2 (fun _ _ h => h)⟩
            · have hb' : (1 : Int) < x := by omega
              have hx0 : ((x : Int) == 0) = false := by rw [beq_eq_false_iff_ne]; omega
              go_wp2_with fail
              refine (rfail_any (h.quiet ((Fr.refl _ _).drewN _)) 8 k wh).mono ?_; rintro e w2 ⟨rfl, hr2, hf2⟩
              go_wp2
              go_ret
              have hSS : stInt xs wh (.at_ k) = (0, .bad 8 k wh) := by unfold stInt; simp only [HT.out]
              rw [← HS.out, hSS]
              exact ⟨rfl, ⟨by decide, _, hr2⟩, ((hfr.drewN _).mono (fun _ _ h => h.elim)).trans hf2 (fun _ _ h => h)⟩
          · rw [if_neg hbad] at hlast
            have HT := Lib.hid hlast
            clear hlast
            go_quiet (fail)
            rcases Nat.eq_zero_or_pos j with hj0 | hj0
            · have hz : ¬ (0 : Int) < j := by omega
              have h9 : ((j : Int) == 9) = false := by rw [beq_eq_false_iff_ne]; omega
              go_wp2_with fail
              have HLIM := Lib.hid (val_lim xs k j (by omega) (by rw [HX.out]; omega) (by omega))
              obtain ⟨w0, hw0⟩ : ∃ w0, w0 = wr := ⟨_, rfl⟩
              subst hw0
              go_loopw [7, 8] (fun u i w3 => ∃ m : Nat, (m : Int) ≤ (j : Int) + 1 ∧ i = .int .i64 ((m : Int) - 1) ∧ u = .int .u64 (val ((xs.drop (k + m)).take (j + 1 - m)) : Nat) ∧ Fr (fun _ => False) w0 w3) (fun _ i _ => (intOf i + 1).toNat)
              case atStart => exact ⟨j + 1, by omega, by go_num, by simp [val], (Fr.refl _ _).drewN _⟩
              case round =>
                clear c0 c1 c2 hcell
                obtain ⟨m, hm, rfl, rfl, hf3⟩ := hrel
                have h3' := h.quiet hf3
                have c0 : wr.cell? ⟨g, 0, none⟩ = some (.slice (some ⟨b, o, none⟩) n c) := h3'.bk.cell 0
                have c1 : wr.cell? ⟨g, 1, none⟩ = some (.int .i64 k) := h3'.bk.cell 1
                rcases Nat.eq_zero_or_pos m with hm0 | hm0
                · subst hm0
                  have f1 : wr.frozen? ⟨g, 1, none⟩ = false := h3'.bk.frozen 1
                  simp only [Nat.add_zero, Nat.sub_zero]
                  have hu : (val ((xs.drop k).take (j + 1)) : Int) ≤ 18446744073709551615 := by have := HLIM.out 0 (by omega); simpa using this
                  generalize val ((xs.drop k).take (j + 1)) = u at *
                  have hro := unfN_range u (by omega)
                  have hSS : stInt xs wh (.at_ k) = (unfN u, .at_ (k + (j + 1))) := by unfold stInt; simp only [HT.out]
                  have hpost := (h3'.quiet ((Fr.refl (fun _ => False) wr).drewN 0)).set ((k : Int) + j + 1)
                  have hF9 : Fr (fun x => x = g) w (wr.setCell ⟨g, 1, none⟩ (.int .i64 ((k : Int) + j + 1))) := ((hfr.trans hf3 (fun _ _ h => h)).mono (fun _ _ h => h.elim)).trans fr_set (fun _ _ h => h)
                  have HPOST := Lib.hid hpost
                  have HSS := Lib.hid hSS
                  have HF9 := Lib.hid hF9
                  clear hpost hSS hF9 hro h h3' hf3 hfr
                  by_cases hu2 : u % 2 = 1
                  · have hub : ((u : Int) % 2 == 1) = true := by rw [beq_iff_eq]; omega
                    have hun : unfN u = - ((u / 2 : Nat) : Int) - 1 := by unfold unfN; rw [if_neg (by omega)]
                    have HUN := Lib.hid hun
                    clear hun
                    go_wp2_with fail
                    go_ret
                    rw [← HS.out, HSS.out]
                    rw [show (k : Int) + 1 = (k : Int) + j + 1 by omega]
                    refine ⟨by rw [HUN.out]; congr 2, ⟨by omega, fat, what, ?_⟩, HF9.out⟩
                    have e : ((k + (j + 1) : Nat) : Int) = (k : Int) + j + 1 := by omega
                    rw [e]
                    exact HPOST.out
                  · have hub : ((u : Int) % 2 == 1) = false := by rw [beq_eq_false_iff_ne]; omega
                    have hun : unfN u = ((u / 2 : Nat) : Int) := by unfold unfN; rw [if_pos (by omega)]
                    have HUN := Lib.hid hun
                    clear hun
                    go_wp2_with fail
                    go_ret
                    rw [← HS.out, HSS.out]
                    rw [show (k : Int) + 1 = (k : Int) + j + 1 by omega]
                    refine ⟨by rw [HUN.out]; congr 2, ⟨by omega, fat, what, ?_⟩, HF9.out⟩
                    have e : ((k + (j + 1) : Nat) : Int) = (k : Int) + j + 1 := by omega
                    rw [e]
                    exact HPOST.out
                · obtain ⟨ad, e, _, hc⟩ := h3'.rd (by omega)
                  injection e with e
                  subst e
                  have hcell := hc (k + (m - 1)) (by omega)
                  simp only at hcell
                  have hst : val ((xs.drop (k + (m - 1))).take (j + 1 - (m - 1))) = (xs[k + (m - 1)]'(by omega)).toNat % 128 + 128 * val ((xs.drop (k + m)).take (j + 1 - m)) := by
                    rw [List.drop_eq_getElem_cons (by omega : k + (m - 1) < xs.length), show j + 1 - (m - 1) = (j + 1 - m) + 1 by omega, List.take_succ_cons, val, show k + (m - 1) + 1 = k + m by omega]
                  have hlim : (val ((xs.drop (k + (m - 1))).take (j + 1 - (m - 1))) : Int) ≤ 18446744073709551615 := HLIM.out (m - 1) (by omega)
                  rw [hst] at hlim
                  have HST := Lib.hid hst
                  clear hst hc
                  have hy := (xs[k + (m - 1)]'(by omega)).toNat_lt
                  generalize (xs[k + (m - 1)]'(by omega)).toNat = y at *
                  generalize val ((xs.drop (k + m)).take (j + 1 - m)) = u at *
                  have s1 : IntKind.u64.wrap ((u : Int) * 128) = (u : Int) * 128 := by rw [IntKind.wrap_u64]; omega
                  have s2 : IntKind.i64.wrap ((k : Int) + ((m : Int) - 1)) = ((k + (m - 1) : Nat) : Int) := by rw [IntKind.wrap_i64]; omega
                  have s3 : IntKind.u64.wrap ((u : Int) * 128 + (y : Int) % 128) = (u : Int) * 128 + (y : Int) % 128 := by rw [IntKind.wrap_u64]; omega
                  have s4 : ((k + (m - 1) : Nat) : Int) < n := by omega
                  have s5 : (0 : Int) ≤ ((k + (m - 1) : Nat) : Int) := by omega
                  have s6 : (0 : Int) ≤ (m : Int) - 1 := by omega
                  go_wp2_with fail
                  go_quiet (fail)
                  clear s1 s2 s3 s4 s5 s6
                  go_wp2
                  go_roundw
                  case rel =>
                    refine ⟨m - 1, by omega, by go_num, ?_, hf3.drewN _⟩
                    rw [HST.out]
                    congr 1
                    omega
                  case measure => simp [intOf]; omega
            · have hz : (0 : Int) < j := by omega
              have hx0 : ((x : Int) == 0) = false := by rw [beq_eq_false_iff_ne]; omega
              by_cases hj9 : j = 9
              · have h9 : ((j : Int) == 9) = true := by rw [beq_iff_eq]; omega
                have hx1 : ¬ (1 : Int) < x := by omega
                go_wp2_with fail
                have HLIM := Lib.hid (val_lim xs k j (by omega) (by rw [HX.out]; omega) (by omega))
                obtain ⟨w0, hw0⟩ : ∃ w0, w0 = wr := ⟨_, rfl⟩
                subst hw0
                go_loopw [7, 8] (fun u i w3 => ∃ m : Nat, (m : Int) ≤ (j : Int) + 1 ∧ i = .int .i64 ((m : Int) - 1) ∧ u = .int .u64 (val ((xs.drop (k + m)).take (j + 1 - m)) : Nat) ∧ Fr (fun _ => False) w0 w3) (fun _ i _ => (intOf i + 1).toNat)
                case atStart => exact ⟨j + 1, by omega, by go_num, by simp [val], (Fr.refl _ _).drewN _⟩
                case round =>
                  clear c0 c1 c2 hcell
                  obtain ⟨m, hm, rfl, rfl, hf3⟩ := hrel
                  have h3' := h.quiet hf3
                  have c0 : wr.cell? ⟨g, 0, none⟩ = some (.slice (some ⟨b, o, none⟩) n c) := h3'.bk.cell 0
                  have c1 : wr.cell? ⟨g, 1, none⟩ = some (.int .i64 k) := h3'.bk.cell 1
                  rcases Nat.eq_zero_or_pos m with hm0 | hm0
                  · subst hm0
                    have f1 : wr.frozen? ⟨g, 1, none⟩ = false := h3'.bk.frozen 1
                    simp only [Nat.add_zero, Nat.sub_zero]
                    have hu : (val ((xs.drop k).take (j + 1)) : Int) ≤ 18446744073709551615 := by have := HLIM.out 0 (by omega); simpa using this
                    generalize val ((xs.drop k).take (j + 1)) = u at *
                    have hro := unfN_range u (by omega)
                    have hSS : stInt xs wh (.at_ k) = (unfN u, .at_ (k + (j + 1))) := by unfold stInt; simp only [HT.out]
                    have hpost := (h3'.quiet ((Fr.refl (fun _ => False) wr).drewN 0)).set ((k : Int) + j + 1)
                    have hF9 : Fr (fun x => x = g) w (wr.setCell ⟨g, 1, none⟩ (.int .i64 ((k : Int) + j + 1))) := ((hfr.trans hf3 (fun _ _ h => h)).mono (fun _ _ h => h.elim)).trans fr_set (fun _ _ h => h)
                    have HPOST := Lib.hid hpost
                    have HSS := Lib.hid hSS
                    have HF9 := Lib.hid hF9
                    clear hpost hSS hF9 hro h h3' hf3 hfr
                    by_cases hu2 : u % 2 = 1
                    · have hub : ((u : Int) % 2 == 1) = true := by rw [beq_iff_eq]; omega
                      have hun : unfN u = - ((u / 2 : Nat) : Int) - 1 := by unfold unfN; rw [if_neg (by omega)]
                      have HUN := Lib.hid hun
                      clear hun
                      go_wp2_with fail
                      go_ret
                      rw [← HS.out, HSS.out]
                      rw [show (k : Int) + 9 + 1 = (k : Int) + j + 1 by omega]
                      refine ⟨by rw [HUN.out]; congr 2, ⟨by omega, fat, what, ?_⟩, HF9.out⟩
                      have e : ((k + (j + 1) : Nat) : Int) = (k : Int) + j + 1 := by omega
                      rw [e]
                      exact HPOST.out
                    · have hub : ((u : Int) % 2 == 1) = false := by rw [beq_eq_false_iff_ne]; omega
                      have hun : unfN u = ((u / 2 : Nat) : Int) := by unfold unfN; rw [if_pos (by omega)]
                      have HUN := Lib.hid hun
                      clear hun
                      go_wp2_with fail
                      go_ret
                      rw [← HS.out, HSS.out]
                      rw [show (k : Int) + 9 + 1 = (k : Int) + j + 1 by omega]
                      refine ⟨by rw [HUN.out]; congr 2, ⟨by omega, fat, what, ?_⟩, HF9.out⟩
                      have e : ((k + (j + 1) : Nat) : Int) = (k : Int) + j + 1 := by omega
                      rw [e]
                      exact HPOST.out
                  · obtain ⟨ad, e, _, hc⟩ := h3'.rd (by omega)
                    injection e with e
                    subst e
                    have hcell := hc (k + (m - 1)) (by omega)
                    simp only at hcell
                    have hst : val ((xs.drop (k + (m - 1))).take (j + 1 - (m - 1))) = (xs[k + (m - 1)]'(by omega)).toNat % 128 + 128 * val ((xs.drop (k + m)).take (j + 1 - m)) := by
                      rw [List.drop_eq_getElem_cons (by omega : k + (m - 1) < xs.length), show j + 1 - (m - 1) = (j + 1 - m) + 1 by omega, List.take_succ_cons, val, show k + (m - 1) + 1 = k + m by omega]
                    have hlim : (val ((xs.drop (k + (m - 1))).take (j + 1 - (m - 1))) : Int) ≤ 18446744073709551615 := HLIM.out (m - 1) (by omega)
                    rw [hst] at hlim
                    have HST := Lib.hid hst
                    clear hst hc
                    have hy := (xs[k + (m - 1)]'(by omega)).toNat_lt
                    generalize (xs[k + (m - 1)]'(by omega)).toNat = y at *
                    generalize val ((xs.drop (k + m)).take (j + 1 - m)) = u at *
                    have s1 : IntKind.u64.wrap ((u : Int) * 128) = (u : Int) * 128 := by rw [IntKind.wrap_u64]; omega
                    have s2 : IntKind.i64.wrap ((k : Int) + ((m : Int) - 1)) = ((k + (m - 1) : Nat) : Int) := by rw [IntKind.wrap_i64]; omega
                    have s3 : IntKind.u64.wrap ((u : Int) * 128 + (y : Int) % 128) = (u : Int) * 128 + (y : Int) % 128 := by rw [IntKind.wrap_u64]; omega
                    have s4 : ((k + (m - 1) : Nat) : Int) < n := by omega
                    have s5 : (0 : Int) ≤ ((k + (m - 1) : Nat) : Int) := by omega
                    have s6 : (0 : Int) ≤ (m : Int) - 1 := by omega
                    go_wp2_with fail
                    go_quiet (fail)
                    clear s1 s2 s3 s4 s5 s6
                    go_wp2
                    go_roundw
                    case rel =>
                      refine ⟨m - 1, by omega, by go_num, ?_, hf3.drewN _⟩
                      rw [HST.out]
                      congr 1
                      omega
                    case measure => simp [intOf]; omega
              · have h9 : ((j : Int) == 9) = false := by rw [beq_eq_false_iff_ne]; omega
                go_wp2_with fail
                have HLIM := Lib.hid (val_lim xs k j (by omega) (by rw [HX.out]; omega) (by omega))
                obtain ⟨w0, hw0⟩ : ∃ w0, w0 = wr := ⟨_, rfl⟩
                subst hw0
                go_loopw [7, 8] (fun u i w3 => ∃ m : Nat, (m : Int) ≤ (j : Int) + 1 ∧ i = .int .i64 ((m : Int) - 1) ∧ u = .int .u64 (val ((xs.drop (k + m)).take (j + 1 - m)) : Nat) ∧ Fr (fun _ => False) w0 w3) (fun _ i _ => (intOf i + 1).toNat)
                case atStart => exact ⟨j + 1, by omega, by go_num, by simp [val], (Fr.refl _ _).drewN _⟩
                case round =>
                  clear c0 c1 c2 hcell
                  obtain ⟨m, hm, rfl, rfl, hf3⟩ := hrel
                  have h3' := h.quiet hf3
                  have c0 : wr.cell? ⟨g, 0, none⟩ = some (.slice (some ⟨b, o, none⟩) n c) := h3'.bk.cell 0
                  have c1 : wr.cell? ⟨g, 1, none⟩ = some (.int .i64 k) := h3'.bk.cell 1
                  rcases Nat.eq_zero_or_pos m with hm0 | hm0
                  · subst hm0
                    have f1 : wr.frozen? ⟨g, 1, none⟩ = false := h3'.bk.frozen 1
                    simp only [Nat.add_zero, Nat.sub_zero]
                    have hu : (val ((xs.drop k).take (j + 1)) : Int) ≤ 18446744073709551615 := by have := HLIM.out 0 (by omega); simpa using this
                    generalize val ((xs.drop k).take (j + 1)) = u at *
                    have hro := unfN_range u (by omega)
                    have hSS : stInt xs wh (.at_ k) = (unfN u, .at_ (k + (j + 1))) := by unfold stInt; simp only [HT.out]
                    have hpost := (h3'.quiet ((Fr.refl (fun _ => False) wr).drewN 0)).set ((k : Int) + j + 1)
                    have hF9 : Fr (fun x => x = g) w (wr.setCell ⟨g, 1, none⟩ (.int .i64 ((k : Int) + j + 1))) := ((hfr.trans hf3 (fun _ _ h => h)).mono (fun _ _ h => h.elim)).trans fr_set (fun _ _ h => h)
                    have HPOST := Lib.hid hpost
                    have HSS := Lib.hid hSS
                    have HF9 := Lib.hid hF9
                    clear hpost hSS hF9 hro h h3' hf3 hfr
                    by_cases hu2 : u % 2 = 1
                    · have hub : ((u : Int) % 2 == 1) = true := by rw [beq_iff_eq]; omega
                      have hun : unfN u = - ((u / 2 : Nat) : Int) - 1 := by unfold unfN; rw [if_neg (by omega)]
                      have HUN := Lib.hid hun
                      clear hun
                      go_wp2_with fail
                      go_ret
                      rw [← HS.out, HSS.out]
                      refine ⟨by rw [HUN.out]; congr 2, ⟨by omega, fat, what, ?_⟩, HF9.out⟩
                      have e : ((k + (j + 1) : Nat) : Int) = (k : Int) + j + 1 := by omega
                      rw [e]
                      exact HPOST.out
                    · have hub : ((u : Int) % 2 == 1) = false := by rw [beq_eq_false_iff_ne]; omega
                      have hun : unfN u = ((u / 2 : Nat) : Int) := by unfold unfN; rw [if_pos (by omega)]
                      have HUN := Lib.hid hun
                      clear hun
                      go_wp2_with fail
                      go_ret
                      rw [← HS.out, HSS.out]
                      refine ⟨by rw [HUN.out]; congr 2, ⟨by omega, fat, what, ?_⟩, HF9.out⟩
                      have e : ((k + (j + 1) : Nat) : Int) = (k : Int) + j + 1 := by omega
                      rw [e]
                      exact HPOST.out
                  · obtain ⟨ad, e, _, hc⟩ := h3'.rd (by omega)
                    injection e with e
                    subst e
                    have hcell := hc (k + (m - 1)) (by omega)
                    simp only at hcell
                    have hst : val ((xs.drop (k + (m - 1))).take (j + 1 - (m - 1))) = (xs[k + (m - 1)]'(by omega)).toNat % 128 + 128 * val ((xs.drop (k + m)).take (j + 1 - m)) := by
                      rw [List.drop_eq_getElem_cons (by omega : k + (m - 1) < xs.length), show j + 1 - (m - 1) = (j + 1 - m) + 1 by omega, List.take_succ_cons, val, show k + (m - 1) + 1 = k + m by omega]
                    have hlim : (val ((xs.drop (k + (m - 1))).take (j + 1 - (m - 1))) : Int) ≤ 18446744073709551615 := HLIM.out (m - 1) (by omega)
                    rw [hst] at hlim
                    have HST := Lib.hid hst
                    clear hst hc
                    have hy := (xs[k + (m - 1)]'(by omega)).toNat_lt
                    generalize (xs[k + (m - 1)]'(by omega)).toNat = y at *
                    generalize val ((xs.drop (k + m)).take (j + 1 - m)) = u at *
                    have s1 : IntKind.u64.wrap ((u : Int) * 128) = (u : Int) * 128 := by rw [IntKind.wrap_u64]; omega
                    have s2 : IntKind.i64.wrap ((k : Int) + ((m : Int) - 1)) = ((k + (m - 1) : Nat) : Int) := by rw [IntKind.wrap_i64]; omega
                    have s3 : IntKind.u64.wrap ((u : Int) * 128 + (y : Int) % 128) = (u : Int) * 128 + (y : Int) % 128 := by rw [IntKind.wrap_u64]; omega
                    have s4 : ((k + (m - 1) : Nat) : Int) < n := by omega
                    have s5 : (0 : Int) ≤ ((k + (m - 1) : Nat) : Int) := by omega
                    have s6 : (0 : Int) ≤ (m : Int) - 1 := by omega
                    go_wp2_with fail
                    go_quiet (fail)
                    clear s1 s2 s3 s4 s5 s6
                    go_wp2
                    go_roundw
                    case rel =>
                      refine ⟨m - 1, by omega, by go_num, ?_, hf3.drewN _⟩
                      rw [HST.out]
                      congr 1
                      omega
                    case measure => simp [intOf]; omega
      · have hj10 : j = 10 := by omega
        subst hj10
        have h1' : (k : Int) + 10 < n := by omega
        have i0' : (0 : Int) ≤ (k : Int) + 10 := by omega
        have hten := rd_ten (xs.drop k) (fun q hq => by obtain ⟨h1, h2⟩ := HLEAD.out q hq; exact ⟨by simp; omega, by simpa using h2⟩)
        have HT := Lib.hid hten
        clear hten
        go_wp2_with fail
        go_quiet (fail)
        go_wp2_with fail
        refine (rfail_any (h.quiet ((Fr.refl _ _).drewN _)) 8 k wh).mono ?_; rintro e w2 ⟨rfl, hr2, hf2⟩
        go_wp2
        go_ret
        have hSS : stInt xs wh (.at_ k) = (0, .bad 8 k wh) := by unfold stInt; simp only [HT.out]
        rw [← HS.out, hSS]
        exact ⟨rfl, ⟨by decide, _, hr2⟩, ((hfr.drewN _).mono (fun _ _ h => h.elim)).trans hf2 (fun _ _ h => h)⟩
    · have hkn : (n : Int) = (k : Int) + j := by omega
      by_cases hj10 : j = 10
      · subst hj10
        have hkn : (n : Int) = (k : Int) + 10 := by omega
        have h1' : ¬ (k : Int) + 10 < n := by omega
        have hw : IntKind.i64.wrap ((k : Int) + 10) = (k : Int) + 10 := IntWalk.i64_in _ (by omega)
        have hten := rd_ten (xs.drop k) (fun q hq => by obtain ⟨h1, h2⟩ := HLEAD.out q hq; exact ⟨by simp; omega, by simpa using h2⟩)
        have HT := Lib.hid hten
        clear hten
        go_wp2_with fail
        go_quiet (fail)
        clear hw
        go_wp2_with fail
        refine (rfail_any (h.quiet ((Fr.refl _ _).drewN _)) 8 k wh).mono ?_; rintro e w2 ⟨rfl, hr2, hf2⟩
        go_wp2
        go_ret
        have hSS : stInt xs wh (.at_ k) = (0, .bad 8 k wh) := by unfold stInt; simp only [HT.out]
        rw [← HS.out, hSS]
        exact ⟨rfl, ⟨by decide, _, hr2⟩, ((hfr.drewN _).mono (fun _ _ h => h.elim)).trans hf2 (fun _ _ h => h)⟩
      · have hw : IntKind.i64.wrap ((k : Int) + j) = (k : Int) + j := IntWalk.i64_in _ (by omega)
        have hjb : ((j : Int) == 10) = false := by rw [beq_eq_false_iff_ne]; omega
        have hnb : ((k : Int) + j == n) = true := by rw [beq_iff_eq]; omega
        have hsh := rd_short (xs.drop k) j (by omega) (by simp; omega) (fun q hq => by obtain ⟨h1, h2⟩ := HLEAD.out q hq; exact ⟨by simp; omega, by simpa using h2⟩)
        have HT := Lib.hid hsh
        clear hsh
        go_wp2_with fail
        go_quiet (fail)
        go_wp2_with fail
        go_quiet (fail)
        clear hw
        go_wp2_with fail
        refine (rfail_any (h.quiet ((Fr.refl _ _).drewN _)) 7 k wh).mono ?_; rintro e w2 ⟨rfl, hr2, hf2⟩
        go_wp2
        go_ret
        have hSS : stInt xs wh (.at_ k) = (0, .bad 7 k wh) := by unfold stInt; simp only [HT.out]
        rw [← HS.out, hSS]
        exact ⟨rfl, ⟨by decide, _, hr2⟩, ((hfr.drewN _).mono (fun _ _ h => h.elim)).trans hf2 (fun _ _ h => h)⟩
end Go.Proofs.YtblfnbmgijppmaaDoor
