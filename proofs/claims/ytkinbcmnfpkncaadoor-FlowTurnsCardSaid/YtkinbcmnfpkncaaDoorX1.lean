/- FlowTurns: the walk. -/
import Derived.Test.YtkinbcmnfpkncaaDoorXx
import Derived.Test.YtkinbcmnfpkncaaDoorXo
import Derived.Test.YtkinbcmnfpkncaaDoorMj
namespace Go.Proofs.YtkinbcmnfpkncaaDoor
open Go.RowKit Go.Maps

/-- A slice that reads as bools. -/
def RdB (w : World) (A : Option Addr) (xs : List Bool) : Prop :=
  0 < xs.length → ∃ ad, A = some ad ∧ ad.spot = none ∧ ∀ j (h : j < xs.length), w.cell? ⟨ad.block, ad.off + j, none⟩ = some (.bool xs[j])
theorem RdB.at {w w' : World} {A : Option Addr} {xs : List Bool} (h : RdB w A xs) (hf : Fr (fun _ => False) w w') {i : Nat} (hi : i < xs.length) : ∃ b off, A = some ⟨b, off, none⟩ ∧ w'.cell? ⟨b, off + i, none⟩ = some (.bool (xs.getD i false)) := by
  obtain ⟨⟨b, off, sp⟩, rfl, hsp, hc⟩ := h (by omega)
  obtain rfl : sp = none := hsp
  refine ⟨b, off, rfl, ?_⟩
  have h1 := hc i hi
  rw [hf.cell (p := ⟨b, off + i, none⟩) (World.block_lt_of_cell? w _ h1) (fun h => h), h1]
  simp [List.getD, hi]

set_option maxRecDepth 100000 in
set_option maxHeartbeats 8000000 in
theorem turns_any (m : Int) (A : Option Addr) (n c : Nat) (bs : List Bool) (w : World) (hM : MadeT w) (hr : RdB w A bs) (hl : bs.length = n) : Calls Tryd.prog 5 #[.int .i64 m, .slice A n c] w fun e w' => e = .returned (.bool true) ∧ Fr (fun _ => False) w w' := by
  have CK := Lib.hid (known_any w hM)
  have HM := Lib.hid hM
  have HR := Lib.hid hr
  have HL := Lib.hid hl
  have CN : Hid (∀ w', Fr (fun _ => False) w w' → Calls Tryd.prog 8 #[.int .i64 3, .int .i64 1, .int .i64 0, .int .i64 7, .slice none 0 0, .int .i64 0] w' fun e w9 => ∃ g bm v b, e = .returned (.tuple #[.pointer (some ⟨g, 0, none⟩), v, .int .i64 0]) ∧ OneTask w9 v 2 0 b ∧ Kept w w9 g bm sL1) := Lib.hid (fun w' hf => by
    refine (newF_any 3 1 0 7 none 0 0 [] 0 w' (Rd8.nil _ _) rfl (by omega) ⟨by omega, by omega⟩ ⟨by omega, by omega⟩ ⟨by omega, by omega⟩ ⟨by omega, by omega⟩ ⟨by omega, by omega⟩ (fun ad e => by cases e)).mono ?_
    rintro e w1 ⟨g, bm, A, c, ps, D, Ao, m, co, os, rfl, hl, ho, hfl, hown, hfb, hob, hf1⟩
    rw [stL1] at ho hfl
    obtain ⟨rfl, x, rfl, hx⟩ := one_of hl ho
    obtain ⟨b, off, rfl, hcs⟩ := hown.one
    refine ⟨g, bm, _, b, rfl, ⟨off, co, rfl, ?_, ?_, ?_⟩, A, c, ps, D, hfl, hf.trans hf1 (fun _ _ h => h), fun y e => ?_⟩
    · have := hcs 0 _ rfl; rw [hx] at this; exact this
    · have := hcs 2 _ rfl; rw [hx] at this; exact this
    · have := hcs 3 _ rfl; rw [hx] at this; exact this
    · have h9 : w'.heap.size ≤ y := by
        rcases e with rfl | rfl | e
        · exact hfb _ (.inl rfl)
        · exact hfb _ (.inr (.inl rfl))
        · exact hfb _ (.inr (.inr (.inl e)))
      have := hf.size; omega)
  clear hM hr hl
  go_enter Tryd.func5, Tryd.ntmps5
  go_wp2_with fail
  refine CK.out.mono ?_; rintro e w1 ⟨rfl, hf1⟩
  have HF1 := Lib.hid hf1
  clear hf1 CK
  by_cases h1 : m < 1
  · have d1 : decide (m < 1) = true := decide_eq_true h1
    clear h1
    go_wp2
    go_ret
    exact ⟨rfl, HF1.out⟩
  have d1 : decide (m < 1) = false := decide_eq_false h1
  by_cases h2 : (40 : Int) < m
  · have d2 : decide ((40 : Int) < m) = true := decide_eq_true h2
    clear h1 h2
    go_wp2
    go_ret
    exact ⟨rfl, HF1.out⟩
  have d2 : decide ((40 : Int) < m) = false := decide_eq_false h2
  by_cases h3 : (100 : Int) < (n : Int)
  · have d3 : decide ((100 : Int) < (n : Int)) = true := decide_eq_true h3
    have d3' : decide (100 < n) = true := decide_eq_true (by omega)
    clear h1 h2 h3
    go_wp2
    go_ret
    exact ⟨rfl, HF1.out⟩
  have d3 : decide ((100 : Int) < (n : Int)) = false := decide_eq_false h3
  have d3' : decide (100 < n) = false := decide_eq_false (by omega)
  obtain ⟨m, rfl⟩ : ∃ k : Nat, m = (k : Int) := ⟨m.toNat, by omega⟩
  have HM40 : Hid (1 ≤ m ∧ m ≤ 40) := Lib.hid (by omega)
  clear h1 h2 h3
  go_wp2_with fail
  clear d1 d2 d3 d3'
  refine (CN.out _ HF1.out).mono ?_; rintro e w2 ⟨g, bm, v2, b2, rfl, ⟨off2, co2, rfl, hk2, hp2, ht2⟩, hk⟩
  have HK2 := Lib.hid hk
  clear hk CN HF1 hk2 ht2
  go_wp2_with fail
  clear hp2
  go_loopw [8, 9] (fun u v wr => ∃ (t : Nat) (a : Int), u = .int .i64 a ∧ v = .int .i64 (t : Int) ∧ t ≤ m ∧ Hid (a = 2 + 3 * (t : Int)) ∧ Hid (∃ s, Turned t s ∧ Kept w wr g bm s)) (fun _ v _ => m - (intOf v).toNat)
  case atStart => exact ⟨0, 2, rfl, rfl, Nat.zero_le _, Lib.hid rfl, Lib.hid ⟨sL1, turned0, HK2.out⟩⟩
  case round =>
    clear HK2
    obtain ⟨t, a, rfl, rfl, htm, HA, HS⟩ := hrel
    obtain ⟨s, hs, hk⟩ := HS.out
    have C1 := Lib.hid (beginsK hk hs (by have := HM40.out; omega))
    rw [← HA.out] at C1
    clear hs hk
    by_cases hlt : t < m
    · have HT := Lib.hid hlt
      have dj : decide ((t : Int) < (m : Int)) = true := decide_eq_true (by omega)
      have dj' : decide (t < m) = true := decide_eq_true hlt
      have hwt : IntKind.wrap .i64 ((t : Int) + 1) = (t : Int) + 1 := by have := HM40.out; simp only [IntKind.wrap_i64]; omega
      clear htm hlt
      go_wp2_with fail
      refine C1.out.mono ?_; rintro e w3 ⟨⟨v3, rfl⟩, s3, hb3, hk3⟩
      have HB3 := Lib.hid hb3
      have HK3 := Lib.hid hk3
      clear C1 hb3 hk3
      by_cases hn : t < n
      · have dn : decide ((t : Int) < (n : Int)) = true := decide_eq_true (by omega)
        have dn' : decide (t < n) = true := decide_eq_true hn
        have t0 : (0 : Int) ≤ (t : Int) := by omega
        have t1 : (t : Int) < (n : Int) := by omega
        obtain ⟨b4, off4, rfl, hc4⟩ := HR.out.at HK3.out.back (i := t) (by rw [HL.out]; exact hn)
        clear hn
        cases hbt : bs.getD t false
        · rw [hbt] at hc4
          clear hbt
          have CB := Lib.hid (missK HK3.out HB3.out (by have := HT.out; have := HM40.out; omega))
          rw [← HA.out] at CB
          clear HS
          go_wp2_with fail
          refine CB.out.mono ?_; rintro e w6 ⟨v6, b6, rfl, hot, s6, htu, hkb⟩
          clear CB
          obtain ⟨off6, co6, rfl, hk6, hp6, ht6⟩ := hot
          have HKB := Lib.hid hkb
          have HTU := Lib.hid htu
          have CS := Lib.hid (staleK hkb.kept htu (by have := HT.out; have := HM40.out; omega))
          rw [← HA.out] at CS
          have hp7 : Hid (w6.cell? ⟨b6, off6 + 2, none⟩ = some (.int .i64 (5 + 3 * (t : Int)))) := Lib.hid hp6
          clear hkb htu hp6
          go_wp2_with fail
          refine CS.out.mono ?_; rintro e w7 ⟨rfl, hf7⟩
          have hb6 : b6 < w6.heap.size := World.block_lt_of_cell? w6 _ hp7.out
          have hp8 : w7.cell? ⟨b6, off6 + 2, none⟩ = some (.int .i64 (5 + 3 * (t : Int))) := (hf7.cell (p := ⟨b6, off6 + 2, none⟩) hb6 (fun h => h)).trans hp7.out
          have HS7 : Hid (∃ s, Turned (t + 1) s ∧ Kept w w7 g bm s) := Lib.hid ⟨_, HTU.out, HKB.out.kept.fr hf7⟩
          clear hf7 hb6 CS hk6 ht6 HKB HTU hp7
          go_wp2
          go_roundw
          case rel => exact ⟨t + 1, 5 + 3 * (t : Int), rfl, by first | rfl | (push_cast; rfl) | (go_num; done), HT.out, Lib.hid (by push_cast; omega), HS7⟩
          case measure => (have := HT.out; simp [intOf]) <;> omega
        · rw [hbt] at hc4
          clear hbt
          have CB := Lib.hid (badK HK3.out HB3.out (by have := HT.out; have := HM40.out; omega) 99 rfl)
          rw [← HA.out] at CB
          clear HS
          go_wp2_with fail
          refine CB.out.mono ?_; rintro e w6 ⟨v6, b6, rfl, hot, s6, htu, hkb⟩
          clear CB
          obtain ⟨off6, co6, rfl, hk6, hp6, ht6⟩ := hot
          have HKB := Lib.hid hkb
          have HTU := Lib.hid htu
          have CS := Lib.hid (staleK hkb.kept htu (by have := HT.out; have := HM40.out; omega))
          rw [← HA.out] at CS
          have hp7 : Hid (w6.cell? ⟨b6, off6 + 2, none⟩ = some (.int .i64 (5 + 3 * (t : Int)))) := Lib.hid hp6
          clear hkb htu hp6
          go_wp2_with fail
          refine CS.out.mono ?_; rintro e w7 ⟨rfl, hf7⟩
          have hb6 : b6 < w6.heap.size := World.block_lt_of_cell? w6 _ hp7.out
          have hp8 : w7.cell? ⟨b6, off6 + 2, none⟩ = some (.int .i64 (5 + 3 * (t : Int))) := (hf7.cell (p := ⟨b6, off6 + 2, none⟩) hb6 (fun h => h)).trans hp7.out
          have HS7 : Hid (∃ s, Turned (t + 1) s ∧ Kept w w7 g bm s) := Lib.hid ⟨_, HTU.out, HKB.out.kept.fr hf7⟩
          clear hf7 hb6 CS hk6 ht6 HKB HTU hp7
          go_wp2
          go_roundw
          case rel => exact ⟨t + 1, 5 + 3 * (t : Int), rfl, by first | rfl | (push_cast; rfl) | (go_num; done), HT.out, Lib.hid (by push_cast; omega), HS7⟩
          case measure => (have := HT.out; simp [intOf]) <;> omega
      · have dn : decide ((t : Int) < (n : Int)) = false := decide_eq_false (by omega)
        have dn' : decide (t < n) = false := decide_eq_false hn
        clear hn
        have CB := Lib.hid (missK HK3.out HB3.out (by have := HT.out; have := HM40.out; omega))
        rw [← HA.out] at CB
        clear HS
        go_wp2_with fail
        refine CB.out.mono ?_; rintro e w6 ⟨v6, b6, rfl, hot, s6, htu, hkb⟩
        clear CB
        obtain ⟨off6, co6, rfl, hk6, hp6, ht6⟩ := hot
        have HKB := Lib.hid hkb
        have HTU := Lib.hid htu
        have CS := Lib.hid (staleK hkb.kept htu (by have := HT.out; have := HM40.out; omega))
        rw [← HA.out] at CS
        have hp7 : Hid (w6.cell? ⟨b6, off6 + 2, none⟩ = some (.int .i64 (5 + 3 * (t : Int)))) := Lib.hid hp6
        clear hkb htu hp6
        go_wp2_with fail
        refine CS.out.mono ?_; rintro e w7 ⟨rfl, hf7⟩
        have hb6 : b6 < w6.heap.size := World.block_lt_of_cell? w6 _ hp7.out
        have hp8 : w7.cell? ⟨b6, off6 + 2, none⟩ = some (.int .i64 (5 + 3 * (t : Int))) := (hf7.cell (p := ⟨b6, off6 + 2, none⟩) hb6 (fun h => h)).trans hp7.out
        have HS7 : Hid (∃ s, Turned (t + 1) s ∧ Kept w w7 g bm s) := Lib.hid ⟨_, HTU.out, HKB.out.kept.fr hf7⟩
        clear hf7 hb6 CS hk6 ht6 HKB HTU hp7
        go_wp2
        go_roundw
        case rel => exact ⟨t + 1, 5 + 3 * (t : Int), rfl, by first | rfl | (push_cast; rfl) | (go_num; done), HT.out, Lib.hid (by push_cast; omega), HS7⟩
        case measure => (have := HT.out; simp [intOf]) <;> omega
    · have dj : decide ((t : Int) < (m : Int)) = false := decide_eq_false (by omega)
      have dj' : decide (t < m) = false := decide_eq_false hlt
      obtain rfl : t = m := by omega
      clear htm hlt HS
      go_wp2_with fail
      refine C1.out.mono ?_; rintro e w3 ⟨⟨v3, rfl⟩, s3, hb3, hk3⟩
      have CE := Lib.hid (endK hk3 HM.out hb3 (by have := HM40.out; omega))
      rw [← HA.out] at CE
      clear C1 hb3 hk3
      go_wp2_with fail
      refine CE.out.mono ?_; rintro e w4 ⟨⟨v4, rfl⟩, hf4, A4, c4, ps4, mo4, D4, s4, hfl, hlen, hst, hck⟩
      have HF4 := Lib.hid hf4
      have hl0 : 0 < s4.L.length := by omega
      have CS := Lib.hid (status_any hfl hl0)
      rw [hst] at CS
      have CL := Lib.hid (len_any hfl)
      rw [hlen] at CL
      have CV := Lib.hid (events_any hfl hl0)
      have HL5 := Lib.hid hlen
      have HCK := Lib.hid hck
      clear hf4 hfl hst hck hl0 CE hlen
      go_wp2_with fail
      refine CS.out.mono ?_; rintro e w5 ⟨rfl, rfl⟩
      have hw3 : IntKind.wrap .i64 (3 * (t : Int)) = 3 * (t : Int) := by have := HM40.out; simp only [IntKind.wrap_i64]; omega
      have hw4 : IntKind.wrap .i64 (2 + 3 * (t : Int)) = 2 + 3 * (t : Int) := by have := HM40.out; simp only [IntKind.wrap_i64]; omega
      have hw5 : IntKind.wrap .i64 (2 + 3 * (t : Int) + 3) = 5 + 3 * (t : Int) := by have := HM40.out; simp only [IntKind.wrap_i64]; omega
      clear CS
      go_wp2_with fail
      refine CL.out.mono ?_; rintro e w6 ⟨rfl, rfl⟩
      have hq : (((5 + 3 * t : Nat) : Int) == 5 + 3 * (t : Int)) = true := by rw [beq_iff_eq]; push_cast; rfl
      clear CL
      go_wp2_with fail
      refine CV.out.mono ?_; rintro e w7 ⟨A7, c7, ps7, rfl, ho7, he7, hf7⟩
      have CC := Lib.hid (check_any A7 _ c7 ps7 _ w7 ho7.es (by rw [HL5.out]; have := HM40.out; omega))
      have hevs : evs ps7 = s4.L := he7
      rw [hevs, HCK.out] at CC
      have HF7 := Lib.hid (HF4.out.trans hf7 (fun _ _ h => h))
      clear ho7 he7 hf7 hevs CV
      go_wp2_with fail
      refine CC.out.mono ?_; rintro e w8 ⟨v8, rfl, hbr, hf8⟩
      obtain rfl : v8 = .nilIface := hbr
      have HF8 := Lib.hid (HF7.out.trans hf8 (fun _ _ h => h))
      clear hf8 CC
      go_wp2
      go_ret
      exact ⟨rfl, HF8.out⟩
end Go.Proofs.YtkinbcmnfpkncaaDoor
