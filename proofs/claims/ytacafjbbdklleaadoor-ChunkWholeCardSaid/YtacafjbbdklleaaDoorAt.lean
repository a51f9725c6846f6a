/- ChunkWhole's walk. -/
import Derived.Test.YtacafjbbdklleaaDoorAx
import Derived.Test.YtacafjbbdklleaaDoorRowC
namespace Go.Proofs.YtacafjbbdklleaaDoor
open Go.RowKit

theorem tmod_small (t : Int) (m : Nat) (hm : 0 < m) : ∃ k : Nat, k < m ∧ ((¬ t.tmod (m : Int) < 0 ∧ t.tmod (m : Int) = (k : Int)) ∨ (t.tmod (m : Int) < 0 ∧ - t.tmod (m : Int) = (k : Int))) := by
  have hm' : (0 : Int) < (m : Int) := by omega
  by_cases ht : 0 ≤ t
  · have h1 : t.tmod (m : Int) = t % (m : Int) := Int.tmod_eq_emod_of_nonneg ht
    have h2 := Int.emod_nonneg t (show (m : Int) ≠ 0 by omega)
    have h3 := Int.emod_lt_of_pos t hm'
    refine ⟨(t % (m : Int)).toNat, by omega, .inl ⟨by rw [h1]; omega, by rw [h1]; omega⟩⟩
  · obtain ⟨y, rfl⟩ : ∃ y : Int, t = - y := ⟨- t, by omega⟩
    have h1 : (- y).tmod (m : Int) = - (y % (m : Int)) := by rw [Int.neg_tmod, Int.tmod_eq_emod_of_nonneg (by omega)]
    have h2 := Int.emod_nonneg y (show (m : Int) ≠ 0 by omega)
    have h3 := Int.emod_lt_of_pos y hm'
    rw [h1]
    by_cases h4 : y % (m : Int) = 0
    · exact ⟨0, hm, .inl ⟨by omega, by omega⟩⟩
    · exact ⟨(y % (m : Int)).toNat, by omega, .inr ⟨by omega, by omega⟩⟩
theorem Fed.begin {id : Int} {n u : Nat} {xs : List UInt8} {s : BSt} (h : s.id < id) (ho : s.Ok) : Fed id n u xs s 0 := .inl ⟨h, ho, rfl⟩
theorem gPc_len (id : Int) (n u : Nat) (xs : List UInt8) (z j : Nat) : (gPc id n u xs z j).data.length ≤ z := by unfold gPc; simp; omega

set_option maxRecDepth 100000 in
set_option maxHeartbeats 8000000 in
theorem whole_any (A0 : Option Addr) (n0 c0 F : Nat) (xs : List UInt8) (z0 : Int) (A2 : Option Addr) (n2 c2 : Nat) (ys : List UInt8) (many : Int) (A4 : Option Addr) (n4 c4 : Nat) (ts : List Int) (w : World) (hG : Gl w)
    (hs0 : Sl8 w F A0 n0 c0 xs) (hs2 : Sl8 w F A2 n2 c2 ys) (hr4 : RdI w A4 ts) (hn4 : ts.length = n4) (hlt4 : ∀ ad, A4 = some ad → 0 < n4 → ad.block < w.heap.size) (hF : F ≤ w.heap.size) :
    Calls Tryd.prog 5 #[.slice A0 n0 c0, .int .i64 z0, .slice A2 n2 c2, .int .i64 many, .slice A4 n4 c4] w fun e w' => e = .returned (.bool true) ∧ Fr (fun _ => False) w w' := by
  have HN0 := Lib.hid hs0.1
  have HN2 := Lib.hid hs2.1
  have HSX := Lib.hid hs0
  have HSY := Lib.hid hs2
  have HR4 := Lib.hid hr4
  have HN4 := Lib.hid hn4
  have HL4 := Lib.hid hlt4
  have HFF := Lib.hid hF
  have HG := Lib.hid hG
  have CK := Lib.hid (known_any w hG)
  clear hs0 hs2 hr4 hn4 hlt4 hF hG
  by_cases h1 : 2048 < n0
  · have e1a : decide (2048 < n0) = true := decide_eq_true (by omega)
    have e1b : decide ((2048 : Int) < (n0 : Int)) = true := decide_eq_true (by omega)
    clear h1
    go_enter Tryd.func5, Tryd.ntmps5
    go_wp2_with fail
    refine CK.out.mono ?_; rintro e w1 ⟨rfl, hf1⟩
    have F1 := Lib.hid hf1
    clear hf1
    go_wp2
    go_ret
    exact ⟨rfl, F1.out⟩
  · have e1a : decide (2048 < n0) = false := decide_eq_false (by omega)
    have e1b : decide ((2048 : Int) < (n0 : Int)) = false := decide_eq_false (by omega)
    by_cases h2 : 2048 < n2
    · have e2a : decide (2048 < n2) = true := decide_eq_true (by omega)
      have e2b : decide ((2048 : Int) < (n2 : Int)) = true := decide_eq_true (by omega)
      clear h2
      go_enter Tryd.func5, Tryd.ntmps5
      go_wp2_with fail
      refine CK.out.mono ?_; rintro e w1 ⟨rfl, hf1⟩
      have F1 := Lib.hid hf1
      clear hf1
      go_wp2
      go_ret
      exact ⟨rfl, F1.out⟩
    · have e2a : decide (2048 < n2) = false := decide_eq_false (by omega)
      have e2b : decide ((2048 : Int) < (n2 : Int)) = false := decide_eq_false (by omega)
      by_cases h3 : z0 < 1
      · have e3a : decide (z0 < 1) = true := decide_eq_true (by omega)
        clear h3
        go_enter Tryd.func5, Tryd.ntmps5
        go_wp2_with fail
        refine CK.out.mono ?_; rintro e w1 ⟨rfl, hf1⟩
        have F1 := Lib.hid hf1
        clear hf1
        go_wp2
        go_ret
        exact ⟨rfl, F1.out⟩
      · have e3a : decide (z0 < 1) = false := decide_eq_false (by omega)
        by_cases h4 : 4096 < z0
        · have e4a : decide (4096 < z0) = true := decide_eq_true (by omega)
          clear h4
          go_enter Tryd.func5, Tryd.ntmps5
          go_wp2_with fail
          refine CK.out.mono ?_; rintro e w1 ⟨rfl, hf1⟩
          have F1 := Lib.hid hf1
          clear hf1
          go_wp2
          go_ret
          exact ⟨rfl, F1.out⟩
        · have e4a : decide (4096 < z0) = false := decide_eq_false (by omega)
          by_cases h5 : 200 < n4
          · have e5a : decide (200 < n4) = true := decide_eq_true (by omega)
            have e5b : decide ((200 : Int) < (n4 : Int)) = true := decide_eq_true (by omega)
            clear h5
            go_enter Tryd.func5, Tryd.ntmps5
            go_wp2_with fail
            refine CK.out.mono ?_; rintro e w1 ⟨rfl, hf1⟩
            have F1 := Lib.hid hf1
            clear hf1
            go_wp2
            go_ret
            exact ⟨rfl, F1.out⟩
          · have e5a : decide (200 < n4) = false := decide_eq_false (by omega)
            have e5b : decide ((200 : Int) < (n4 : Int)) = false := decide_eq_false (by omega)
            obtain ⟨z, rfl⟩ : ∃ z : Nat, z0 = (z : Int) := ⟨z0.toNat, by omega⟩
            have e3' : decide (z < 1) = false := decide_eq_false (by omega)
            have e4' : decide (4096 < z) = false := decide_eq_false (by omega)
            have HZ : Hid (1 ≤ z ∧ z ≤ 4096) := Lib.hid ⟨by omega, by omega⟩
            have HNB0 : Hid (n0 ≤ 1048576) := Lib.hid (by omega)
            have HNB2 : Hid (n2 ≤ 1048576) := Lib.hid (by omega)
            have HN4B : Hid ((n4 : Int) ≤ 200) := Lib.hid (by omega)
            clear h1 h2 h3 h4 h5
            go_enter Tryd.func5, Tryd.ntmps5
            go_wp2_with fail
            refine CK.out.mono ?_; rintro e w1 ⟨rfl, hf1⟩
            have F1 := Lib.hid hf1
            have G1 := Lib.hid (HG.out.fr0 hf1)
            have CC1 := Lib.hid (Cut_ok 9 A0 n0 c0 xs z w1 G1.out.err G1.out.tab (HSX.out.2.2.2.1.fr hf1 (fun _ _ _ h => h)) HN0.out (by omega) HNB0.out HZ.out.1 (by have := HZ.out; omega))
            clear hf1
            go_wp2_with fail
            refine CC1.out.mono ?_; rintro e w2 ⟨K1, Ac, cc, v1, rfl, hc1⟩
            have HC1 := Lib.hid hc1
            have HP1 := Lib.hid (hc1.pcs HN0.out HNB0.out HZ.out.1)
            have F2 := Lib.hid (F1.out.trans hc1.fr (fun _ _ h => h))
            have G2 := Lib.hid (G1.out.fr0 hc1.fr)
            have CC2 := Lib.hid (Cut_ok 4 A2 n2 c2 ys z w2 G2.out.err G2.out.tab (HSY.out.2.2.2.1.fr F2.out (fun _ _ _ h => h)) HN2.out (by omega) HNB2.out HZ.out.1 (by have := HZ.out; omega))
            obtain ⟨m1, hm1⟩ : ∃ m1, K1 + 1 = m1 := ⟨_, rfl⟩
            have HM1 : Hid (K1 + 1 = m1 ∧ K1 * z ≤ n0 ∧ n0 ≤ K1 * z + z ∧ m1 ≤ 1048577) := Lib.hid ⟨hm1, hc1.lo, hc1.hi, by
              have h1 : K1 ≤ K1 * z := Nat.le_mul_of_pos_right K1 HZ.out.1
              have h2 := hc1.lo; have h3 := HNB0.out; omega⟩
            have HMID1 := Lib.hid hc1.mid
            rw [hm1] at HP1
            obtain ⟨_, L1, l1, e1, _⟩ := HP1.out
            subst e1
            clear hm1 hc1 CC1
            go_wp2_with fail
            refine CC2.out.mono ?_; rintro e w3 ⟨K2, Ad, cd, v2, rfl, hc2⟩
            have HP2 := Lib.hid (hc2.pcs HN2.out HNB2.out HZ.out.1)
            have FW3 := Lib.hid (F2.out.trans hc2.fr (fun _ _ h => h))
            have HG3 := Lib.hid (G2.out.fr0 hc2.fr)
            obtain ⟨m2, hm2⟩ : ∃ m2, K2 + 1 = m2 := ⟨_, rfl⟩
            have HM2 : Hid (K2 + 1 = m2 ∧ K2 * z ≤ n2 ∧ n2 ≤ K2 * z + z) := Lib.hid ⟨hm2, hc2.lo, hc2.hi⟩
            have HMID2 := Lib.hid hc2.mid
            rw [hm2] at HP2
            obtain ⟨_, L2, l2, e2, _⟩ := HP2.out
            subst e2
            obtain ⟨B, hB⟩ : ∃ B, w3.heap.size = B := ⟨_, rfl⟩
            have HBS := Lib.hid hB
            have HPL0 := Lib.hid ((HP1.out.fr hc2.fr (fun _ _ h => h)).more (F' := B) (by rw [← hB]; exact hc2.fr.size) (by rw [hB]; exact Nat.le_refl _))
            rw [hB] at HP2
            rw [cutPc_eq, HN0.out] at HPL0
            rw [cutPc_eq, HN2.out] at HP2
            obtain ⟨u0, hu0⟩ : ∃ u0, crcOf xs = u0 := ⟨_, rfl⟩
            obtain ⟨u2, hu2⟩ : ∃ u2, crcOf ys = u2 := ⟨_, rfl⟩
            have HU0 : Hid (u0 < 4294967296) := Lib.hid (by rw [← hu0]; exact crcOf_lt _)
            have HU2 : Hid (u2 < 4294967296) := Lib.hid (by rw [← hu2]; exact crcOf_lt _)
            have HUE0 := Lib.hid hu0
            rw [hu0] at HPL0
            rw [hu2] at HP2
            have HPL := HPL0
            have HPO := HP2
            have HSD : Hid (∀ w', Fr (fun x => B ≤ x) w3 w' → Sl8 w' F A0 n0 c0 xs) := Lib.hid (fun w' hf => (HSX.out.fr FW3.out (fun _ _ h => h)).fr hf (fun k hk => by show ¬ B ≤ k; have h1 := FW3.out.size; have h2 := HBS.out; have h3 := HFF.out; omega))
            have HT4 : Hid (∀ w', Fr (fun x => B ≤ x) w3 w' → ∀ j, j < n4 → ∃ tb tq, A4 = some ⟨tb, tq, none⟩ ∧ w'.cell? ⟨tb, tq + j, none⟩ = some (.int .i64 (ts.getD j 0))) := Lib.hid (fun w' hf j hj => by
              obtain ⟨ad, e, hsp, hc⟩ := HR4.out (by rw [HN4.out]; omega)
              have hl := HL4.out ad e (by omega)
              obtain ⟨tb, tq, sp⟩ := ad
              cases hsp
              refine ⟨tb, tq, e, ?_⟩
              have h1 := hc j (by rw [HN4.out]; exact hj)
              have h3 := FW3.out.size
              rw [hf.cell (p := ⟨tb, tq + j, none⟩) (by show tb < _; have h' : tb < w.heap.size := hl; omega) (by show ¬ B ≤ tb; have h2 := HBS.out; have h' : tb < w.heap.size := hl; omega), FW3.out.cell (p := ⟨tb, tq + j, none⟩) hl (fun h => h), h1]
              simp [List.getD, show j < ts.length by rw [HN4.out]; exact hj])
            clear hm2 hc2 CC2 hu0 hu2 HP1 HPL0 HP2 hB
            go_wp2_with fail
            refine (newBuilder_any w3).mono ?_; rintro e w4 ⟨b, rfl, hb4, hf4, hbl⟩
            have HB0 : Hid (BI B w3 w4 b BSt.none (.slice none 0 0)) := Lib.hid (by have := BI.new hb4 hf4 hbl HG3.out; rwa [HBS.out] at this)
            clear hb4 hf4 hbl
            rcases Int.lt_or_le many (m2 : Int) with hmm | hmm
            · have HJ : Hid (many.toNat ≤ m2 ∧ (many.toNat : Int) = max many 0) := Lib.hid ⟨by omega, by omega⟩
              have HMM := Lib.hid hmm
              clear hmm
              go_wp2_with fail
              go_loopw [16] (fun a wr => ∃ (j : Nat) (s : BSt) (v : Value) (L : Nat), a = .int .i64 (j : Int) ∧ j ≤ many.toNat ∧ Hid (BI B w3 wr b s v) ∧ Hid (Fed 4 n2 u2 ys s L) ∧ Hid ((0 < j → ¬ s.id < 4) ∧ min (j * z) n2 ≤ L ∧ s.id ≤ 4)) (fun a _ => many.toNat - (intOf a).toNat)
              case atStart =>
                exact ⟨0, BSt.none, .slice none 0 0, 0, rfl, Nat.zero_le _, HB0, Lib.hid (Fed.begin (by simp [BSt.none]) BSt.none_ok), Lib.hid ⟨fun h => by omega, by simp, by simp [BSt.none]⟩⟩
              case round =>
                obtain ⟨j, s, v, L, rfl, hj, HBI, HFD, HST⟩ := hrel
                by_cases hlt : j < many.toNat
                · have g1 : decide (j < m2) = true := decide_eq_true (by have := HJ.out; omega)
                  have g1' : decide ((j : Int) < (m2 : Int)) = true := decide_eq_true (by have := HJ.out; omega)
                  have g2 : decide ((j : Int) < many) = true := decide_eq_true (by have := HJ.out; omega)
                  have g3 : j < m2 := by have := HJ.out; omega
                  have g3' : (j : Int) < (m2 : Int) := by omega
                  obtain ⟨_, A9, c9, e9, hp9⟩ := HBI.out.pcs HPO.out
                  injection e9 with e9a e9b e9c
                  subst e9a e9c
                  obtain ⟨pb, po, e8, D, dm, dk, p0, p1, p2, p3, p4, hsl, _, _⟩ := hp9 j g3
                  have HDM : Hid ((dm : Int) ≤ 140737488355328) := Lib.hid (by have h1 := hsl.1; have h2 := gPc_len 4 n2 u2 ys z j; have h3 := HZ.out; omega)
                  have CA := Lib.hid (HBI.out.add HG3.out (gPc 4 n2 u2 ys z j) D dm dk _ hsl HDM.out HU2.out)
                  obtain ⟨p, hpp⟩ : ∃ p, gPc 4 n2 u2 ys z j = p := ⟨_, rfl⟩
                  subst e8
                  have hKz : j * z ≤ n2 := by
                    have h1 := HM2.out
                    have h2 := Nat.mul_le_mul_right z (show j ≤ K2 by omega)
                    omega
                  have hon := HFD.out.on (z := z) (j := j) (K := K2) (by omega) HN2.out HNB2.out HZ.out.1 (by have := HM2.out; omega) HMID2.out (by have := HST.out.2.1; omega) (fun h => by have h1 := HST.out.1; by_cases h2 : 0 < j; exact absurd h (h1 h2); omega)
                  rw [hpp] at CA hon p0 p1 p2 p3
                  obtain ⟨hE0, L', hF', hI', hL', hB'⟩ := hon
                  rw [hE0, hB'] at CA
                  obtain ⟨s', hs'⟩ : ∃ s', s.add p = s' := ⟨_, rfl⟩
                  rw [hs'] at CA hF' hI'
                  unfold Pc.v at CA
                  have HL' : Hid (min ((j + 1) * z) n2 ≤ L') := Lib.hid (by rw [Nat.succ_mul]; exact hL')
                  have HF' := Lib.hid hF'
                  have HI' : Hid (¬ s'.id < 4 ∧ s'.id ≤ 4) := Lib.hid ⟨hI', by rcases hF' with ⟨h, _⟩ | ⟨_, h⟩; exact absurd h hI'; rw [h]; exact Int.le_refl _⟩
                  have HLT := Lib.hid hlt
                  clear hp9 hsl hpp hE0 hF' hI' hL' hB' hs' hKz
                  go_wp2_with fail
                  refine CA.out.mono ?_; rintro e w9 ⟨xv, v', rfl, hbv, hbi⟩
                  obtain rfl : xv = .nilIface := by unfold BrkV at hbv; rw [if_pos rfl] at hbv; exact hbv
                  have HBI' := Lib.hid hbi
                  clear hbv hbi CA p0 p1 p2 p3 p4
                  go_wp2
                  refine ⟨⟨j + 1, s', v', L', by simp, by have := HLT.out; omega, HBI', HF', Lib.hid ⟨fun _ => by have := HI'.out.1; omega, HL'.out, HI'.out.2⟩⟩, ?_⟩
                  have h9 := HLT.out
                  first | omega | (show _ < _; simp [intOf]; omega)
                · have hjm : j = many.toNat := by omega
                  have g1 : decide (j < m2) = true := decide_eq_true (by have := HJ.out; have := HMM.out; have := HM2.out; omega)
                  have g1' : decide ((j : Int) < (m2 : Int)) = true := decide_eq_true (by have := HJ.out; have := HMM.out; have := HM2.out; omega)
                  have g2 : decide ((j : Int) < many) = false := decide_eq_false (by have := HJ.out; omega)
                  clear hjm
                  have HFB : Hid (∃ L, Fed 9 n0 u0 xs s L) := Lib.hid ⟨0, Fed.begin (by have := HST.out.2.2; omega) HBI.out.bd.1⟩
                  obtain ⟨wb, hwb⟩ : ∃ wb, wb = wr := ⟨wr, rfl⟩
                  subst hwb
                  obtain ⟨s0, hs0⟩ : ∃ s0, s0 = s := ⟨s, rfl⟩
                  subst hs0
                  obtain ⟨v0, hv0⟩ : ∃ v0, v0 = v := ⟨v, rfl⟩
                  subst hv0
                  have HBIB := HBI
                  clear HBI HFD HST hlt hj
                  go_wp2_with fail
                  go_loopw [19] (fun a wr => ∃ (j : Nat) (s : BSt) (v : Value) (L : Nat), a = .int .i64 (j : Int) ∧ j ≤ n4 ∧ Hid (BI B w3 wr b s v) ∧ Hid (Fed 9 n0 u0 xs s L)) (fun a _ => n4 - (intOf a).toNat)
                  case atStart =>
                    obtain ⟨L, hL⟩ := HFB.out
                    exact ⟨0, _, _, L, rfl, Nat.zero_le _, HBIB, Lib.hid hL⟩
                  case round =>
                    obtain ⟨j, s, v, L, rfl, hj, HBI, HFD⟩ := hrel
                    by_cases hlt : j < n4
                    · have g1 : decide (j < n4) = true := decide_eq_true hlt
                      have g1' : decide ((j : Int) < (n4 : Int)) = true := decide_eq_true (by omega)
                      have hlt' : (j : Int) < (n4 : Int) := by omega
                      have hj0 : (0 : Int) ≤ (j : Int) := by omega
                      obtain ⟨tb, tq, rfl, ht4⟩ := HT4.out wr HBI.out.fr j hlt
                      obtain ⟨tv, htv⟩ : ∃ tv, ts.getD j 0 = tv := ⟨_, rfl⟩
                      rw [htv] at ht4
                      obtain ⟨k, hk, hkk⟩ := tmod_small tv m1 (by have := HM1.out; omega)
                      obtain ⟨r, hr⟩ : ∃ r, tv.tmod (m1 : Int) = r := ⟨_, rfl⟩
                      rw [hr] at hkk
                      have g5 : ¬ (m1 : Int) = 0 := by have := HM1.out; omega
                      have g6 : ((m1 : Int) == 0) = false := by rw [beq_eq_false_iff_ne]; exact g5
                      have g7 : ((m1 : Int) == -1) = false := by rw [beq_eq_false_iff_ne]; omega
                      have hk' : (k : Int) < (m1 : Int) := by omega
                      have hk0 : (0 : Int) ≤ (k : Int) := by omega
                      obtain ⟨_, A9, c9, e9, hp9⟩ := HBI.out.pcs HPL.out
                      injection e9 with e9a e9b e9c
                      subst e9a e9c
                      obtain ⟨pb, po, e8, D, dm, dk, p0, p1, p2, p3, p4, hsl, _, _⟩ := hp9 k hk
                      have HDM : Hid ((dm : Int) ≤ 140737488355328) := Lib.hid (by have h1 := hsl.1; have h2 := gPc_len 9 n0 u0 xs z k; have h3 := HZ.out; omega)
                      have CA := Lib.hid (HBI.out.add HG3.out (gPc 9 n0 u0 xs z k) D dm dk _ hsl HDM.out HU0.out)
                      obtain ⟨p, hpp⟩ : ∃ p, gPc 9 n0 u0 xs z k = p := ⟨_, rfl⟩
                      subst e8
                      obtain ⟨L', hL'⟩ := HFD.out.any (z := z) (j := k) (K := K1) (by omega) HN0.out HNB0.out HZ.out.1 (by have := HM1.out; omega) HMID1.out
                      rw [hpp] at CA hL' p0 p1 p2 p3
                      have HF' := Lib.hid hL'
                      obtain ⟨s', hs'⟩ : ∃ s', s.add p = s' := ⟨_, rfl⟩
                      obtain ⟨bb, hbb⟩ : ∃ bb, s.addB p = bb := ⟨_, rfl⟩
                      rw [hs', hbb] at CA
                      rw [hs'] at HF'
                      unfold Pc.v at CA
                      have HLT := Lib.hid hlt
                      clear hp9 hsl hpp hL' hs' hbb htv hlt
                      rcases hkk with ⟨hk1, hk2⟩ | ⟨hk1, hk2⟩
                      · subst hk2
                        have g8 : decide ((k : Int) < 0) = false := decide_eq_false (by omega)
                        clear hk1
                        go_wp2_with fail
                        refine CA.out.mono ?_; rintro e w9 ⟨xv, v', rfl, hbv, hbi⟩
                        have HBI' := Lib.hid hbi
                        clear hbv hbi CA p0 p1 p2 p3 p4 ht4
                        have hb9 : (n4 : Int) ≤ 200 := HN4B.out
                        go_wp2
                        refine ⟨⟨j + 1, s', v', L', by simp, by have := HLT.out; omega, HBI', HF'⟩, ?_⟩
                        have h9 := HLT.out
                        first | omega | (show _ < _; simp [intOf]; omega)
                      · have g8 : decide (r < 0) = true := decide_eq_true hk1
                        have g9 : IntKind.i64.wrap (-r) = (k : Int) := by rw [hk2]; exact IntWalk.i64_in _ (by have := HM1.out; omega)
                        clear hk1 hk2
                        go_wp2_with fail
                        refine CA.out.mono ?_; rintro e w9 ⟨xv, v', rfl, hbv, hbi⟩
                        have HBI' := Lib.hid hbi
                        clear hbv hbi CA p0 p1 p2 p3 p4 ht4
                        have hb9 : (n4 : Int) ≤ 200 := HN4B.out
                        go_wp2
                        refine ⟨⟨j + 1, s', v', L', by simp, by have := HLT.out; omega, HBI', HF'⟩, ?_⟩
                        have h9 := HLT.out
                        first | omega | (show _ < _; simp [intOf]; omega)
                    · obtain rfl : j = n4 := by omega
                      have g1 : decide (j < j) = false := decide_eq_false (by omega)
                      have g1' : decide ((j : Int) < (j : Int)) = false := decide_eq_false (by omega)
                      obtain ⟨wc, hwc⟩ : ∃ wc, wc = wr := ⟨wr, rfl⟩
                      subst hwc
                      have HBIC := HBI
                      have HFDC := HFD
                      clear HBI HFD hj
                      go_wp2_with fail
                      go_loopw [22, 21] (fun a q wr => ∃ (j : Nat) (t : Bool) (s : BSt) (v : Value) (L : Nat), a = .int .i64 (j : Int) ∧ q = .bool t ∧ j ≤ m1 ∧ Hid (BI B w3 wr b s v) ∧ Hid (Fed 9 n0 u0 xs s L) ∧ Hid ((0 < j → ¬ s.id < 9) ∧ min (j * z) n0 ≤ L ∧ (0 < j → t = decide (n0 ≤ L)))) (fun a _ _ => m1 - (intOf a).toNat)
                      case atStart => exact ⟨0, false, _, _, _, rfl, rfl, Nat.zero_le _, HBIC, HFDC, Lib.hid ⟨fun h => by omega, by simp, fun h => by omega⟩⟩
                      case round =>
                        obtain ⟨j, t, s, v, L, rfl, rfl, hj, HBI, HFD, HST⟩ := hrel
                        by_cases hlt : j < m1
                        · have g1 : decide (j < m1) = true := decide_eq_true hlt
                          have g1' : decide ((j : Int) < (m1 : Int)) = true := decide_eq_true (by omega)
                          have g3' : (j : Int) < (m1 : Int) := by omega
                          have hj0 : (0 : Int) ≤ (j : Int) := by omega
                          obtain ⟨_, A9, c9, e9, hp9⟩ := HBI.out.pcs HPL.out
                          injection e9 with e9a e9b e9c
                          subst e9a e9c
                          obtain ⟨pb, po, e8, D, dm, dk, p0, p1, p2, p3, p4, hsl, _, _⟩ := hp9 j hlt
                          have HDM : Hid ((dm : Int) ≤ 140737488355328) := Lib.hid (by have h1 := hsl.1; have h2 := gPc_len 9 n0 u0 xs z j; have h3 := HZ.out; omega)
                          have CA := Lib.hid (HBI.out.add HG3.out (gPc 9 n0 u0 xs z j) D dm dk _ hsl HDM.out HU0.out)
                          obtain ⟨p, hpp⟩ : ∃ p, gPc 9 n0 u0 xs z j = p := ⟨_, rfl⟩
                          subst e8
                          have hKz : j * z ≤ n0 := by
                            have h1 := HM1.out
                            have h2 := Nat.mul_le_mul_right z (show j ≤ K1 by omega)
                            omega
                          have hon := HFD.out.on (z := z) (j := j) (K := K1) (by omega) HN0.out HNB0.out HZ.out.1 (by have := HM1.out; omega) HMID1.out (by have := HST.out.2.1; omega) (fun h => by have h1 := HST.out.1; by_cases h2 : 0 < j; exact absurd h (h1 h2); omega)
                          rw [hpp] at CA hon p0 p1 p2 p3
                          obtain ⟨hE0, L', hF', hI', hL', hB'⟩ := hon
                          rw [hE0, hB'] at CA
                          obtain ⟨s', hs'⟩ : ∃ s', s.add p = s' := ⟨_, rfl⟩
                          rw [hs'] at CA hF' hI'
                          unfold Pc.v at CA
                          have HL' : Hid (min ((j + 1) * z) n0 ≤ L') := Lib.hid (by rw [Nat.succ_mul]; exact hL')
                          have HF' := Lib.hid hF'
                          have HI' := Lib.hid hI'
                          have HLT := Lib.hid hlt
                          obtain ⟨t', ht'⟩ : ∃ t', decide (n0 ≤ L') = t' := ⟨_, rfl⟩
                          rw [ht'] at CA
                          have HT' := Lib.hid ht'
                          clear hp9 hsl hpp hE0 hF' hI' hL' hB' hs' hKz ht'
                          go_wp2_with fail
                          refine CA.out.mono ?_; rintro e w9 ⟨xv, v', rfl, hbv, hbi⟩
                          obtain rfl : xv = .nilIface := by unfold BrkV at hbv; rw [if_pos rfl] at hbv; exact hbv
                          have HBI' := Lib.hid hbi
                          clear hbv hbi CA p0 p1 p2 p3 p4
                          go_wp2
                          refine ⟨⟨j + 1, t', s', v', L', by simp, rfl, by have := HLT.out; omega, HBI', HF', Lib.hid ⟨fun _ => by have := HI'.out; omega, HL'.out, fun _ => HT'.out.symm⟩⟩, ?_⟩
                          have h9 := HLT.out
                          first | omega | (show _ < _; simp [intOf]; omega)
                        · obtain rfl : j = m1 := by omega
                          have g1 : decide (j < j) = false := decide_eq_false (by omega)
                          have g1' : decide ((j : Int) < (j : Int)) = false := decide_eq_false (by omega)
                          have hnL : n0 ≤ L := by
                            have h1 := HST.out.2.1
                            have h2 := HM1.out
                            have h3 : j * z = K1 * z + z := by rw [← h2.1, Nat.succ_mul]
                            omega
                          obtain rfl : t = true := by
                            have h2 := HM1.out
                            rw [HST.out.2.2 (by omega)]; exact decide_eq_true hnL
                          have hs : s = ⟨9, n0, u0, xs⟩ := by
                            rcases HFD.out with ⟨h, _⟩ | ⟨h1, h2⟩
                            · exact absurd h (HST.out.1 (by have := HM1.out; omega))
                            · rw [h2, List.take_of_length_le (by rw [HN0.out]; exact hnL)]
                          subst hs
                          have CD := Lib.hid (HBI.out.done HG3.out)
                          have hdE : BSt.doneE ⟨9, n0, u0, xs⟩ = 0 := by unfold BSt.doneE; rw [if_neg (by simp [BSt.whole, HN0.out]), if_neg (by simp [HUE0.out])]
                          rw [hdE] at CD
                          simp only at CD
                          obtain ⟨A7, c7, rfl, _, _⟩ := HBI.out.bd.own.slice
                          clear HFD HST hlt hj hnL hdE
                          go_wp2_with fail
                          refine CD.out.mono ?_; rintro e w9 ⟨xv, rfl, hbv, hbi, ho⟩
                          obtain rfl : xv = .nilIface := by unfold BrkV at hbv; rw [if_pos rfl] at hbv; exact hbv
                          have HFR := Lib.hid hbi.fr
                          have t1 := run_str8 Tryd.t8 Tryd.underlying5 Tryd.underlying9 c7 ho.rd rfl
                          have t2 := run_str8 Tryd.t8 Tryd.underlying5 Tryd.underlying9 c0 (HSD.out w9 hbi.fr).2.2.2.1 HN0.out
                          obtain ⟨st, hst⟩ : ∃ st, strOf xs = st := ⟨_, rfl⟩
                          rw [hst] at t1 t2
                          have t3 : (st.toList == st.toList) = true := by simp
                          clear hbv hbi ho CD HBI
                          go_wp2
                          go_ret
                          exact ⟨rfl, FW3.out.trans HFR.out (fun x hx h => by have h1 := FW3.out.size; have h2 := HBS.out; have h' : B ≤ x := h; omega)⟩
            · have HJ : Hid (m2 ≤ m2 ∧ (m2 : Int) ≤ many) := Lib.hid ⟨Nat.le_refl _, hmm⟩
              have HMM := Lib.hid hmm
              clear hmm
              go_wp2_with fail
              go_loopw [16] (fun a wr => ∃ (j : Nat) (s : BSt) (v : Value) (L : Nat), a = .int .i64 (j : Int) ∧ j ≤ m2 ∧ Hid (BI B w3 wr b s v) ∧ Hid (Fed 4 n2 u2 ys s L) ∧ Hid ((0 < j → ¬ s.id < 4) ∧ min (j * z) n2 ≤ L ∧ s.id ≤ 4)) (fun a _ => m2 - (intOf a).toNat)
              case atStart =>
                exact ⟨0, BSt.none, .slice none 0 0, 0, rfl, Nat.zero_le _, HB0, Lib.hid (Fed.begin (by simp [BSt.none]) BSt.none_ok), Lib.hid ⟨fun h => by omega, by simp, by simp [BSt.none]⟩⟩
              case round =>
                obtain ⟨j, s, v, L, rfl, hj, HBI, HFD, HST⟩ := hrel
                by_cases hlt : j < m2
                · have g1 : decide (j < m2) = true := decide_eq_true (by have := HJ.out; omega)
                  have g1' : decide ((j : Int) < (m2 : Int)) = true := decide_eq_true (by have := HJ.out; omega)
                  have g2 : decide ((j : Int) < many) = true := decide_eq_true (by have := HJ.out; omega)
                  have g3 : j < m2 := by have := HJ.out; omega
                  have g3' : (j : Int) < (m2 : Int) := by omega
                  obtain ⟨_, A9, c9, e9, hp9⟩ := HBI.out.pcs HPO.out
                  injection e9 with e9a e9b e9c
                  subst e9a e9c
                  obtain ⟨pb, po, e8, D, dm, dk, p0, p1, p2, p3, p4, hsl, _, _⟩ := hp9 j g3
                  have HDM : Hid ((dm : Int) ≤ 140737488355328) := Lib.hid (by have h1 := hsl.1; have h2 := gPc_len 4 n2 u2 ys z j; have h3 := HZ.out; omega)
                  have CA := Lib.hid (HBI.out.add HG3.out (gPc 4 n2 u2 ys z j) D dm dk _ hsl HDM.out HU2.out)
                  obtain ⟨p, hpp⟩ : ∃ p, gPc 4 n2 u2 ys z j = p := ⟨_, rfl⟩
                  subst e8
                  have hKz : j * z ≤ n2 := by
                    have h1 := HM2.out
                    have h2 := Nat.mul_le_mul_right z (show j ≤ K2 by omega)
                    omega
                  have hon := HFD.out.on (z := z) (j := j) (K := K2) (by omega) HN2.out HNB2.out HZ.out.1 (by have := HM2.out; omega) HMID2.out (by have := HST.out.2.1; omega) (fun h => by have h1 := HST.out.1; by_cases h2 : 0 < j; exact absurd h (h1 h2); omega)
                  rw [hpp] at CA hon p0 p1 p2 p3
                  obtain ⟨hE0, L', hF', hI', hL', hB'⟩ := hon
                  rw [hE0, hB'] at CA
                  obtain ⟨s', hs'⟩ : ∃ s', s.add p = s' := ⟨_, rfl⟩
                  rw [hs'] at CA hF' hI'
                  unfold Pc.v at CA
                  have HL' : Hid (min ((j + 1) * z) n2 ≤ L') := Lib.hid (by rw [Nat.succ_mul]; exact hL')
                  have HF' := Lib.hid hF'
                  have HI' : Hid (¬ s'.id < 4 ∧ s'.id ≤ 4) := Lib.hid ⟨hI', by rcases hF' with ⟨h, _⟩ | ⟨_, h⟩; exact absurd h hI'; rw [h]; exact Int.le_refl _⟩
                  have HLT := Lib.hid hlt
                  clear hp9 hsl hpp hE0 hF' hI' hL' hB' hs' hKz
                  go_wp2_with fail
                  refine CA.out.mono ?_; rintro e w9 ⟨xv, v', rfl, hbv, hbi⟩
                  obtain rfl : xv = .nilIface := by unfold BrkV at hbv; rw [if_pos rfl] at hbv; exact hbv
                  have HBI' := Lib.hid hbi
                  clear hbv hbi CA p0 p1 p2 p3 p4
                  go_wp2
                  refine ⟨⟨j + 1, s', v', L', by simp, by have := HLT.out; omega, HBI', HF', Lib.hid ⟨fun _ => by have := HI'.out.1; omega, HL'.out, HI'.out.2⟩⟩, ?_⟩
                  have h9 := HLT.out
                  first | omega | (show _ < _; simp [intOf]; omega)
                · obtain rfl : j = m2 := by omega
                  have g1 : decide (j < j) = false := decide_eq_false (by omega)
                  have g1' : decide ((j : Int) < (j : Int)) = false := decide_eq_false (by omega)
                  have HFB : Hid (∃ L, Fed 9 n0 u0 xs s L) := Lib.hid ⟨0, Fed.begin (by have := HST.out.2.2; omega) HBI.out.bd.1⟩
                  obtain ⟨wb, hwb⟩ : ∃ wb, wb = wr := ⟨wr, rfl⟩
                  subst hwb
                  obtain ⟨s0, hs0⟩ : ∃ s0, s0 = s := ⟨s, rfl⟩
                  subst hs0
                  obtain ⟨v0, hv0⟩ : ∃ v0, v0 = v := ⟨v, rfl⟩
                  subst hv0
                  have HBIB := HBI
                  clear HBI HFD HST hlt hj
                  go_wp2_with fail
                  go_loopw [19] (fun a wr => ∃ (j : Nat) (s : BSt) (v : Value) (L : Nat), a = .int .i64 (j : Int) ∧ j ≤ n4 ∧ Hid (BI B w3 wr b s v) ∧ Hid (Fed 9 n0 u0 xs s L)) (fun a _ => n4 - (intOf a).toNat)
                  case atStart =>
                    obtain ⟨L, hL⟩ := HFB.out
                    exact ⟨0, _, _, L, rfl, Nat.zero_le _, HBIB, Lib.hid hL⟩
                  case round =>
                    obtain ⟨j, s, v, L, rfl, hj, HBI, HFD⟩ := hrel
                    by_cases hlt : j < n4
                    · have g1 : decide (j < n4) = true := decide_eq_true hlt
                      have g1' : decide ((j : Int) < (n4 : Int)) = true := decide_eq_true (by omega)
                      have hlt' : (j : Int) < (n4 : Int) := by omega
                      have hj0 : (0 : Int) ≤ (j : Int) := by omega
                      obtain ⟨tb, tq, rfl, ht4⟩ := HT4.out wr HBI.out.fr j hlt
                      obtain ⟨tv, htv⟩ : ∃ tv, ts.getD j 0 = tv := ⟨_, rfl⟩
                      rw [htv] at ht4
                      obtain ⟨k, hk, hkk⟩ := tmod_small tv m1 (by have := HM1.out; omega)
                      obtain ⟨r, hr⟩ : ∃ r, tv.tmod (m1 : Int) = r := ⟨_, rfl⟩
                      rw [hr] at hkk
                      have g5 : ¬ (m1 : Int) = 0 := by have := HM1.out; omega
                      have g6 : ((m1 : Int) == 0) = false := by rw [beq_eq_false_iff_ne]; exact g5
                      have g7 : ((m1 : Int) == -1) = false := by rw [beq_eq_false_iff_ne]; omega
                      have hk' : (k : Int) < (m1 : Int) := by omega
                      have hk0 : (0 : Int) ≤ (k : Int) := by omega
                      obtain ⟨_, A9, c9, e9, hp9⟩ := HBI.out.pcs HPL.out
                      injection e9 with e9a e9b e9c
                      subst e9a e9c
                      obtain ⟨pb, po, e8, D, dm, dk, p0, p1, p2, p3, p4, hsl, _, _⟩ := hp9 k hk
                      have HDM : Hid ((dm : Int) ≤ 140737488355328) := Lib.hid (by have h1 := hsl.1; have h2 := gPc_len 9 n0 u0 xs z k; have h3 := HZ.out; omega)
                      have CA := Lib.hid (HBI.out.add HG3.out (gPc 9 n0 u0 xs z k) D dm dk _ hsl HDM.out HU0.out)
                      obtain ⟨p, hpp⟩ : ∃ p, gPc 9 n0 u0 xs z k = p := ⟨_, rfl⟩
                      subst e8
                      obtain ⟨L', hL'⟩ := HFD.out.any (z := z) (j := k) (K := K1) (by omega) HN0.out HNB0.out HZ.out.1 (by have := HM1.out; omega) HMID1.out
                      rw [hpp] at CA hL' p0 p1 p2 p3
                      have HF' := Lib.hid hL'
                      obtain ⟨s', hs'⟩ : ∃ s', s.add p = s' := ⟨_, rfl⟩
                      obtain ⟨bb, hbb⟩ : ∃ bb, s.addB p = bb := ⟨_, rfl⟩
                      rw [hs', hbb] at CA
                      rw [hs'] at HF'
                      unfold Pc.v at CA
                      have HLT := Lib.hid hlt
                      clear hp9 hsl hpp hL' hs' hbb htv hlt
                      rcases hkk with ⟨hk1, hk2⟩ | ⟨hk1, hk2⟩
                      · subst hk2
                        have g8 : decide ((k : Int) < 0) = false := decide_eq_false (by omega)
                        clear hk1
                        go_wp2_with fail
                        refine CA.out.mono ?_; rintro e w9 ⟨xv, v', rfl, hbv, hbi⟩
                        have HBI' := Lib.hid hbi
                        clear hbv hbi CA p0 p1 p2 p3 p4 ht4
                        have hb9 : (n4 : Int) ≤ 200 := HN4B.out
                        go_wp2
                        refine ⟨⟨j + 1, s', v', L', by simp, by have := HLT.out; omega, HBI', HF'⟩, ?_⟩
                        have h9 := HLT.out
                        first | omega | (show _ < _; simp [intOf]; omega)
                      · have g8 : decide (r < 0) = true := decide_eq_true hk1
                        have g9 : IntKind.i64.wrap (-r) = (k : Int) := by rw [hk2]; exact IntWalk.i64_in _ (by have := HM1.out; omega)
                        clear hk1 hk2
                        go_wp2_with fail
                        refine CA.out.mono ?_; rintro e w9 ⟨xv, v', rfl, hbv, hbi⟩
                        have HBI' := Lib.hid hbi
                        clear hbv hbi CA p0 p1 p2 p3 p4 ht4
                        have hb9 : (n4 : Int) ≤ 200 := HN4B.out
                        go_wp2
                        refine ⟨⟨j + 1, s', v', L', by simp, by have := HLT.out; omega, HBI', HF'⟩, ?_⟩
                        have h9 := HLT.out
                        first | omega | (show _ < _; simp [intOf]; omega)
                    · obtain rfl : j = n4 := by omega
                      have g1 : decide (j < j) = false := decide_eq_false (by omega)
                      have g1' : decide ((j : Int) < (j : Int)) = false := decide_eq_false (by omega)
                      obtain ⟨wc, hwc⟩ : ∃ wc, wc = wr := ⟨wr, rfl⟩
                      subst hwc
                      have HBIC := HBI
                      have HFDC := HFD
                      clear HBI HFD hj
                      go_wp2_with fail
                      go_loopw [22, 21] (fun a q wr => ∃ (j : Nat) (t : Bool) (s : BSt) (v : Value) (L : Nat), a = .int .i64 (j : Int) ∧ q = .bool t ∧ j ≤ m1 ∧ Hid (BI B w3 wr b s v) ∧ Hid (Fed 9 n0 u0 xs s L) ∧ Hid ((0 < j → ¬ s.id < 9) ∧ min (j * z) n0 ≤ L ∧ (0 < j → t = decide (n0 ≤ L)))) (fun a _ _ => m1 - (intOf a).toNat)
                      case atStart => exact ⟨0, false, _, _, _, rfl, rfl, Nat.zero_le _, HBIC, HFDC, Lib.hid ⟨fun h => by omega, by simp, fun h => by omega⟩⟩
                      case round =>
                        obtain ⟨j, t, s, v, L, rfl, rfl, hj, HBI, HFD, HST⟩ := hrel
                        by_cases hlt : j < m1
                        · have g1 : decide (j < m1) = true := decide_eq_true hlt
                          have g1' : decide ((j : Int) < (m1 : Int)) = true := decide_eq_true (by omega)
                          have g3' : (j : Int) < (m1 : Int) := by omega
                          have hj0 : (0 : Int) ≤ (j : Int) := by omega
                          obtain ⟨_, A9, c9, e9, hp9⟩ := HBI.out.pcs HPL.out
                          injection e9 with e9a e9b e9c
                          subst e9a e9c
                          obtain ⟨pb, po, e8, D, dm, dk, p0, p1, p2, p3, p4, hsl, _, _⟩ := hp9 j hlt
                          have HDM : Hid ((dm : Int) ≤ 140737488355328) := Lib.hid (by have h1 := hsl.1; have h2 := gPc_len 9 n0 u0 xs z j; have h3 := HZ.out; omega)
                          have CA := Lib.hid (HBI.out.add HG3.out (gPc 9 n0 u0 xs z j) D dm dk _ hsl HDM.out HU0.out)
                          obtain ⟨p, hpp⟩ : ∃ p, gPc 9 n0 u0 xs z j = p := ⟨_, rfl⟩
                          subst e8
                          have hKz : j * z ≤ n0 := by
                            have h1 := HM1.out
                            have h2 := Nat.mul_le_mul_right z (show j ≤ K1 by omega)
                            omega
                          have hon := HFD.out.on (z := z) (j := j) (K := K1) (by omega) HN0.out HNB0.out HZ.out.1 (by have := HM1.out; omega) HMID1.out (by have := HST.out.2.1; omega) (fun h => by have h1 := HST.out.1; by_cases h2 : 0 < j; exact absurd h (h1 h2); omega)
                          rw [hpp] at CA hon p0 p1 p2 p3
                          obtain ⟨hE0, L', hF', hI', hL', hB'⟩ := hon
                          rw [hE0, hB'] at CA
                          obtain ⟨s', hs'⟩ : ∃ s', s.add p = s' := ⟨_, rfl⟩
                          rw [hs'] at CA hF' hI'
                          unfold Pc.v at CA
                          have HL' : Hid (min ((j + 1) * z) n0 ≤ L') := Lib.hid (by rw [Nat.succ_mul]; exact hL')
                          have HF' := Lib.hid hF'
                          have HI' := Lib.hid hI'
                          have HLT := Lib.hid hlt
                          obtain ⟨t', ht'⟩ : ∃ t', decide (n0 ≤ L') = t' := ⟨_, rfl⟩
                          rw [ht'] at CA
                          have HT' := Lib.hid ht'
                          clear hp9 hsl hpp hE0 hF' hI' hL' hB' hs' hKz ht'
                          go_wp2_with fail
                          refine CA.out.mono ?_; rintro e w9 ⟨xv, v', rfl, hbv, hbi⟩
                          obtain rfl : xv = .nilIface := by unfold BrkV at hbv; rw [if_pos rfl] at hbv; exact hbv
                          have HBI' := Lib.hid hbi
                          clear hbv hbi CA p0 p1 p2 p3 p4
                          go_wp2
                          refine ⟨⟨j + 1, t', s', v', L', by simp, rfl, by have := HLT.out; omega, HBI', HF', Lib.hid ⟨fun _ => by have := HI'.out; omega, HL'.out, fun _ => HT'.out.symm⟩⟩, ?_⟩
                          have h9 := HLT.out
                          first | omega | (show _ < _; simp [intOf]; omega)
                        · obtain rfl : j = m1 := by omega
                          have g1 : decide (j < j) = false := decide_eq_false (by omega)
                          have g1' : decide ((j : Int) < (j : Int)) = false := decide_eq_false (by omega)
                          have hnL : n0 ≤ L := by
                            have h1 := HST.out.2.1
                            have h2 := HM1.out
                            have h3 : j * z = K1 * z + z := by rw [← h2.1, Nat.succ_mul]
                            omega
                          obtain rfl : t = true := by
                            have h2 := HM1.out
                            rw [HST.out.2.2 (by omega)]; exact decide_eq_true hnL
                          have hs : s = ⟨9, n0, u0, xs⟩ := by
                            rcases HFD.out with ⟨h, _⟩ | ⟨h1, h2⟩
                            · exact absurd h (HST.out.1 (by have := HM1.out; omega))
                            · rw [h2, List.take_of_length_le (by rw [HN0.out]; exact hnL)]
                          subst hs
                          have CD := Lib.hid (HBI.out.done HG3.out)
                          have hdE : BSt.doneE ⟨9, n0, u0, xs⟩ = 0 := by unfold BSt.doneE; rw [if_neg (by simp [BSt.whole, HN0.out]), if_neg (by simp [HUE0.out])]
                          rw [hdE] at CD
                          simp only at CD
                          obtain ⟨A7, c7, rfl, _, _⟩ := HBI.out.bd.own.slice
                          clear HFD HST hlt hj hnL hdE
                          go_wp2_with fail
                          refine CD.out.mono ?_; rintro e w9 ⟨xv, rfl, hbv, hbi, ho⟩
                          obtain rfl : xv = .nilIface := by unfold BrkV at hbv; rw [if_pos rfl] at hbv; exact hbv
                          have HFR := Lib.hid hbi.fr
                          have t1 := run_str8 Tryd.t8 Tryd.underlying5 Tryd.underlying9 c7 ho.rd rfl
                          have t2 := run_str8 Tryd.t8 Tryd.underlying5 Tryd.underlying9 c0 (HSD.out w9 hbi.fr).2.2.2.1 HN0.out
                          obtain ⟨st, hst⟩ : ∃ st, strOf xs = st := ⟨_, rfl⟩
                          rw [hst] at t1 t2
                          have t3 : (st.toList == st.toList) = true := by simp
                          clear hbv hbi ho CD HBI
                          go_wp2
                          go_ret
                          exact ⟨rfl, FW3.out.trans HFR.out (fun x hx h => by have h1 := FW3.out.size; have h2 := HBS.out; have h' : B ≤ x := h; omega)⟩
end Go.Proofs.YtacafjbbdklleaaDoor
