/- The walk of NetLoses, on. -/
import Derived.Test.YtmlckocgahfnkaaNu
namespace Go.Proofs.Ytmlckocgahfnkaa
open Go.RowKit

/-- What is left of the packets behind c clears. -/
def geC (l : List Pk) (c : Nat) : List Pk := l.filter fun p => decide ((c : Int) ≤ p.to)
theorem geC_zero {l : List Pk} (h : ∀ p ∈ l, 0 ≤ p.to ∧ p.to ≤ 3) : geC l 0 = l := by
  unfold geC; rw [List.filter_eq_self]; intro p hp; have := h p hp; simp; omega
theorem geC_four {l : List Pk} (h : ∀ p ∈ l, 0 ≤ p.to ∧ p.to ≤ 3) : geC l 4 = [] := by
  unfold geC; rw [List.filter_eq_nil_iff]; intro p hp; have := h p hp; simp; omega
theorem geC_step (l : List Pk) (c : Nat) : (geC l c).filter (fun p => !(decide (p.to = (c : Int)))) = geC l (c + 1) := by
  unfold geC; rw [List.filter_filter]; congr 1; funext p; rw [Bool.eq_iff_iff]; simp; omega

set_option maxRecDepth 100000 in
set_option maxHeartbeats 8000000 in
theorem loses_yes (A : Option Addr) (n c : Nat) (l : List NAct) (a b : Int) (w : World) (hl : NActs w w.heap.size A l) (hn : l.length = n) (hnb : (n : Int) ≤ 9223372036854775807) (hfw : nfew l = true) (ha0 : 0 ≤ a) (ha3 : a ≤ 3) (hb0 : 0 ≤ b) (hb3 : b ≤ 3) (hab : a ≠ b) :
    Calls Try.prog 4 #[.slice A n c, .int .i64 a, .int .i64 b] w fun e w' => e = .returned (.bool true) ∧ Fr (fun _ => False) w w' := by
  have CF := Lib.hid (fun w' (hf : Fr (fun _ => False) w w') => nfew_any A n c w.heap.size l w' (hl.fr hf (fun _ _ h => h)) hn hnb)
  rw [hfw] at CF
  have d5 : (a == b) = false := by simpa using hab
  have d1 : decide (a < 0) = false := by simpa using ha0
  have d2 : decide (b < 0) = false := by simpa using hb0
  have d3 : decide (3 < a) = false := by simpa using ha3
  have d4 : decide (3 < b) = false := by simpa using hb3
  have hn2 : (n : Int) ≤ 200 := by have := (nfew_yes hfw).1; omega
  have HW := Lib.hid (nfew_yes hfw).2
  have HL := Lib.hid hl
  have HN := Lib.hid hn
  have HAB := Lib.hid hab
  clear hl hn hnb hfw hab
  go_enter Try.func4, Try.ntmps4
  go_wp2_with fail
  refine (known_any w).mono ?_; rintro e w0 ⟨rfl, hf0⟩
  have HF := Lib.hid hf0
  clear hf0
  go_wp2_with fail
  refine (CF.out _ HF.out).mono ?_; rintro e w1 ⟨rfl, hf1⟩
  have HF1 := Lib.hid (HF.out.trans hf1 (fun _ _ h => h))
  clear hf1 CF HF
  go_wp2_with fail
  refine (RunN.made 4 w1 (by omega) (by omega)).mono ?_; rintro e w2 ⟨g, F, rfl, h1⟩
  have H1 := Lib.hid (show RunN w w2 g (NS.new 4) F from ⟨h1.nt, fun k hk => Nat.le_trans HF1.out.size (h1.low k hk), HF1.out.trans h1.fr (fun _ _ h => h)⟩)
  clear h1 HF1
  have hce : (NS.new 4).cutErr a b = false := by
    unfold NS.cutErr NS.is NS.new
    simp
    exact ⟨⟨⟨ha0, by omega⟩, hb0, by omega⟩, HAB.out⟩
  have C2 := Lib.hid (H1.out.cutC (by decide) a b)
  rw [show (NS.new 4).cutR a b = 0 from by unfold NS.cutR; rw [hce]; rfl, show (NS.new 4).cutS a b = (NS.new 4).cut a b from by unfold NS.cutS; rw [hce]; rfl] at C2
  clear hce
  go_wp2_with fail
  refine C2.out.mono ?_; rintro e w3 ⟨rfl, F3, R3, _, _⟩
  have H3 := Lib.hid R3
  clear C2 R3 H1
  go_wp2_with fail
  go_loopw [9, 10] (fun u v wr => ∃ (k : Nat) (s : NS) (F : Nat → Prop), u = .int .i64 (s.l.length : Int) ∧ v = .int .i64 (k : Int) ∧ k ≤ n ∧ LI a b k s ∧ RunN w wr g s F) (fun _ v _ => n - (intOf v).toNat)
  case atStart => exact ⟨0, _, F3, rfl, rfl, Nat.zero_le _, LI.start a b, H3.out⟩
  case round =>
    obtain ⟨k, s, F, rfl, rfl, hk, hli, hR⟩ := hrel
    have HI := Lib.hid hli
    have HR := Lib.hid hR
    have hk0 : (0 : Int) ≤ (k : Int) := by omega
    have hsl : (s.l.length : Int) ≤ 200 := by have h1 := hli.len; have h2 := hli.sent; omega
    have hs0 : (0 : Int) ≤ (s.l.length : Int) := by omega
    clear hli hR H3
    by_cases hlt : k < n
    · have hlt' : (k : Int) < n := by omega
      obtain ⟨b', o, rfl, hat⟩ := (HL.out.fr HR.out.fr (fun _ _ h => h)).at_ (i := k) (by rw [HN.out]; exact hlt)
      have hbl := HW.out k (by rw [HN.out]; exact hlt)
      generalize l.getD k default = q at *
      have e0 := hat.c0
      have e1 := hat.c1
      have e2 := hat.c2
      have e3 := hat.c3
      have HRB := Lib.hid hat.rb
      obtain ⟨x, hx⟩ : ∃ x, bits .and .i64 q.a 3 = x := ⟨_, rfl⟩
      obtain ⟨y, hy⟩ : ∃ y, bits .and .i64 q.b 3 = y := ⟨_, rfl⟩
      have hxb := and3 q.a
      have hyb := and3 q.b
      rw [hx] at hxb
      rw [hy] at hyb
      obtain ⟨hx0, hx3⟩ := hxb
      obtain ⟨hy0, hy3⟩ := hyb
      have HBL := Lib.hid hbl
      clear hat hbl
      by_cases ho : q.op = 1
      · have ho' : (q.op != 1) = false := by simpa using ho
        rw [ho] at e0
        have C4 := Lib.hid (HR.out.sendC (by have := HI.out.sent; omega) (by omega) x y q.bA q.bs.length q.bc q.bs HRB.out rfl)
        rw [HI.out.err hx0 hx3 hy0 hy3 (by have := HBL.out; omega)] at C4
        have HS := Lib.hid (HI.out.send hx0 hx3 hy0 hy3 (bs := q.bs) (by have := HBL.out; omega))
        have HD := Lib.hid (show decide (pr x y = pr a b) = (((x == a) && (y == b)) || ((x == b) && (y == a))) by rw [Bool.eq_iff_iff]; simp [pr_iff])
        generalize hbsl : q.bs.length = bl at *
        go_wp2_with fail
        refine C4.out.mono ?_; rintro e w5 ⟨rfl, F5, R5, _, _⟩
        have H5 := Lib.hid R5
        clear R5 C4
        obtain ⟨f1, hf1⟩ : ∃ f1, (x == a) = f1 := ⟨_, rfl⟩
        obtain ⟨f2, hf2⟩ : ∃ f2, (y == b) = f2 := ⟨_, rfl⟩
        obtain ⟨f3, hf3⟩ : ∃ f3, (x == b) = f3 := ⟨_, rfl⟩
        obtain ⟨f4, hf4⟩ : ∃ f4, (y == a) = f4 := ⟨_, rfl⟩
        have HDD := Lib.hid (show decide (pr x y = pr a b) = ((f1 && f2) || (f3 && f4)) by rw [HD.out, hf1, hf2, hf3, hf4])
        clear HD
        cases f1 <;> cases f2 <;> cases f3 <;> cases f4
        all_goals
          go_wp2
          refine ⟨⟨k + 1, _, F5, ?_, by simp, by omega, HS.out.1, H5.out⟩, ?_⟩
          · rw [HS.out.2, HDD.out]; simp
          · first | omega | (show _ < _; simp [intOf]; omega)
      · have ho' : (q.op != 1) = true := by simpa using ho
        go_wp2
        refine ⟨⟨k + 1, s, F, rfl, by simp, by omega, HI.out.more, HR.out⟩, ?_⟩
        first | omega | (show _ < _; simp [intOf]; omega)
    · obtain rfl : k = n := by omega
      have C6 := Lib.hid (HR.out.nt.wait (by omega))
      go_wp2_with fail
      refine C6.out.mono ?_; rintro e w6 ⟨v, ks, rfl, ht, hks, hf6⟩
      have hkl : ks.length = s.l.length := by have := congrArg List.length hks; simpa using this
      obtain ⟨Av, cv, rfl, _, hcv, hAv⟩ := ht.row.form
      obtain ⟨m, hm⟩ : ∃ m, ks.length = m := ⟨_, rfl⟩
      have HT := Lib.hid ht
      have HKS := Lib.hid hks
      have H7 := Lib.hid (HR.out.on0 hf6)
      have HAV := Lib.hid hAv
      have HM := Lib.hid hm
      rw [← hkl] at hsl hs0 ⊢
      rw [hm] at hsl hs0 ⊢
      have HKL := Lib.hid hkl
      clear ht hks hf6 hcv hAv hm hkl C6 HR
      go_wp2_with fail
      go_loopw [14] (fun u wr2 => ∃ i : Nat, u = .int .i64 (i : Int) ∧ i ≤ m ∧ Fr (fun _ => False) w6 wr2) (fun u _ => m - (intOf u).toNat)
      case atStart => exact ⟨0, rfl, Nat.zero_le _, Fr.refl _ _⟩
      case round =>
        obtain ⟨i, rfl, hi, hf⟩ := hrel
        have HF := Lib.hid hf
        have hi0 : (0 : Int) ≤ (i : Int) := by omega
        clear hf
        by_cases hlt2 : i < m
        · have hlt2' : (i : Int) < (m : Int) := by omega
          obtain ⟨lb, lo, rfl⟩ := HAV.out (by have := HM.out; omega)
          have hik : i < ks.length := by rw [HM.out]; exact hlt2
          obtain ⟨e0, e1, e2, _⟩ := (HT.out.fr0 HF.out).row.at4 (i := i) (fun j hj => kpc_at hik hj)
          have hpm : (ks.getD i default).pk ∈ s.l := by rw [← HKS.out]; exact List.mem_map.2 ⟨_, getD_mem hik, rfl⟩
          obtain ⟨t1, t2⟩ := HI.out.tests hpm
          obtain ⟨f1, hf1⟩ : ∃ f1, ((ks.getD i default).pk.fr == a) = f1 := ⟨_, rfl⟩
          obtain ⟨f2, hf2⟩ : ∃ f2, ((ks.getD i default).pk.to == b) = f2 := ⟨_, rfl⟩
          obtain ⟨f3, hf3⟩ : ∃ f3, ((ks.getD i default).pk.fr == b) = f3 := ⟨_, rfl⟩
          obtain ⟨f4, hf4⟩ : ∃ f4, ((ks.getD i default).pk.to == a) = f4 := ⟨_, rfl⟩
          rw [hf1, hf2] at t1
          rw [hf3, hf4] at t2
          by_cases hz : i = 0
          · subst hz
            simp only [Nat.zero_mul, Nat.add_zero] at e0 e1 e2
            clear hik hpm
            generalize ks.getD 0 default = q at *
            cases f1 <;> cases f2 <;> cases f3 <;> cases f4 <;> simp at t1 t2
            all_goals
              go_wp2_with fail
              go_quiet (fail)
              go_wp2
              refine ⟨⟨0 + 1, by simp, by omega, HF.out.drewN _⟩, ?_⟩
              first | omega | (show _ < _; simp [intOf]; omega)
          · obtain ⟨i', rfl⟩ : ∃ i', i = i' + 1 := ⟨i - 1, by omega⟩
            have hik' : i' < ks.length := by omega
            obtain ⟨_, _, g2, _⟩ := (HT.out.fr0 HF.out).row.at4 (i := i') (fun j hj => kpc_at hik' hj)
            have hup : decide ((((ks.getD (i' + 1) default).pk.n : Nat) : Int) ≤ (((ks.getD i' default).pk.n : Nat) : Int)) = false := by
              have h1 := HI.out.up
              rw [← HKS.out] at h1
              have h2 := List.pairwise_iff_getElem.1 h1 i' (i' + 1) (by simpa using hik') (by simpa using hik) (by omega)
              rw [List.getElem_map, List.getElem_map] at h2
              rw [show ks.getD (i' + 1) default = ks[i' + 1] by simp [List.getD, hik], show ks.getD i' default = ks[i'] by simp [List.getD, hik']]
              rw [decide_eq_false_iff_not]; omega
            have hpos : decide ((0 : Int) < ((i' + 1 : Nat) : Int)) = true := by simp
            have hsub : ((i' + 1 : Nat) : Int) - 1 = (i' : Int) := by omega
            have hi'0 : (0 : Int) ≤ (i' : Int) := by omega
            have hi'm : (i' : Int) < (m : Int) := by omega
            clear hik hpm hik'
            generalize (((ks.getD (i' + 1) default).pk.n : Nat) : Int) = N1 at *
            generalize (((ks.getD i' default).pk.n : Nat) : Int) = N0 at *
            generalize ks.getD (i' + 1) default = q at *
            cases f1 <;> cases f2 <;> cases f3 <;> cases f4 <;> simp at t1 t2
            all_goals
              go_wp2_with fail
              go_quiet (fail)
              go_wp2
              refine ⟨⟨i' + 1 + 1, by simp, by omega, HF.out.drewN _⟩, ?_⟩
              first | omega | (show _ < _; simp [intOf]; omega)
        · obtain rfl : i = m := by omega
          have H8 := Lib.hid (H7.out.on0 HF.out)
          go_wp2_with fail
          have HQ := Lib.hid (HI.out.len)
          have HTO := Lib.hid (HI.out.to3)
          have HLEN := Lib.hid (show s.l.length = i by rw [← HKL.out]; exact HM.out)
          clear HT HKS HAV HM HKL H7 HI HL HW HN
          go_loopw [15, 16] (fun u v wr => ∃ (c d : Nat) (sc : NS) (F : Nat → Prop), u = .int .i64 (d : Int) ∧ v = .int .i64 (c : Int) ∧ c ≤ 4 ∧ d + sc.l.length = i ∧ sc.l = geC s.l c ∧ RunN w wr g sc F) (fun _ v _ => 4 - (intOf v).toNat)
          case atStart => exact ⟨0, 0, s, _, rfl, rfl, by omega, by rw [HLEN.out]; omega, (geC_zero HTO.out).symm, H8.out⟩
          case round =>
            obtain ⟨q, d, sc, F9, rfl, rfl, hq, hd, hsc, hR9⟩ := hrel
            have HR9 := Lib.hid hR9
            have HSC := Lib.hid hsc
            have HDL := Lib.hid hd
            have hd0 : (0 : Int) ≤ (d : Int) := by omega
            have hd1 : (d : Int) ≤ 200 := by omega
            have hq0 : (0 : Int) ≤ (q : Int) := by omega
            have hq1 : (q : Int) ≤ 4 := by omega
            clear hsc hR9 hd
            by_cases hlt3 : q < 4
            · have hlt3' : (q : Int) < 4 := by omega
              have CC := Lib.hid (HR9.out.clearC (by have := HDL.out; omega) (q : Int))
              have hle : (sc.clear (q : Int)).l.length ≤ sc.l.length := List.length_filter_le _ _
              obtain ⟨x, hx⟩ : ∃ x : Nat, sc.l.length = (sc.clear (q : Int)).l.length + x := ⟨sc.l.length - (sc.clear (q : Int)).l.length, by omega⟩
              rw [show ((sc.l.length : Int) - ((sc.clear (q : Int)).l.length : Int)) = (x : Int) by omega] at CC
              have hx0 : (0 : Int) ≤ (x : Int) := by omega
              have hx1 : (d : Int) + (x : Int) ≤ 200 := by have := HDL.out; omega
              have hx2 : (x : Int) ≤ 200 := by omega
              have HX := Lib.hid (show (d + x) + (sc.clear (q : Int)).l.length = i by have := HDL.out; omega)
              have HSD := Lib.hid (show (sc.clear (q : Int)).l = geC s.l (q + 1) by rw [← geC_step, ← HSC.out]; rfl)
              clear hle hx
              go_wp2_with fail
              refine CC.out.mono ?_; rintro e w9 ⟨rfl, F10, R10, _, _⟩
              have H10 := Lib.hid R10
              clear CC R10
              go_wp2
              refine ⟨⟨q + 1, d + x, _, F10, by simp, by simp, by omega, HX.out, HSD.out, H10.out⟩, ?_⟩
              first | omega | (show _ < _; simp [intOf]; omega)
            · obtain rfl : q = 4 := by omega
              have hnil : sc.l = [] := by rw [HSC.out]; exact geC_four HTO.out
              have hdi : d = i := by have := HDL.out; rw [hnil] at this; simpa using this
              subst hdi
              have C11 := Lib.hid (HR9.out.nt.wait (by rw [hnil]; simp))
              have HNIL := Lib.hid hnil
              clear hnil
              go_wp2_with fail
              refine C11.out.mono ?_; rintro e w11 ⟨v, ks', rfl, ht, hks', hf11⟩
              rw [HNIL.out] at hks'
              obtain rfl : ks' = [] := by simpa using hks'
              obtain ⟨Av2, cv2, rfl, _⟩ := ht.row.form
              have H12 := Lib.hid (HR9.out.on0 hf11)
              clear ht hf11 C11
              go_wp2
              go_ret
              exact ⟨by simp, H12.out.fr⟩
end Go.Proofs.Ytmlckocgahfnkaa
