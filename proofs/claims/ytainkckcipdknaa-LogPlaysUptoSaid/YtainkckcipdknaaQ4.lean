/- LogPlays, walked. -/
import Derived.Test.YtainkckcipdknaaQ3
namespace Go.Proofs.Ytainkckcipdknaa
open Go.RowKit

set_option maxRecDepth 100000 in
set_option maxHeartbeats 8000000 in
theorem plays_any (index term : Int) (A : Option Addr) (n c : Nat) (ps : List EL) (A3 : Option Addr) (n3 c3 : Nat) (l : List Ac) (w : World) (h : Es w A n ps (fun k => k < w.heap.size)) (hn : n ≤ 1048576) (hl : Acs w w.heap.size A3 l) (hl3 : l.length = n3) (hn3 : n3 ≤ 1048576) (has : asum l ≤ 1048576)
    (i0 : -9223372036854775808 ≤ index) (t1 : term ≤ 9223372036854775807) :
    Calls Try.prog 3 #[.int .i64 index, .int .i64 term, .slice A n c, .slice A3 n3 c3] w fun e w' => e = .returned (.bool true) ∧ Fr (fun _ => False) w w' := by
  have H := Lib.hid h
  have HL := Lib.hid hl
  have HL3 := Lib.hid hl3
  have HN : Hid (n ≤ 1048576 ∧ n3 ≤ 1048576 ∧ asum l ≤ 1048576) := Lib.hid ⟨hn, hn3, has⟩
  have hn3I : (n3 : Int) ≤ 1048576 := by omega
  clear h hl hl3 hn hn3 has
  go_enter Try.func3, Try.ntmps3
  go_wp2_with fail
  refine (known_any w).mono ?_; rintro e w1 ⟨rfl, hf1⟩
  have HF1 := Lib.hid hf1
  clear hf1
  go_wp2_with fail
  refine (few_qa A n c ps _ A3 n3 c3 w.heap.size l w1 (H.out.fr0 HF1.out) (by have := HN.out.1; omega) (HL.out.fr0 HF1.out) HL3.out HN.out.2.1).mono ?_; rintro e wq ⟨q1, rfl, rfl⟩
  cases q1 with
  | false =>
    go_wp2
    go_ret
    exact ⟨rfl, HF1.out⟩
  | true =>
    by_cases hix : index ≤ 1099511627776
    · have dix : decide ((1099511627776 : Int) < index) = false := decide_eq_false (by omega)
      have C1 := Lib.hid (lgNew index term A n c ps _ w1 (H.out.fr0 HF1.out) (fun k hk => Nat.lt_of_lt_of_le hk HF1.out.size) (by have := HN.out.1; omega) hix t1)
      unfold NewL at C1
      have CF := Lib.hid (fun w' (hf : Fr (fun _ => False) w w') => of_any A n c ps _ w' (H.out.fr0 hf) (by have := HN.out.1; omega))
      have CN := Lib.hid (fun w0 w' A' c' (hf : Fr (fun _ => False) w w0) (hr : Rw w0 w' 68 (.slice A' n c') ps) => refNew index term A' n c' ps _ w' (hr.es2 (H.out.fr0 hf)) (by have := HN.out.1; omega) hix)
      unfold NewL at CN
      have HIX := Lib.hid hix
      cases hb : (begins index term && rise term (ps.map EL.e)) with
      | false =>
        simp only [hb, Bool.false_eq_true, if_false] at C1 CN
        clear hb hix
        go_wp2_with fail
        refine C1.out.mono ?_; rintro e w2 ⟨rfl, hf2⟩
        have HF2 := Lib.hid (HF1.out.trans hf2 (fun _ _ h => h))
        clear hf2 C1
        go_wp2_with fail
        refine (CF.out w2 HF2.out).mono ?_; rintro e w3 ⟨A', c', rfl, hrw⟩
        have HF3 := Lib.hid (HF2.out.trans hrw.fr (fun _ _ h => h))
        have C3 := Lib.hid (CN.out w2 w3 A' c' HF2.out hrw)
        clear hrw
        go_wp2_with fail
        refine C3.out.mono ?_; rintro e w4 ⟨rfl, hf4⟩
        have HF4 := Lib.hid (HF3.out.trans hf4 (fun _ _ h => h))
        clear hf4
        go_wp2
        go_ret
        exact ⟨rfl, HF4.out⟩
      | true =>
        simp only [hb, if_true] at C1 CN
        clear hb hix
        obtain ⟨s0, hs0⟩ : ∃ s0 : LG, (⟨index.toNat, term, ps.map EL.e⟩ : LG) = s0 := ⟨_, rfl⟩
        have HSM : Hid (Sm s0 n) := Lib.hid (by
          rw [← hs0]
          have hlen : (ps.map EL.e).length = n := by rw [List.length_map]; exact H.out.len
          have := HIX.out
          unfold Sm
          simp only [hlen]
          omega)
        rw [hs0] at C1
        simp only [hs0] at CN
        go_wp2_with fail
        refine C1.out.mono ?_; rintro e w2 ⟨g, F, rfl, hg, hf2, hnF, _⟩
        have HF2 := Lib.hid (HF1.out.trans hf2 (fun _ _ h => h))
        have HG2 := Lib.hid hg
        have HNF : Hid (∀ k, F k → w.heap.size ≤ k) := Lib.hid (fun k hk => Nat.le_trans HF1.out.size (hnF k hk))
        clear hf2 C1 hg hnF
        go_wp2_with fail
        refine (CF.out w2 HF2.out).mono ?_; rintro e w3 ⟨A', c', rfl, hrw⟩
        have HF3 := Lib.hid (HF2.out.trans hrw.fr (fun _ _ h => h))
        have HG3 := Lib.hid (HG2.out.fr0 hrw.fr)
        have C3 := Lib.hid (CN.out w2 w3 A' c' HF2.out hrw)
        clear hrw
        go_wp2_with fail
        refine C3.out.mono ?_; rintro e w4 ⟨gr, G, rfl, hgr, hf4, hnG, _⟩
        have HF4 := Lib.hid (HF3.out.trans hf4 (fun _ _ h => h))
        have HPP : Hid (PP w w4 g gr s0 s0 F G) := Lib.hid ⟨HG3.out.fr0 hf4, hgr, HF4.out, HNF.out, fun k hk => Nat.le_trans HF3.out.size (hnG k hk), fun k hk hG => by have h1 := HG3.out.lt hk; have h2 := hnG k hG; omega⟩
        clear hf4 C3 hgr hnG CF CN hs0
        go_wp2_with fail
        go_loopw [13] (fun i wr => ∃ (k : Nat) (s : LG) (F G : Nat → Prop), i = .int .i64 (k : Int) ∧ k ≤ n3 ∧ PP w wr g gr s s F G ∧ Sm s (n + enN l k)) (fun i _ => n3 - (intOf i).toNat)
        case atStart => exact ⟨0, s0, F, G, rfl, Nat.zero_le _, HPP.out, by simpa [enN] using HSM.out⟩
        case round =>
          clear HPP HSM HG2 HG3 HF2 HF3 HF4 HNF
          obtain ⟨k, s, F', G', rfl, hk, hp, hs⟩ := hrel
          have HP := Lib.hid hp
          have HS := Lib.hid hs
          clear hp hs
          by_cases hlt : k < n3
          · have hltI : (k : Int) < n3 := by omega
            obtain ⟨b, o, rfl, hat⟩ := (HL.out.fr0 HP.out.fr).at (i := k) (by rw [HL3.out]; exact hlt)
            have HEN := Lib.hid (enN_succ (l := l) (k := k) (by rw [HL3.out]; exact hlt))
            have HLE := Lib.hid (enN_le l k)
            obtain ⟨b0, o0, e0, hat0⟩ := HL.out.at (i := k) (by rw [HL3.out]; exact hlt)
            have HES0 := Lib.hid hat0.es
            clear hat0 e0
            generalize l.getD k default = q at *
            have C5 := Lib.hid (step_any q HP.out HS.out (by have := HN.out; have := HLE.out; omega) hat.ok (by
              exact HES0.out))
            have k0 := hat.cs 0 (by omega)
            have k1 := hat.cs 1 (by omega)
            have k2 := hat.cs 2 (by omega)
            have k3 := hat.cs 3 (by omega)
            have k4 := hat.cs 4 (by omega)
            have k5 := hat.cs 5 (by omega)
            rw [Nat.add_zero] at k0
            unfold Ac.cells at k0 k1 k2 k3 k4 k5
            simp only [List.getElem?_cons_zero, List.getElem?_cons_succ] at k0 k1 k2 k3 k4 k5
            clear hat
            go_wp2_with fail
            refine C5.out.mono ?_; rintro e w5 ⟨rfl, s', F'', G'', hp', hs'⟩
            have HP' := Lib.hid hp'
            have HS' : Hid (Sm s' (n + enN l (k + 1))) := Lib.hid (by rw [HEN.out, ← Nat.add_assoc]; exact hs')
            clear hp' hs'
            go_wp2
            refine ⟨⟨k + 1, s', F'', G'', by simp, by omega, HP'.out, HS'.out⟩, ?_⟩
            first | omega | (show _ < _; simp [intOf]; omega)
          · have HKN : Hid (k = n3) := Lib.hid (by omega)
            have hend : decide ((k : Int) < (n3 : Int)) = false := decide_eq_false (by omega)
            have hendn : decide (k < n3) = false := decide_eq_false hlt
            have HLE := Lib.hid (enN_le l k)
            have HLS : Hid (s.l.length ≤ 2097152 ∧ s.ix + s.l.length ≤ 1125899906842623) := Lib.hid (by have h1 := HS.out; unfold Sm at h1; have := HN.out; have := HLE.out; omega)
            have HGA := Lib.hid (LG.get_all s HLS.out.2)
            obtain ⟨v, rs, hm5, _, _⟩ := HP.out.rf
            obtain ⟨A5, c5, rfl, _⟩ := hm5.form
            have HM5 := Lib.hid hm5
            obtain ⟨m, hm⟩ : ∃ m, s.l.length = m := ⟨_, rfl⟩
            rw [hm] at HM5
            have HMM : Hid (m ≤ 2097152) := Lib.hid (by rw [← hm]; exact HLS.out.1)
            have CG := Lib.hid (fun w' (hf : Fr (fun _ => False) wr w') => lgGet2 (HP.out.lg.fr0 hf) 0 1125899906842624 (by omega) (by omega) (by omega) (by omega) m (by rw [HGA.out]; exact hm))
            have HC2 : Hid (∀ w', Fr (fun _ => False) wr w' → w'.cell? ⟨gr, 2, none⟩ = some (.slice A5 m c5)) := Lib.hid (fun w' hf => (HM5.out.fr0 hf).c2)
            have HRS : Hid (∀ w', Fr (fun _ => False) wr w' → Es w' A5 m rs (EB (.slice A5 m c5) rs)) := Lib.hid (fun w' hf => (HM5.out.fr0 hf).own.es)
            have HLQ : Hid (s.l = rs.map EL.e) := Lib.hid HM5.out.l
            have HFW := Lib.hid HP.out.fr
            clear hm5 hlt HS HLE hm
            go_upto_region 16 with (fail)
            refine wp_region_held_drew (S := fun w' => Fr (fun _ => False) wr w') (by kernel_rfl) ((Fr.refl _ _).drew) (fun hHeld => ?_)
            refine wpAnyH_takeD (i := 0) (v := ?_) (some 65) rfl rfl (by kernel_rfl) (by kernel_rfl) (by kernel_rfl) (fun _ _ _ h => h) (Or.inl ⟨by rfl, ?_⟩) (by assumption) ?_
            rotate_left
            · intro w' hSw
              go_simp
              first | done | with_reducible rfl
            try simp only [Go.Act.put, List.setIfInBounds_toArray, List.set_cons_zero, List.set_cons_succ]
            refine wpAnyH_takeD (i := 2) (v := ?_) (some 67) rfl rfl (by kernel_rfl) (by kernel_rfl) (by kernel_rfl) (fun _ _ _ h => h) (Or.inl ⟨by rfl, ?_⟩) (by assumption) ?_
            rotate_left
            · intro w' hSw
              go_simp
              first | done | with_reducible rfl
            try simp only [Go.Act.put, List.setIfInBounds_toArray, List.set_cons_zero, List.set_cons_succ]
            refine wpAnyH_takeD (i := 3) (v := ?_) (some 68) rfl rfl (by kernel_rfl) (by kernel_rfl) (by kernel_rfl) (fun _ _ _ h => h) (Or.inl ⟨by rfl, ?_⟩) (by assumption) ?_
            rotate_left
            · intro w' hSw
              go_simp
              first | done | with_reducible rfl
            try simp only [Go.Act.put, List.setIfInBounds_toArray, List.set_cons_zero, List.set_cons_succ]
            refine wpAnyH_takeD (i := 4) (v := ?_) (some 69) rfl rfl (by kernel_rfl) (by kernel_rfl) (by kernel_rfl) (fun _ _ _ h => h) (Or.inl ⟨by rfl, ?_⟩) (by assumption) ?_
            rotate_left
            · intro w' hSw
              go_simp
              first | done | with_reducible rfl
            try simp only [Go.Act.put, List.setIfInBounds_toArray, List.set_cons_zero, List.set_cons_succ]
            refine wpAnyH_takeD (i := 5) (v := ?_) (some 70) rfl rfl (by kernel_rfl) (by kernel_rfl) (by kernel_rfl) (fun _ _ _ h => h) (Or.inl ⟨by rfl, ?_⟩) (by assumption) ?_
            rotate_left
            · intro w' hSw
              have q0 := HC2.out w' hSw
              go_simp
              first | done | with_reducible rfl
            try simp only [Go.Act.put, List.setIfInBounds_toArray, List.set_cons_zero, List.set_cons_succ]
            refine wpAnyH_ready (rs := [1]) (by kernel_rfl) (by simp) ?_
            refine AllReadyH.cons rfl (fun K hK => ?_) AllReadyH.nil
            go_simp
            refine (CG.out _ hHeld).mono ?_; rintro e v1 ⟨A1, c1, qs1, rfl, hes1, hq1, h9⟩
            refine hK.out _ _ (hHeld.trans h9 (fun _ _ h => h)) (fun hHeld => ?_)
            clear hK K
            try change wpAnyH _ _ _ _ _ _ _ (Go.Act.put _ (some 66) _) _
            try simp only [Go.Act.put, List.setIfInBounds_toArray, List.set_cons_zero, List.set_cons_succ]
            have HES1 := Lib.hid (And.intro hes1 (hq1.trans (HGA.out.trans HLQ.out)))
            clear h9 hes1 hq1
            refine wpAnyH_ready (rs := [6]) (by kernel_rfl) (by simp) ?_
            refine AllReadyH.cons rfl (fun K hK => ?_) AllReadyH.nil
            go_simp
            refine (same_any _ _ _ _ _ _ _ _ _ _ HES1.out.1 (HRS.out _ hHeld) HES1.out.2 (by have := HMM.out; omega)).mono ?_; rintro e v2 ⟨rfl, h9⟩
            refine hK.out _ _ (hHeld.trans h9 (fun _ _ h => h)) (fun hHeld => ?_)
            clear hK K
            try change wpAnyH _ _ _ _ _ _ _ (Go.Act.put _ (some 71) _) _
            try simp only [Go.Act.put, List.setIfInBounds_toArray, List.set_cons_zero, List.set_cons_succ]
            refine wpAnyH_takeD (i := 7) (v := ?_) (some 8) rfl rfl (by kernel_rfl) (by kernel_rfl) (by kernel_rfl) (fun _ _ _ h => h) (Or.inl ⟨by rfl, ?_⟩) (by assumption) ?_
            rotate_left
            · intro w' hSw
              go_simp
              first | done | with_reducible rfl
            try simp only [Go.Act.put, List.setIfInBounds_toArray, List.set_cons_zero, List.set_cons_succ]
            refine wpAnyH_done (by kernel_rfl) ?_ _
            have HE := Lib.hid (HFW.out.trans hHeld (fun _ _ h => h))
            clear hHeld
            go_wp2
            go_ret
            exact ⟨rfl, HE.out⟩
    · have dix : decide ((1099511627776 : Int) < index) = true := decide_eq_true (by omega)
      go_wp2
      go_ret
      exact ⟨rfl, HF1.out⟩
end Go.Proofs.Ytainkckcipdknaa
