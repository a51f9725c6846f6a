/- The reference's Merge. -/
import Derived.Test.YtainkckcipdknaaQu
namespace Go.Proofs.Ytainkckcipdknaa
open Go.RowKit

/-- The first k of a row of entries. -/
theorem run_toR (A : Option Addr) (n c k : Nat) (hk : k ≤ n) (hnc : n ≤ c) (hcm : (c : Int) ≤ 9223372036854775807) (hA : 0 < n → ∃ b off, A = some ⟨b, off, none⟩) :
    ∃ A' c', (∀ w, (Instr.sliceAt 33 (.slice A n c) none (some (.int .i64 (k : Int))) none).run Try.prog w = .ok (.slice A' k c') w) ∧ (∀ w ps G, Es w A n ps G → Es w A' k (ps.take k) G) := by
  have h1 : (k : Int) ≤ (c : Int) := by omega
  rcases Nat.eq_zero_or_pos n with h0 | h0
  · subst h0
    obtain rfl : k = 0 := by omega
    have he : ∀ A' w ps G, Es w A 0 ps G → Es w A' 0 (ps.take 0) G := fun A' w ps G h => by rw [List.take_zero]; exact Es.nil _ _ _
    rcases A with _ | ad
    · exact ⟨none, c, fun w => by simp [go_sem, Instr.sliceAt], he _⟩
    · by_cases hc : c = 0
      · subst hc
        exact ⟨some ad, 0, fun w => by simp [go_sem, Instr.sliceAt], he _⟩
      · refine ⟨some (ad.add 0), c, fun w => ?_, he _⟩
        have hc2 : ¬ (c = 0) := hc
        simp [go_sem, Instr.sliceAt, hc2]
  · obtain ⟨b, off, rfl⟩ := hA h0
    have hc : ¬ (c = 0) := by omega
    exact ⟨some ⟨b, off, none⟩, c, fun w => by simp [go_sem, Instr.sliceAt, hc, h1], fun w ps G h => h.take k hk⟩

/-- What the reference's Merge answers. -/
def RMergeE (w : World) (g : Nat) (s : LG) (F : Nat → Prop) (i : Int) (es : List En) (e : Ending) (w' : World) : Prop :=
  ∃ A c m qs, e = .returned (.tuple #[.int .i64 (s.mres i es).1, .slice A m c, .int .i64 (s.mres i es).2.2]) ∧ qs.map EL.e = (s.mres i es).2.1 ∧ Es w' A m qs (fun k => k < w'.heap.size) ∧ LgTo 41 68 w g F w' (s.merge i es)

set_option maxRecDepth 100000 in
set_option maxHeartbeats 4000000 in
theorem refMerge_bad {w : World} {g : Nat} {s : LG} {F G : Nat → Prop} {A : Option Addr} {n c : Nat} {ps2 : List EL} (h : Lg 41 68 w g s F) (hes : Es w A n ps2 G) (hn : n ≤ 5000000000000) (i : Int) (i0 : -9223372036854775808 ≤ i) (i1 : i ≤ 9223372036854775807) (hm : s.mok i (ps2.map EL.e) = false) :
    Calls Try.prog 35 #[.pointer (some ⟨g, 0, none⟩), .int .i64 i, .slice A n c] w fun e w' => RMergeE w g s F i (ps2.map EL.e) e w' := by
  have CT := Lib.hid (refTerm h i i0 i1)
  have CR := Lib.hid (fun w' (hf : Fr (fun _ => False) w w') => rises_any (s.term i) A n c ps2 G w' (hes.fr0 hf) hn)
  have HM := Lib.hid (LG.merge_bad hm)
  have H := Lib.hid h
  obtain ⟨es, hee⟩ : ∃ es, ps2.map EL.e = es := ⟨_, rfl⟩
  rw [hee] at CR HM hm ⊢
  unfold LG.mok at hm
  cases hi : s.is i with
  | false =>
    rw [hi] at CT
    generalize s.term i = tt at *
    clear h hes hm hi hee CR
    go_enter Try.func35, Try.ntmps35
    go_wp2_with fail
    refine CT.out.mono ?_; rintro e w1 ⟨rfl, hf1⟩
    have HF1 := Lib.hid hf1
    clear hf1
    go_wp2
    refine bodyPost_ret (v := .tuple #[.int .i64 0, .slice none 0 0, .int .i64 6]) (by simp [results, Try.results35, go_sem]) rfl ?_
    refine ⟨none, 0, 0, [], by rw [HM.out.2], by rw [HM.out.2]; rfl, Es.nil _ _ _, ?_⟩
    rw [HM.out.1]
    exact H.out.to0 HF1.out
  | true =>
    rw [hi] at CT hm
    simp only [Bool.true_and] at hm
    generalize s.term i = tt at *
    rw [hm] at CR
    clear h hes hm hi hee
    go_enter Try.func35, Try.ntmps35
    go_wp2_with fail
    refine CT.out.mono ?_; rintro e w1 ⟨rfl, hf1⟩
    have C := Lib.hid (CR.out w1 hf1)
    have HF1 := Lib.hid hf1
    clear hf1 CR
    go_wp2_with fail
    refine C.out.mono ?_; rintro e w2 ⟨rfl, hf2⟩
    have HF2 := Lib.hid (HF1.out.trans hf2 (fun _ _ h => h))
    clear hf2 C
    go_wp2
    refine bodyPost_ret (v := .tuple #[.int .i64 0, .slice none 0 0, .int .i64 6]) (by simp [results, Try.results35, go_sem]) rfl ?_
    refine ⟨none, 0, 0, [], by rw [HM.out.2], by rw [HM.out.2]; rfl, Es.nil _ _ _, ?_⟩
    rw [HM.out.1]
    exact H.out.to0 HF2.out

/-- A row laid behind a row. -/
theorem new_app {w w2 w3 : World} {TE : TypeId} (hT : TE ≠ 5) {v x : Value} {A3 : Option Addr} {c3 m : Nat} {qs1 qs2 : List EL} (h : Rw w w2 TE v qs1) (ho : ∀ q ∈ qs1, OwE w2 q) (hx : NewE w w2 TE x qs2) (hr : Row w3 TE 2 (.slice A3 m c3) m (elc qs1 ++ elc qs2)) (hm : m = qs1.length + qs2.length)
    (hf : Fr (fun k => v.ownBlock = some k) w2 w3) (hmv : Moved w2 v (.slice A3 m c3)) (hn1 : ∀ q ∈ qs1, ∀ k, q.bv.ownBlock = some k → w.heap.size ≤ k) : NewE w w3 TE (.slice A3 m c3) (qs1 ++ qs2) := by
  have hlen : (qs1 ++ qs2).length = m := by rw [List.length_append, hm]
  refine ⟨⟨by rw [hlen, elc_app]; exact hr, fun q hq => ?_⟩, ?_, fun k hk => ?_⟩
  · rcases List.mem_append.1 hq with hq | hq
    · exact h.own_put hT hf (ho q hq)
    · exact h.own_put hT hf (hx.1.each q hq)
  · exact h.fr.trans hf (fun y hy e => by have := h.new y e; omega)
  · rcases hk with e | ⟨q, hq, e⟩
    · rcases hmv with h9 | ⟨y, h9, hy⟩
      · exact h.new k (h9 ▸ e)
      · rw [h9] at e
        injection e with e
        have := h.fr.size
        omega
    · rcases List.mem_append.1 hq with hq | hq
      · exact hn1 q hq k e
      · exact hx.2.2 k (.inr ⟨q, hq, e⟩)

set_option maxRecDepth 100000 in
set_option maxHeartbeats 4000000 in
theorem refMerge_ok {w : World} {g : Nat} {s : LG} {F G : Nat → Prop} {A : Option Addr} {n c : Nat} {ps2 : List EL} (h : Lg 41 68 w g s F) (hes : Es w A n ps2 G) (hGF : ∀ k, G k → ¬ F k) (hn : n ≤ 1099511627776) (hnc : n ≤ c) (hcm : (c : Int) ≤ 9223372036854775807) (hb1 : s.ix + s.l.length + n ≤ 20000000000000) (hb2 : s.l.length + n ≤ 4999999999999)
    (i : Int) (i0 : -9223372036854775808 ≤ i) (i1 : i ≤ 9223372036854775807) (hm : s.mok i (ps2.map EL.e) = true) :
    Calls Try.prog 35 #[.pointer (some ⟨g, 0, none⟩), .int .i64 i, .slice A n c] w fun e w' => RMergeE w g s F i (ps2.map EL.e) e w' := by
  have CT := Lib.hid (refTerm h i i0 i1)
  have CR := Lib.hid (fun w' (hf : Fr (fun _ => False) w w') => rises_any (s.term i) A n c ps2 G w' (hes.fr0 hf) (by omega))
  have hmm : s.is i = true ∧ rise (s.term i) (ps2.map EL.e) = true := by unfold LG.mok at hm; simpa using hm
  have hib := LG.is_iff.1 hmm.1
  have hlb : 0 ≤ i := by omega
  have hub : i ≤ 20000000000000 := by omega
  have CTT := Lib.hid (fun (j : Int) (j0 : 0 ≤ j) (j1 : j ≤ 40000000000000) w' (hf : Fr (fun _ => False) w w') => refTerm (h.fr0 hf) j (by omega) (by omega))
  have HPL2 := Lib.hid hes.len
  have HH := Lib.hid h
  have HIB := Lib.hid hib
  have HIS := Lib.hid hmm.1
  have HMOK := Lib.hid hm
  have HES := Lib.hid hes
  have HGF := Lib.hid hGF
  have HBB := Lib.hid (And.intro hb1 hb2)
  obtain ⟨v, ps, h1, h2, h3⟩ := h
  obtain ⟨A0, c0, rfl, hnc0, hcm0, hA0⟩ := h1.form
  have HM0 := Lib.hid h1
  have H2 := Lib.hid h2
  have HL0 := Lib.hid h1.l
  obtain ⟨ln, hln⟩ : ∃ ln, s.l.length = ln := ⟨_, rfl⟩
  have HPSL : Hid (ps.length = ln) := Lib.hid (by rw [h1.ll, hln])
  have HLN := Lib.hid hln
  have HCW := Lib.hid (fun w' (hf : Fr (fun _ => False) w w') => And.intro (h1.fr0 hf).c0 (show w'.cell? ⟨g, 2, none⟩ = some (.slice A0 ln c0) ∧ Es w' A0 ln ps (EB (.slice A0 ln c0) ps) from by
    have h9 := (h1.fr0 hf).own.es
    rw [hln] at h9
    exact ⟨by rw [(h1.fr0 hf).c2, hln], h9⟩))
  have HA0 : Hid ((0 < ln → ∃ b off, A0 = some ⟨b, off, none⟩) ∧ ln ≤ c0 ∧ (c0 : Int) ≤ 9223372036854775807) := Lib.hid ⟨by rw [← hln]; exact hA0, by omega, by unfold maxLen at hcm0; omega⟩
  obtain ⟨es, hee⟩ : ∃ es, ps2.map EL.e = es := ⟨_, rfl⟩
  have HEE := Lib.hid hee
  have HEL : Hid (es.length = n) := Lib.hid (by rw [← hee, List.length_map, hes.len])
  rw [hee] at CR hmm HMOK ⊢
  rw [hmm.1] at CT
  rw [hmm.2] at CR
  generalize s.term i = tt at *
  have hnI : (n : Int) ≤ 1099511627776 := by omega
  have hncI : (n : Int) ≤ (c : Int) := by omega
  have HNC := Lib.hid (And.intro hnc hcm)
  clear h1 h2 h3 hA0 hnc0 hcm0 hln hee hmm hib hes hGF hm hb1 hb2 hnc
  go_enter Try.func35, Try.ntmps35
  go_wp2_with fail
  refine CT.out.mono ?_; rintro e w1 ⟨rfl, hf1⟩
  have C := Lib.hid (CR.out w1 hf1)
  have HF1 := Lib.hid hf1
  clear hf1 CR CT
  go_wp2_with fail
  refine C.out.mono ?_; rintro e w2 ⟨rfl, hf2⟩
  have HF2 := Lib.hid (HF1.out.trans hf2 (fun _ _ h => h))
  clear hf2 C
  go_wp2_with fail
  go_loopw [11] (fun u wr => ∃ k : Nat, u = .int .i64 (k : Int) ∧ k ≤ n ∧ k + s.like (i + (k : Int)) (es.drop k) = s.like i es ∧ Fr (fun _ => False) w wr) (fun u _ => n - (intOf u).toNat)
  case atStart => exact ⟨0, rfl, Nat.zero_le _, by simp, HF2.out⟩
  case round =>
    obtain ⟨k, rfl, hk, hr, hf⟩ := hrel
    have HR := Lib.hid hr
    have HF := Lib.hid hf
    have hk0 : (0 : Int) ≤ (k : Int) := by omega
    clear hr hf
    by_cases hlt : k < n
    · have hlt' : (k : Int) < n := by omega
      obtain ⟨b, off, rfl, _⟩ := HES.out.at hlt
      have HLA := Lib.hid (LG.like_at (s := s) (i := i + (k : Int)) (l := es) (k := k) (by rw [HEL.out]; exact hlt))
      have HX : Hid ((es.getD k default).t = (ps2.getD k default).e.t) := Lib.hid (by rw [← HEE.out, getD_map EL.e (by rw [HPL2.out]; exact hlt)])
      have HE := Lib.hid (fun w' (hf : Fr (fun _ => False) w w') => ((HES.out.fr0 hf).at' hlt).1)
      have C := Lib.hid (CTT.out (i + 1 + (k : Int)) (by omega) (by omega) wr HF.out)
      generalize (ps2.getD k default).e.t = x at *
      obtain ⟨qi, hqi⟩ : ∃ q, s.is (i + 1 + (k : Int)) = q := ⟨_, rfl⟩
      obtain ⟨ti, hti⟩ : ∃ q, s.term (i + 1 + (k : Int)) = q := ⟨_, rfl⟩
      have HMAT : Hid (s.mat (i + (k : Int) + 1) x = (qi && decide (ti = x))) := Lib.hid (by rw [show i + (k : Int) + 1 = i + 1 + (k : Int) by omega]; unfold LG.mat; rw [hqi, hti])
      rw [hqi, hti] at C
      have ew1 : (0 : Int) ≤ i + 1 + (k : Int) := by omega
      clear hqi hti
      by_cases hmat : qi = true ∧ ti = x
      · obtain ⟨e1, e2⟩ := hmat
        subst e1
        subst e2
        have b1 : (ti == ti) = true := by simp
        go_wp2_with fail
        refine C.out.mono ?_; rintro e w5 ⟨rfl, hf5⟩
        have HF5 := Lib.hid (HF.out.trans hf5 (fun _ _ h => h))
        have ce := HE.out w5 HF5.out
        clear hf5 C
        go_wp2
        refine ⟨⟨k + 1, by simp, by omega, ?_, HF5.out⟩, ?_⟩
        · have h9 := HR.out
          rw [HLA.out, HX.out, HMAT.out] at h9
          simp at h9
          rw [show i + ((k + 1 : Nat) : Int) = i + (k : Int) + 1 by omega]
          omega
        · first | omega | (show _ < _; simp [intOf]; omega)
      · have HLK : Hid (s.like i es = k) := Lib.hid (by
          have h9 := HR.out
          rw [HLA.out, HX.out, HMAT.out, if_neg (by simp; intro h; exact fun h' => hmat ⟨h, h'⟩)] at h9
          omega)
        have hms := LG.merge_some (s := s) (i := i) (l := es) HMOK.out (by rw [HLK.out, HEL.out]; exact hlt)
        rw [HLK.out] at hms
        have hli := LG.is_iff.1 (LG.like_is (s := s) (l := es) HIS.out)
        rw [HLK.out] at hli
        obtain ⟨kk, hkk⟩ : ∃ kk, s.lo (s.mfrom i es) = kk := ⟨_, rfl⟩
        have hmf : s.mfrom i es = i + 1 + (k : Int) := by unfold LG.mfrom; rw [HLK.out]
        rw [hkk, hmf] at hms
        rw [hmf] at hkk
        unfold LG.lo at hkk
        have hln9 := HLN.out
        have hkl : kk ≤ ln := by omega
        have HMG := Lib.hid hms.1
        have HRES := Lib.hid hms.2
        obtain ⟨m, hmm⟩ : ∃ m, n - k = m := ⟨_, rfl⟩
        obtain ⟨A7, c7, hsl1, hes7⟩ := run_toR A0 ln c0 kk hkl HA0.out.2.1 HA0.out.2.2 HA0.out.1
        obtain ⟨A9, c9, hsl2, _, _, hes9⟩ := run_fromR b off n c k (by omega) HNC.out.1 HNC.out.2
        rw [hmm] at hsl2 hes9
        have HSL1 := Lib.hid hsl1
        have HSL2 := Lib.hid hsl2
        have HES9 := Lib.hid hes9
        have HES7 := Lib.hid hes7
        have HKK := Lib.hid hkl
        have HMM := Lib.hid hmm
        have HNB : Hid (kk + m ≤ 4999999999999 ∧ kk ≤ 4999999999999 ∧ m ≤ 4999999999999) := Lib.hid (by have := HBB.out; omega)
        have HOK9 : Hid (s.merge i es).ok := Lib.hid (by
          rw [HMG.out]
          have := HBB.out
          have := HEL.out
          exact ⟨by simp only [List.length_append, List.length_take, List.length_drop]; omega, by simp only [List.length_append, List.length_take, List.length_drop]; omega⟩)
        have ekk : i + 1 + (k : Int) - (s.ix : Int) - 1 = (kk : Int) := by omega
        obtain ⟨j1, ej1⟩ : ∃ j, i + 1 + (k : Int) - (s.ix : Int) = j := ⟨_, rfl⟩
        rw [ej1] at ekk
        have hj0 : 0 ≤ j1 := by omega
        have hj1 : j1 ≤ 40000000000000 := by omega
        have hxb : (s.ix : Int) ≤ 20000000000000 := by have := HBB.out; omega
        have ewk : IntKind.i64.wrap (k : Int) = (k : Int) := IntWalk.i64_in _ (by omega)
        have ewkk : IntKind.i64.wrap (kk : Int) = (kk : Int) := IntWalk.i64_in _ (by omega)
        have ewj : IntKind.i64.wrap j1 = j1 := IntWalk.i64_in _ (by omega)
        have hw9 : ∃ qq : Bool, (qi = false ∨ qi = true ∧ (ti == x) = false) := ⟨true, by
          cases qi
          · exact .inl rfl
          · refine .inr ⟨rfl, ?_⟩
            rw [beq_eq_false_iff_ne]
            exact fun h => hmat ⟨rfl, h⟩⟩
        obtain ⟨_, hw9⟩ := hw9
        clear hms hli hkk hmf hln9 hkl hmm hsl1 hsl2 hes7 hes9 hmat
        rcases hw9 with rfl | ⟨rfl, b1⟩
        all_goals
          go_wp2_with fail
          refine C.out.mono ?_; rintro e w5 ⟨rfl, hf5⟩
          have HF5 := Lib.hid (HF.out.trans hf5 (fun _ _ h => h))
          have ce := HE.out w5 HF5.out
          have HC5 := Lib.hid (fun w' (hf : Fr (fun _ => False) w5 w') => And.intro (HCW.out w' (HF5.out.trans hf (fun _ _ h => h))).1 (HCW.out w' (HF5.out.trans hf (fun _ _ h => h))).2.1)
          have CC1 := Lib.hid (fun w' (hf : Fr (fun _ => False) w5 w') => copied_any A7 kk c7 (ps.take kk) _ w' (HES7.out _ _ _ (HCW.out w' (HF5.out.trans hf (fun _ _ h => h))).2.2) HNB.out.2.1)
          have CC2 := Lib.hid (fun w' (hf : Fr (fun _ => False) w5 w') => copied_any A9 m c9 (ps2.drop k) _ w' (HES9.out _ _ _ (HES.out.fr0 (HF5.out.trans hf (fun _ _ h => h)))) HNB.out.2.2)
          clear hf5 C
          go_wp2_with fail
          refine wp_region_Z [18, 21] (fun w' => Fr (fun _ => False) w5 w') (by kernel_rfl) ((Fr.refl _ _).drew) (fun hHeld => ?_)
          refine anyZ_pure (i := 0) (v := ?_) (some 55) rfl rfl (by kernel_rfl) (by kernel_rfl) (by kernel_rfl) (by kernel_rfl) (fun _ _ _ h => h) (Or.inl ⟨by rfl, ?_⟩) (fun _ => hHeld) ?_
          rotate_left
          · intro w' _
            go_simp
            first | done | with_reducible rfl
          try simp only [Go.Act.put, List.setIfInBounds_toArray, List.set_cons_zero, List.set_cons_succ]
          refine anyZ_pure (i := 1) (v := ?_) (some 56) rfl rfl (by kernel_rfl) (by kernel_rfl) (by kernel_rfl) (by kernel_rfl) (fun _ _ _ h => h) (Or.inl ⟨by rfl, ?_⟩) (fun _ => hHeld) ?_
          rotate_left
          · intro w' _
            go_simp
            first | done | with_reducible rfl
          try simp only [Go.Act.put, List.setIfInBounds_toArray, List.set_cons_zero, List.set_cons_succ]
          refine anyZ_pure (i := 2) (v := ?_) (some 57) rfl rfl (by kernel_rfl) (by kernel_rfl) (by kernel_rfl) (by kernel_rfl) (fun _ _ _ h => h) (Or.inl ⟨by rfl, ?_⟩) (fun _ => hHeld) ?_
          rotate_left
          · intro w' _
            go_simp
            first | done | with_reducible rfl
          try simp only [Go.Act.put, List.setIfInBounds_toArray, List.set_cons_zero, List.set_cons_succ]
          refine anyZ_pure (i := 3) (v := ?_) (some 58) rfl rfl (by kernel_rfl) (by kernel_rfl) (by kernel_rfl) (by kernel_rfl) (fun _ _ _ h => h) (Or.inl ⟨by rfl, ?_⟩) (fun _ => hHeld) ?_
          rotate_left
          · intro w' _
            go_simp
            first | done | with_reducible rfl
          try simp only [Go.Act.put, List.setIfInBounds_toArray, List.set_cons_zero, List.set_cons_succ]
          refine anyZ_read (i := 4) (v := ?_) (some 59) [12, 13, 17, 18, 19, 20, 21] rfl rfl (by kernel_rfl) (by kernel_rfl) (by kernel_rfl) (by kernel_rfl) (by kernel_rfl) (by kernel_rfl) (fun _ _ _ h => h) (Or.inl ⟨by rfl, ?_⟩) hHeld ?_
          rotate_left
          · intro w' hSw
            obtain ⟨q0, q2⟩ := HC5.out w' hSw
            go_simp
            first | done | with_reducible rfl
          try simp only [Go.Act.put, List.setIfInBounds_toArray, List.set_cons_zero, List.set_cons_succ]
          refine anyZ_pure (i := 5) (v := ?_) (some 60) rfl rfl (by kernel_rfl) (by kernel_rfl) (by kernel_rfl) (by kernel_rfl) (fun _ _ _ h => h) (Or.inl ⟨by rfl, ?_⟩) (fun _ => hHeld) ?_
          rotate_left
          · intro w' _
            go_simp
            first | done | with_reducible rfl
          try simp only [Go.Act.put, List.setIfInBounds_toArray, List.set_cons_zero, List.set_cons_succ]
          refine anyZ_pure (i := 6) (v := ?_) (some 61) rfl rfl (by kernel_rfl) (by kernel_rfl) (by kernel_rfl) (by kernel_rfl) (fun _ _ _ h => h) (Or.inl ⟨by rfl, ?_⟩) (fun _ => hHeld) ?_
          rotate_left
          · intro w' _
            go_simp
            first | done | with_reducible rfl
          try simp only [Go.Act.put, List.setIfInBounds_toArray, List.set_cons_zero, List.set_cons_succ]
          refine anyZ_pure (i := 7) (v := ?_) (some 62) rfl rfl (by kernel_rfl) (by kernel_rfl) (by kernel_rfl) (by kernel_rfl) (fun _ _ _ h => h) (Or.inl ⟨by rfl, ?_⟩) (fun _ => hHeld) ?_
          rotate_left
          · intro w' _
            go_simp
            first | done | with_reducible rfl
          try simp only [Go.Act.put, List.setIfInBounds_toArray, List.set_cons_zero, List.set_cons_succ]
          refine anyZ_pure (i := 8) (v := ?_) (some 63) rfl rfl (by kernel_rfl) (by kernel_rfl) (by kernel_rfl) (by kernel_rfl) (fun _ _ _ h => h) (Or.inl ⟨by rfl, ?_⟩) (fun _ => hHeld) ?_
          rotate_left
          · intro w' _
            go_simp
            first | done | with_reducible rfl
          try simp only [Go.Act.put, List.setIfInBounds_toArray, List.set_cons_zero, List.set_cons_succ]
          refine anyZ_read (i := 9) (v := ?_) (some 64) [10, 11, 12, 13, 17, 18, 19, 20, 21] rfl rfl (by kernel_rfl) (by kernel_rfl) (by kernel_rfl) (by kernel_rfl) (by kernel_rfl) (by kernel_rfl) (fun _ _ _ h => h) (Or.inl ⟨by rfl, ?_⟩) hHeld ?_
          rotate_left
          · intro w' hSw
            obtain ⟨q0, q2⟩ := HC5.out w' hSw
            go_simp
            first | done | with_reducible rfl
          try simp only [Go.Act.put, List.setIfInBounds_toArray, List.set_cons_zero, List.set_cons_succ]
          refine anyZ_pure (i := 10) (v := ?_) (some 65) rfl rfl (by kernel_rfl) (by kernel_rfl) (by kernel_rfl) (by kernel_rfl) (fun _ _ _ h => h) (Or.inl ⟨by rfl, ?_⟩) (fun _ => hHeld) ?_
          rotate_left
          · intro w' _
            go_simp
            first | done | with_reducible rfl
          try simp only [Go.Act.put, List.setIfInBounds_toArray, List.set_cons_zero, List.set_cons_succ]
          refine anyZ_pure (i := 11) (v := ?_) (some 66) rfl rfl (by kernel_rfl) (by kernel_rfl) (by kernel_rfl) (by kernel_rfl) (fun _ _ _ h => h) (Or.inl ⟨by rfl, ?_⟩) (fun _ => hHeld) ?_
          rotate_left
          · intro w' _
            go_simp
            first | done | with_reducible rfl
          try simp only [Go.Act.put, List.setIfInBounds_toArray, List.set_cons_zero, List.set_cons_succ]
          refine anyZ_pure (i := 12) (v := ?_) (some 67) rfl rfl (by kernel_rfl) (by kernel_rfl) (by kernel_rfl) (by kernel_rfl) (fun _ _ _ h => h) (Or.inl ⟨by rfl, ?_⟩) (fun _ => hHeld) ?_
          rotate_left
          · intro w' _
            have q9 := HSL1.out w'
            go_simp
            first | done | with_reducible rfl
          try simp only [Go.Act.put, List.setIfInBounds_toArray, List.set_cons_zero, List.set_cons_succ]
          refine anyZ_pure (i := 14) (v := ?_) (some 69) rfl rfl (by kernel_rfl) (by kernel_rfl) (by kernel_rfl) (by kernel_rfl) (fun _ _ _ h => h) (Or.inl ⟨by rfl, ?_⟩) (fun _ => hHeld) ?_
          rotate_left
          · intro w' _
            go_simp
            first | done | with_reducible rfl
          try simp only [Go.Act.put, List.setIfInBounds_toArray, List.set_cons_zero, List.set_cons_succ]
          refine anyZ_pure (i := 15) (v := ?_) (some 70) rfl rfl (by kernel_rfl) (by kernel_rfl) (by kernel_rfl) (by kernel_rfl) (fun _ _ _ h => h) (Or.inl ⟨by rfl, ?_⟩) (fun _ => hHeld) ?_
          rotate_left
          · intro w' _
            go_simp
            first | done | with_reducible rfl
          try simp only [Go.Act.put, List.setIfInBounds_toArray, List.set_cons_zero, List.set_cons_succ]
          refine anyZ_pure (i := 16) (v := ?_) (some 71) rfl rfl (by kernel_rfl) (by kernel_rfl) (by kernel_rfl) (by kernel_rfl) (fun _ _ _ h => h) (Or.inl ⟨by rfl, ?_⟩) (fun _ => hHeld) ?_
          rotate_left
          · intro w' _
            have q9 := HSL2.out w'
            go_simp
            first | done | with_reducible rfl
          try simp only [Go.Act.put, List.setIfInBounds_toArray, List.set_cons_zero, List.set_cons_succ]
          refine anyZ_ready (rs := [13]) (by kernel_rfl) (by simp) ?_
          refine AllZ.step rfl (fun K hK => ?_) AllZ.nil
          go_simp
          refine (CC1.out _ hHeld).mono ?_; rintro e v1 ⟨Ax, cx, qs1, rfl, hnew1, hq1⟩
          have HQ1 := Lib.hid hq1
          have HV1 := Lib.hid (hHeld.trans hnew1.2.1 (fun _ _ h => h))
          have HNEW1 := Lib.hid (show NewE w v1 _ (.slice Ax kk cx) qs1 from ⟨hnew1.1, (HF5.out.trans hHeld (fun _ _ h => h)).trans hnew1.2.1 (fun _ _ h => h), fun k hk => Nat.le_trans (HF5.out.trans hHeld (fun _ _ h => h)).size (hnew1.2.2 k hk)⟩)
          clear hnew1 hq1
          try go_simp
          refine hK.out _ _ (HV1.out) (fun hHeld => ?_)
          clear hK K
          try change anyZ _ _ _ _ _ _ _ _ (Go.Act.put _ (some 68) _) _
          try simp only [Go.Act.put, List.setIfInBounds_toArray, List.set_cons_zero, List.set_cons_succ]
          refine anyZ_ready (rs := [17]) (by kernel_rfl) (by simp) ?_
          refine AllZ.step rfl (fun K hK => ?_) AllZ.nil
          go_simp
          have hlast := hHeld
          refine (CC2.out _ hHeld).mono ?_; rintro e v2 ⟨Ay, cy, qs2, rfl, hnew2, hq2⟩
          have HQ2 := Lib.hid hq2
          have HV2 := Lib.hid (hHeld.trans hnew2.2.1 (fun _ _ h => h))
          have HNEW2 := Lib.hid (show NewE w v2 _ (.slice Ay m cy) qs2 from ⟨hnew2.1, (HF5.out.trans hHeld (fun _ _ h => h)).trans hnew2.2.1 (fun _ _ h => h), fun k hk => Nat.le_trans (HF5.out.trans hHeld (fun _ _ h => h)).size (hnew2.2.2 k hk)⟩)
          have HRW1 : Hid (Rw w v2 68 (.slice Ax kk cx) qs1 ∧ ∀ q ∈ qs1, OwE v2 q) := Lib.hid ⟨⟨HNEW1.out.1.row.fr0 hnew2.2.1, HNEW1.out.2.1.trans hnew2.2.1 (fun _ _ h => h), fun k hk => HNEW1.out.2.2 k (.inl hk)⟩, fun q hq => (HNEW1.out.1.each q hq).fr hnew2.2.1 (fun _ _ h => h)⟩
          clear hnew2 hq2 hlast
          try go_simp
          refine hK.out _ _ (HV2.out) (fun hHeld => ?_)
          clear hK K
          try change anyZ _ _ _ _ _ _ _ _ (Go.Act.put _ (some 72) _) _
          try simp only [Go.Act.put, List.setIfInBounds_toArray, List.set_cons_zero, List.set_cons_succ]
          refine anyZ_ready (rs := [18]) (by kernel_rfl) (by simp) ?_
          refine AllZ.last rfl (by kernel_rfl) (fun K hK => ?_) AllZ.nil
          have hl1 : qs1.length = kk := by have e8 := congrArg List.length HQ1.out; rw [List.length_map, List.length_map, List.length_take, HPSL.out] at e8; have := HKK.out; omega
          have hl2 : qs2.length = m := by have e8 := congrArg List.length HQ2.out; rw [List.length_map, List.length_map, List.length_drop, HPL2.out] at e8; have := HMM.out; omega
          refine stepOf_appendW Try.teR rfl (.tmp 68) (.tmp 72) rfl (.slice Ax kk cx) kk (elc qs1) rfl (by have h9 := HRW1.out.1.row; rw [hl1] at h9; exact h9) (.slice Ay m cy) m (elc qs2) rfl (by have h9 := HNEW2.out.1.row.sl; rw [hl2] at h9; exact h9) (elc_one _) (by unfold maxLen; have := HNB.out; omega) (by have := HNB.out; omega) ?_
          intro A3 c3 w3 hr3 hf3 hm3
          have HN3 : Hid (NewE w w3 68 (.slice A3 (kk + m) c3) (qs1 ++ qs2)) := Lib.hid (new_app (by decide) HRW1.out.1 HRW1.out.2 HNEW2.out hr3 (by rw [hl1, hl2]) hf3 hm3 (fun q hq x e => HNEW1.out.2.2 x (.inr ⟨q, hq, e⟩)))
          have hbk := HM0.out.blk.fr HN3.out.2.1 (fun h => h)
          have k2 := hbk.cell 2
          have f2 := hbk.frozen 2
          have HBK := Lib.hid hbk
          simp only [List.getElem?_toArray, List.getElem?_cons_succ, List.getElem?_cons_zero] at k2
          clear hr3 hf3 hm3 hbk hl1 hl2
          refine hK.out _ _ ?_
          clear hK K
          try change anyZ _ _ _ _ _ _ _ _ (Go.Act.put _ (some 73) _) _
          try simp only [Go.Act.put, List.setIfInBounds_toArray, List.set_cons_zero, List.set_cons_succ]
          refine anyZ_pure (i := 19) (v := ?_) (some 74) rfl rfl (by kernel_rfl) (by kernel_rfl) (by kernel_rfl) (by kernel_rfl) (fun _ _ _ h => h) (Or.inl ⟨by rfl, ?_⟩) (notYet (by kernel_rfl)) ?_
          rotate_left
          · intro w' _
            go_simp
            first | done | with_reducible rfl
          try simp only [Go.Act.put, List.setIfInBounds_toArray, List.set_cons_zero, List.set_cons_succ]
          refine anyZ_pure (i := 20) (v := ?_) (some 75) rfl rfl (by kernel_rfl) (by kernel_rfl) (by kernel_rfl) (by kernel_rfl) (fun _ _ _ h => h) (Or.inl ⟨by rfl, ?_⟩) (notYet (by kernel_rfl)) ?_
          rotate_left
          · intro w' _
            go_simp
            first | done | with_reducible rfl
          try simp only [Go.Act.put, List.setIfInBounds_toArray, List.set_cons_zero, List.set_cons_succ]
          refine anyZ_ready (rs := [21]) (by kernel_rfl) (by simp) ?_
          refine AllZ.last rfl (by kernel_rfl) (fun K hK => ?_) AllZ.nil
          go_simp
          refine hK.out _ _ ?_
          clear hK K
          try change anyZ _ _ _ _ _ _ _ _ (Go.Act.put _ none _) _
          try simp only [Go.Act.put, List.setIfInBounds_toArray, List.set_cons_zero, List.set_cons_succ]
          refine anyZ_done (by kernel_rfl) ?_ _
          clear hHeld k2 f2
          obtain ⟨w4, hw4⟩ : ∃ w4, w3.setCell ⟨g, 2, none⟩ (.slice A3 (kk + m) c3) = w4 := ⟨_, rfl⟩
          have hto : LgTo 41 68 w g F w4 (s.merge i es) := by
            rw [← hw4]
            refine relaid (by decide) (by decide) HM0.out H2.out HN3.out HOK9.out (by rw [HMG.out]; simp only; rw [List.map_append, HQ1.out, HQ2.out, HL0.out, List.map_take, List.map_drop, HEE.out]) (Fr.setCell (S := fun x => x = g) (p := ⟨g, 2, none⟩) (Fr.refl _ _) (fun _ => rfl) _) ?_
            have h9 := HBK.out.set 2 (.slice A3 (kk + m) c3)
            rw [HMG.out]
            simpa using h9
          rw [hw4]
          have HTO := Lib.hid hto
          obtain ⟨F4, hl4, hf4, hF4⟩ := hto
          have hes4 := (HES.out.fr hf4 (fun k hk => HGF.out k hk))
          have C := Lib.hid (copied_any A9 m c9 _ _ w4 (HES9.out _ _ _ hes4) (by have := HNB.out; omega))
          have HL4 := Lib.hid hl4
          have HF4 := Lib.hid hf4
          have HFF4 := Lib.hid hF4
          have hsl2 := HSL2.out
          clear hl4 hf4 hF4 hes4 hw4
          go_wp2_with fail
          refine C.out.mono ?_; rintro e w8 ⟨A8, c8, qs8, rfl, hn8, hq8⟩
          have HN8 := Lib.hid hn8
          have HQ8 := Lib.hid hq8
          clear hn8 hq8 C hsl2
          go_wp2
          refine bodyPost_ret (v := .tuple #[.int .i64 (i + 1 + (k : Int)), .slice A8 m c8, .int .i64 0]) (by simp [results, Try.results35, go_sem]) rfl ?_
          refine ⟨A8, c8, m, qs8, by rw [HRES.out], by rw [HRES.out, HQ8.out, List.map_drop, HEE.out], (HN8.out.1.es).mono (fun x hx => HN8.out.1.lt hx), F4, HL4.out.fr0 HN8.out.2.1, HF4.out.trans HN8.out.2.1 (fun _ _ h => h.elim), HFF4.out⟩
    · obtain rfl : k = n := by omega
      have HLK : Hid (s.like i es = k) := Lib.hid (by
        have h9 := HR.out
        rw [List.drop_of_length_le (by rw [HEL.out]; exact Nat.le_refl _), LG.like_nil] at h9
        omega)
      have HM := Lib.hid (LG.merge_none (s := s) (i := i) (l := es) HMOK.out (by rw [HLK.out, HEL.out]; omega))
      go_wp2
      refine bodyPost_ret (v := .tuple #[.int .i64 0, .slice none 0 0, .int .i64 0]) (by simp [results, Try.results35, go_sem]) rfl ?_
      refine ⟨none, 0, 0, [], by rw [HM.out.2], by rw [HM.out.2]; rfl, Es.nil _ _ _, ?_⟩
      rw [HM.out.1]
      exact HH.out.to0 HF.out
end Go.Proofs.Ytainkckcipdknaa
