/- The log's beginOf, Hint, Merge. -/
import Derived.Test.YtainkckcipdknaaQg
namespace Go.Proofs.Ytainkckcipdknaa
open Go.RowKit

theorem LG.back_two {s : LG} {t : Int} {k : Nat} : s.back t (k + 2) = if (s.l.getD k default).t = t then s.back t (k + 1) else k + 2 := rfl
theorem LG.back_le {s : LG} {t : Int} : ∀ k, s.back t k ≤ k
  | 0 => Nat.le_refl _
  | 1 => Nat.le_refl _
  | k + 2 => by
    rw [LG.back_two]
    split
    · have := LG.back_le (s := s) (t := t) (k + 1); omega
    · exact Nat.le_refl _
theorem LG.back_pos {s : LG} {t : Int} : ∀ k, 0 < k → 0 < s.back t k
  | 0, h => h
  | 1, _ => by show 0 < 1; omega
  | k + 2, _ => by
    rw [LG.back_two]
    split
    · exact LG.back_pos (k + 1) (by omega)
    · omega
set_option maxRecDepth 100000 in
set_option maxHeartbeats 4000000 in
theorem lgBeginOf {w : World} {g : Nat} {s : LG} {F : Nat → Prop} (h : Lg 65 51 w g s F) (t : Int) (k0 : Nat) (h0 : 0 < k0) (h1 : k0 ≤ s.l.length) :
    Calls Try.prog 44 #[.pointer (some ⟨g, 0, none⟩), .int .i64 t, .int .i64 ((s.ix : Int) + (k0 : Int))] w fun e w' => e = .returned (.int .i64 ((s.ix : Int) + (s.back t k0 : Int))) ∧ Fr (fun _ => False) w w' := by
  have hi1 := h.ok.i1
  have hl1 := h.ok.l1
  have CH := Lib.hid (fun (k : Nat) (hk : k ≤ s.l.length) w' (hf : Fr (fun _ => False) w w') => lgHas (h.fr0 hf) ((s.ix : Int) + (k : Int)) (by omega) (by omega))
  have CM := Lib.hid (fun (k : Nat) (hk : k ≤ s.l.length) w' (hf : Fr (fun _ => False) w w') => lgMatch (h.fr0 hf) ((s.ix : Int) + (k : Int)) t (by omega) (by omega))
  have HH : Hid (∀ k, k ≤ s.l.length → s.has ((s.ix : Int) + (k : Int)) = decide (0 < k)) := Lib.hid (fun k hk => by unfold LG.has; by_cases h9 : 0 < k <;> simp [h9] <;> omega)
  have HM : Hid (∀ k, k + 1 ≤ s.l.length → s.mat ((s.ix : Int) + ((k + 1 : Nat) : Int)) t = decide ((s.l.getD k default).t = t)) := Lib.hid (fun k hk => by
    have h9 : s.has ((s.ix : Int) + ((k + 1 : Nat) : Int)) = true := by rw [HH.out _ hk]; simp
    unfold LG.mat
    rw [LG.is_of_has h9, LG.term_has h9, Bool.true_and]
    rw [show ((s.ix : Int) + ((k + 1 : Nat) : Int) - (s.ix : Int) - 1).toNat = k by omega])
  obtain ⟨ix, hix⟩ : ∃ ix, s.ix = ix := ⟨_, rfl⟩
  obtain ⟨n, hn⟩ : ∃ n, s.l.length = n := ⟨_, rfl⟩
  obtain ⟨bk, hbk⟩ : ∃ bk, s.back t = bk := ⟨_, rfl⟩
  have HB2 : Hid (∀ k, bk (k + 2) = if (s.l.getD k default).t = t then bk (k + 1) else k + 2) := Lib.hid (fun k => by rw [← hbk]; rfl)
  have HB1 : Hid (bk 1 = 1) := Lib.hid (by rw [← hbk]; rfl)
  rw [hix] at CH CM HH HM hi1 ⊢
  rw [hn] at CH CM HH HM hi1 hl1 h1
  rw [hbk]
  have hixb : (ix : Int) ≤ 20000000000000 := by omega
  have hk0b : (k0 : Int) ≤ 5000000000000 := by omega
  have H1 := Lib.hid h1
  clear h hix hbk hi1 h1
  go_enter Try.func44, Try.ntmps44
  go_wp2_with fail
  go_loopw [2] (fun u wr => ∃ k : Nat, u = .int .i64 ((ix : Int) + (k : Int)) ∧ 0 < k ∧ k ≤ k0 ∧ bk k = bk k0 ∧ Fr (fun _ => False) w wr) (fun u _ => (intOf u - (ix : Int)).toNat)
  case atStart => exact ⟨k0, rfl, h0, Nat.le_refl _, rfl, Fr.refl _ _⟩
  case round =>
    obtain ⟨k, rfl, hk0, hk, hr, hf⟩ := hrel
    have HR := Lib.hid hr
    have HF := Lib.hid hf
    have HK : Hid (k ≤ n) := Lib.hid (by have := H1.out; omega)
    have hkI : (k : Int) ≤ 5000000000000 := by omega
    have hk1 : (1 : Int) ≤ (k : Int) := by omega
    clear hr hf
    obtain ⟨j, hj⟩ : ∃ j, k = j + 1 := ⟨k - 1, by omega⟩
    have e1 : (ix : Int) + (k : Int) - 1 = (ix : Int) + (j : Int) := by omega
    have HJ := Lib.hid hj
    have C1 := Lib.hid (CH.out j (by have := HK.out; omega) wr HF.out)
    rw [HH.out j (by have := HK.out; omega)] at C1
    have C2 := Lib.hid (CM.out j (by have := HK.out; omega) wr HF.out)
    clear hj
    by_cases hj0 : 0 < j
    · rw [decide_eq_true hj0] at C1
      obtain ⟨q, hq⟩ : ∃ q, s.mat ((ix : Int) + (j : Int)) t = q := ⟨_, rfl⟩
      have HQ : Hid (decide ((s.l.getD (j - 1) default).t = t) = q) := Lib.hid (by
        have h9 := HM.out (j - 1) (by have := HK.out; have := HJ.out; omega)
        rw [show j - 1 + 1 = j by omega] at h9
        rw [← h9, hq])
      rw [hq] at C2
      have HJ0 := Lib.hid hj0
      have hjb : (j : Int) ≤ 5000000000000 := by have := HJ.out; omega
      clear hq hj0
      cases q with
      | false =>
        go_wp2_with fail
        refine C1.out.mono ?_; rintro e w1 ⟨rfl, rfl⟩
        go_wp2_with fail
        refine C2.out.mono ?_; rintro e w1 ⟨rfl, hf1⟩
        have HF1 := Lib.hid (HF.out.trans hf1 (fun _ _ h => h))
        clear hf1 C1 C2
        go_wp2
        go_ret
        refine ⟨?_, HF1.out⟩
        have e9 : bk k = k := by
          have h9 := HB2.out (j - 1)
          have h8 := HQ.out
          have := HJ.out
          have := HJ0.out
          rw [show j - 1 + 2 = k by omega, if_neg (by simpa using h8)] at h9
          exact h9
        rw [← HR.out, e9]
        rfl
      | true =>
        go_wp2_with fail
        refine C1.out.mono ?_; rintro e w1 ⟨rfl, rfl⟩
        go_wp2_with fail
        refine C2.out.mono ?_; rintro e w1 ⟨rfl, hf1⟩
        have HF1 := Lib.hid (HF.out.trans hf1 (fun _ _ h => h))
        clear hf1 C1 C2
        go_wp2
        refine ⟨⟨j, by simp, HJ0.out, by have := HJ.out; omega, ?_, HF1.out⟩, ?_⟩
        · have h9 := HB2.out (j - 1)
          have h8 := HQ.out
          have := HJ.out
          have := HJ0.out
          rw [show j - 1 + 2 = k by omega, show j - 1 + 1 = j by omega, if_pos (by simpa using h8)] at h9
          rw [← h9]; exact HR.out
        · have := HJ.out
          first | omega | (show _ < _; simp [intOf]; omega)
    · rw [decide_eq_false hj0] at C1
      have HJ0 := Lib.hid hj0
      clear hj0 C2
      go_wp2_with fail
      refine C1.out.mono ?_; rintro e w1 ⟨rfl, rfl⟩
      go_wp2
      go_ret
      refine ⟨?_, HF.out⟩
      have e9 : k = 1 := by have := HJ.out; have := HJ0.out; omega
      rw [← HR.out, e9, HB1.out]
      rfl

set_option maxRecDepth 100000 in
set_option maxHeartbeats 4000000 in
theorem lgHint {w : World} {g : Nat} {s : LG} {F : Nat → Prop} (h : Lg 65 51 w g s F) (i : Int) (i0 : -9223372036854775808 ≤ i) (i1 : i ≤ 9223372036854775807) :
    Calls Try.prog 20 #[.pointer (some ⟨g, 0, none⟩), .int .i64 i] w fun e w' => e = .returned (.tuple #[.int .i64 (s.hintT i), .int .i64 (s.hintI i)]) ∧ Fr (fun _ => False) w w' := by
  have CH := Lib.hid (lgHas h i i0 i1)
  have CT := Lib.hid (lgTerm h i i0 i1)
  have hi1 := h.ok.i1
  cases hh : s.has i with
  | true =>
    have hb := LG.is_has hh
    obtain ⟨k, hk⟩ : ∃ k : Nat, i = (s.ix : Int) + (k : Int) := ⟨(i - s.ix).toNat, by omega⟩
    have HT : Hid (s.hintT i = s.term i) := Lib.hid (by unfold LG.hintT; rw [hh]; rfl)
    have HI : Hid (s.hintI i = (s.ix : Int) + (s.back (s.term i) k : Int)) := Lib.hid (by
      unfold LG.hintI; rw [hh]
      simp only [if_true]
      rw [show (i - (s.ix : Int)).toNat = k by omega])
    have CB := Lib.hid (fun w' (hf : Fr (fun _ => False) w w') => lgBeginOf (h.fr0 hf) (s.term i) k (by omega) (by omega))
    rw [← hk] at CB
    rw [LG.is_of_has hh] at CT
    rw [hh] at CH
    generalize s.term i = tt at *
    generalize s.back tt k = bk at *
    clear h hh hb hk
    go_enter Try.func20, Try.ntmps20
    go_wp2_with fail
    refine CH.out.mono ?_; rintro e w1 ⟨rfl, rfl⟩
    go_wp2_with fail
    refine CT.out.mono ?_; rintro e w1 ⟨rfl, hf1⟩
    have C := Lib.hid (CB.out w1 hf1)
    have HF1 := Lib.hid hf1
    clear hf1
    go_wp2_with fail
    refine C.out.mono ?_; rintro e w2 ⟨rfl, hf2⟩
    have HF2 := Lib.hid (HF1.out.trans hf2 (fun _ _ h => h))
    clear hf2 C
    go_wp2
    go_ret2
    rw [HT.out, HI.out]
    exact ⟨rfl, HF2.out⟩
  | false =>
    have CF := Lib.hid (lgFirst h)
    have CL := Lib.hid (lgLast h)
    have HT : Hid (s.hintT i = 0) := Lib.hid (by unfold LG.hintT; rw [hh]; rfl)
    have HI : Hid (s.hintI i = if i ≤ s.ix then (s.ix : Int) + 1 else s.lastI + 1) := Lib.hid (by unfold LG.hintI; rw [hh]; rfl)
    have c0 : w.cell? ⟨g, 0, none⟩ = some (.int .i64 (s.ix : Int)) := by
      obtain ⟨v, ps, h1, _, _⟩ := h
      exact h1.c0
    rw [hh] at CH
    have hlI : 0 ≤ s.lastI ∧ s.lastI ≤ 20000000000000 := by unfold LG.lastI; omega
    obtain ⟨hl0, hl1⟩ := hlI
    generalize s.lastI = li at *
    generalize s.lastT = lt at *
    generalize s.ix = ix at *
    clear h hh CT hi1
    by_cases hi : i ≤ (ix : Int)
    · have HI2 : Hid (s.hintI i = (ix : Int) + 1) := Lib.hid (by rw [HI.out, if_pos hi])
      go_enter Try.func20, Try.ntmps20
      go_wp2_with fail
      refine CH.out.mono ?_; rintro e w1 ⟨rfl, rfl⟩
      go_wp2_with fail
      refine CF.out.mono ?_; rintro e w1 ⟨rfl, rfl⟩
      go_wp2
      go_ret2
      rw [HT.out, HI2.out]
      exact ⟨rfl, Fr.refl _ _⟩
    · have HI2 : Hid (s.hintI i = li + 1) := Lib.hid (by rw [HI.out, if_neg hi])
      have d1 : decide (i ≤ (ix : Int)) = false := decide_eq_false hi
      go_enter Try.func20, Try.ntmps20
      go_wp2_with fail
      refine CH.out.mono ?_; rintro e w1 ⟨rfl, rfl⟩
      go_wp2_with fail
      refine CL.out.mono ?_; rintro e w1 ⟨rfl, hf1⟩
      have HF1 := Lib.hid hf1
      clear hf1
      go_wp2
      go_ret2
      rw [HT.out, HI2.out]
      exact ⟨rfl, HF1.out⟩

/-- What a merge answers: from, more, the error. -/
def LG.mres (s : LG) (i : Int) (l : List En) : Int × List En × Int := if s.mok i l then (if s.like i l < l.length then (s.mfrom i l, l.drop (s.like i l), 0) else (0, [], 0)) else (0, [], 6)
def MergeE (w : World) (g : Nat) (s : LG) (F : Nat → Prop) (i : Int) (es : List En) (e : Ending) (w' : World) : Prop :=
  ∃ v qs, e = .returned (.tuple #[.int .i64 (s.mres i es).1, v, .int .i64 (s.mres i es).2.2]) ∧ qs.map EL.e = (s.mres i es).2.1 ∧ (OwnE w' 51 v qs ∧ ∀ k, EB v qs k → w.heap.size ≤ k) ∧ LgTo 65 51 w g F w' (s.merge i es)
theorem nilE {n : Nat} : ∀ k, EB (.slice none 0 0) [] k → n ≤ k := fun k hk => by
  rcases hk with e | ⟨p, hp, _⟩
  · simp [Value.ownBlock] at e
  · cases hp
theorem Lg.to0 {TL TE : TypeId} {w w' : World} {g : Nat} {s : LG} {F : Nat → Prop} (h : Lg TL TE w g s F) (hf : Fr (fun _ => False) w w') : LgTo TL TE w g F w' s :=
  ⟨F, h.fr0 hf, hf.mono (fun _ _ h => h.elim), fun _ h => .inl h⟩
theorem LG.merge_bad {s : LG} {i : Int} {l : List En} (h : s.mok i l = false) : s.merge i l = s ∧ s.mres i l = (0, [], 6) := by
  unfold LG.merge LG.mres; simp [h]
theorem LG.merge_none {s : LG} {i : Int} {l : List En} (h : s.mok i l = true) (h2 : ¬ s.like i l < l.length) : s.merge i l = s ∧ s.mres i l = (0, [], 0) := by
  unfold LG.merge LG.mres; simp [h, h2]
theorem LG.merge_some {s : LG} {i : Int} {l : List En} (h : s.mok i l = true) (h2 : s.like i l < l.length) : s.merge i l = ⟨s.ix, s.tm, s.l.take (s.lo (s.mfrom i l)) ++ l.drop (s.like i l)⟩ ∧ s.mres i l = (s.mfrom i l, l.drop (s.like i l), 0) := by
  unfold LG.merge LG.mres; simp [h, h2]

set_option maxRecDepth 100000 in
set_option maxHeartbeats 4000000 in
theorem lgMerge_bad {w : World} {g : Nat} {s : LG} {F G : Nat → Prop} {A : Option Addr} {n c : Nat} {ps2 : List EL} (h : Lg 65 51 w g s F) (hes : Es w A n ps2 G) (hG : ∀ k, G k → k < w.heap.size) (hn : n ≤ 5000000000000) (i : Int) (i0 : -9223372036854775808 ≤ i) (i1 : i ≤ 9223372036854775807) (hm : s.mok i (ps2.map EL.e) = false) :
    Calls Try.prog 18 #[.pointer (some ⟨g, 0, none⟩), .int .i64 i, .slice A n c] w fun e w' => MergeE w g s F i (ps2.map EL.e) e w' := by
  have CT := Lib.hid (lgTerm h i i0 i1)
  have CR := Lib.hid (fun w' (hf : Fr (fun _ => False) w w') => rise_any (s.term i) A n c ps2 G w' (hes.fr0 hf) (fun k hk => Nat.lt_of_lt_of_le (hG k hk) hf.size) (by omega))
  have HM := Lib.hid (LG.merge_bad hm)
  have H := Lib.hid h
  obtain ⟨es, hee⟩ : ∃ es, ps2.map EL.e = es := ⟨_, rfl⟩
  rw [hee] at CR HM hm ⊢
  unfold LG.mok at hm
  cases hi : s.is i with
  | false =>
    rw [hi] at CT
    generalize s.term i = tt at *
    clear h hes hG hm hi hee CR
    go_enter Try.func18, Try.ntmps18
    go_wp2_with fail
    refine CT.out.mono ?_; rintro e w1 ⟨rfl, hf1⟩
    have HF1 := Lib.hid hf1
    clear hf1
    go_wp2
    refine bodyPost_ret (v := .tuple #[.int .i64 0, .slice none 0 0, .int .i64 6]) (by simp [results, Try.results18, go_sem]) rfl ?_
    refine ⟨.slice none 0 0, [], by rw [HM.out.2], by rw [HM.out.2]; rfl, ⟨OwnE.nil _ _, nilE⟩, ?_⟩
    rw [HM.out.1]
    exact H.out.to0 HF1.out
  | true =>
    rw [hi] at CT hm
    simp only [Bool.true_and] at hm
    generalize s.term i = tt at *
    rw [hm] at CR
    clear h hes hG hm hi hee
    go_enter Try.func18, Try.ntmps18
    go_wp2_with fail
    refine CT.out.mono ?_; rintro e w1 ⟨rfl, hf1⟩
    have C := Lib.hid (CR.out w1 hf1)
    have HF1 := Lib.hid hf1
    clear hf1 CR
    go_wp2_with fail
    refine C.out.mono ?_; rintro e w2 ⟨rfl, hf2⟩
    have HF2 := Lib.hid (HF1.out.trans hf2 (fun _ _ h => h))
    clear hf2 C
    go_wp2
    refine bodyPost_ret (v := .tuple #[.int .i64 0, .slice none 0 0, .int .i64 6]) (by simp [results, Try.results18, go_sem]) rfl ?_
    refine ⟨.slice none 0 0, [], by rw [HM.out.2], by rw [HM.out.2]; rfl, ⟨OwnE.nil _ _, nilE⟩, ?_⟩
    rw [HM.out.1]
    exact H.out.to0 HF2.out

set_option maxRecDepth 100000 in
set_option maxHeartbeats 4000000 in
theorem lgMerge_none {w : World} {g : Nat} {s : LG} {F G : Nat → Prop} {A : Option Addr} {n c : Nat} {ps2 : List EL} (h : Lg 65 51 w g s F) (hes : Es w A n ps2 G) (hG : ∀ k, G k → k < w.heap.size) (hn : n ≤ 5000000000000) (hnc : n ≤ c) (hcm : c ≤ maxLen) (i : Int) (i0 : -9223372036854775808 ≤ i) (i1 : i ≤ 9223372036854775807) (hm : s.mok i (ps2.map EL.e) = true) (hk : ¬ s.like i (ps2.map EL.e) < (ps2.map EL.e).length) :
    Calls Try.prog 18 #[.pointer (some ⟨g, 0, none⟩), .int .i64 i, .slice A n c] w fun e w' => MergeE w g s F i (ps2.map EL.e) e w' := by
  have CT := Lib.hid (lgTerm h i i0 i1)
  have CR := Lib.hid (fun w' (hf : Fr (fun _ => False) w w') => rise_any (s.term i) A n c ps2 G w' (hes.fr0 hf) (fun k hk => Nat.lt_of_lt_of_le (hG k hk) hf.size) (by omega))
  have hmm : s.is i = true ∧ rise (s.term i) (ps2.map EL.e) = true := by unfold LG.mok at hm; simpa using hm
  have CA := Lib.hid (fun w' (hf : Fr (fun _ => False) w w') => lgAlike (c := c) (h.fr0 hf) (hes.fr0 hf) hn i hmm.1)
  have hib := LG.is_iff.1 hmm.1
  have hxb := h.ok.i1
  have hlb : 0 ≤ i := by omega
  have hub : i ≤ 20000000000000 := by omega
  have HM := Lib.hid (LG.merge_none hm hk)
  have H := Lib.hid h
  have hll := hes.len
  have hkk := LG.like_le (s := s) (l := ps2.map EL.e) (i := i)
  have hle : s.like i (ps2.map EL.e) = n := by rw [List.length_map] at hk hkk; omega
  have HAA : Hid (0 < n → ∃ b off, A = some ⟨b, off, none⟩) := Lib.hid (fun h0 => by obtain ⟨b, off, e, _⟩ := hes.row h0; exact ⟨b, off, e⟩)
  obtain ⟨es, hee⟩ : ∃ es, ps2.map EL.e = es := ⟨_, rfl⟩
  rw [hee] at CR HM CA hmm hle ⊢
  rw [hmm.1] at CT
  rw [hmm.2] at CR
  rw [hle] at CA
  generalize s.term i = tt at *
  have hnI : (n : Int) ≤ 5000000000000 := by omega
  have hncI : (n : Int) ≤ (c : Int) := by omega
  have hcI : (c : Int) ≤ 9223372036854775807 := by unfold maxLen at hcm; omega
  clear h hes hG hm hee hmm hk hkk hle hll hib hxb hcm
  have HNN : Hid (n - n = 0) := Lib.hid (by omega)
  by_cases hn0 : 0 < n
  · obtain ⟨b, off, rfl⟩ := HAA.out hn0
    by_cases hcn : c = n
    · subst hcn
      go_enter Try.func18, Try.ntmps18
      go_wp2_with fail
      refine CT.out.mono ?_; rintro e w1 ⟨rfl, hf1⟩
      have C := Lib.hid (CR.out w1 hf1)
      have HF1 := Lib.hid hf1
      clear hf1 CR
      go_wp2_with fail
      refine C.out.mono ?_; rintro e w2 ⟨rfl, hf2⟩
      have C := Lib.hid (CA.out w2 (HF1.out.trans hf2 (fun _ _ h => h)))
      have HF2 := Lib.hid (HF1.out.trans hf2 (fun _ _ h => h))
      clear hf2 CA
      go_wp2_with fail
      refine C.out.mono ?_; rintro e w3 ⟨rfl, hf3⟩
      have HF3 := Lib.hid (HF2.out.trans hf3 (fun _ _ h => h))
      clear hf3 C
      go_wp2_with fail
      go_quiet (fail)
      go_wp2
      refine bodyPost_ret (v := .tuple #[.int .i64 0, .slice none 0 0, .int .i64 0]) (by simp [results, Try.results18, go_sem]) rfl ?_
      refine ⟨.slice none 0 0, [], by rw [HM.out.2], by rw [HM.out.2]; rfl, ⟨OwnE.nil _ _, nilE⟩, ?_⟩
      rw [HM.out.1]
      exact H.out.to0 (HF3.out.drewN _)
    · have hcn2 : ¬ (n = c) := fun e => hcn e.symm
      go_enter Try.func18, Try.ntmps18
      go_wp2_with fail
      refine CT.out.mono ?_; rintro e w1 ⟨rfl, hf1⟩
      have C := Lib.hid (CR.out w1 hf1)
      have HF1 := Lib.hid hf1
      clear hf1 CR
      go_wp2_with fail
      refine C.out.mono ?_; rintro e w2 ⟨rfl, hf2⟩
      have C := Lib.hid (CA.out w2 (HF1.out.trans hf2 (fun _ _ h => h)))
      have HF2 := Lib.hid (HF1.out.trans hf2 (fun _ _ h => h))
      clear hf2 CA
      go_wp2_with fail
      refine C.out.mono ?_; rintro e w3 ⟨rfl, hf3⟩
      have HF3 := Lib.hid (HF2.out.trans hf3 (fun _ _ h => h))
      clear hf3 C
      go_wp2_with fail
      go_quiet (fail)
      go_wp2
      refine bodyPost_ret (v := .tuple #[.int .i64 0, .slice none 0 0, .int .i64 0]) (by simp [results, Try.results18, go_sem]) rfl ?_
      refine ⟨.slice none 0 0, [], by rw [HM.out.2], by rw [HM.out.2]; rfl, ⟨OwnE.nil _ _, nilE⟩, ?_⟩
      rw [HM.out.1]
      exact H.out.to0 (HF3.out.drewN _)
  · obtain rfl : n = 0 := by omega
    rcases A with _ | ad
    · by_cases hcn : c = 0
      · subst hcn
        go_enter Try.func18, Try.ntmps18
        go_wp2_with fail
        refine CT.out.mono ?_; rintro e w1 ⟨rfl, hf1⟩
        have C := Lib.hid (CR.out w1 hf1)
        have HF1 := Lib.hid hf1
        clear hf1 CR
        go_wp2_with fail
        refine C.out.mono ?_; rintro e w2 ⟨rfl, hf2⟩
        have C := Lib.hid (CA.out w2 (HF1.out.trans hf2 (fun _ _ h => h)))
        have HF2 := Lib.hid (HF1.out.trans hf2 (fun _ _ h => h))
        clear hf2 CA
        go_wp2_with fail
        refine C.out.mono ?_; rintro e w3 ⟨rfl, hf3⟩
        have HF3 := Lib.hid (HF2.out.trans hf3 (fun _ _ h => h))
        clear hf3 C
        go_wp2_with fail
        go_quiet (fail)
        go_wp2
        refine bodyPost_ret (v := .tuple #[.int .i64 0, .slice none 0 0, .int .i64 0]) (by simp [results, Try.results18, go_sem]) rfl ?_
        refine ⟨.slice none 0 0, [], by rw [HM.out.2], by rw [HM.out.2]; rfl, ⟨OwnE.nil _ _, nilE⟩, ?_⟩
        rw [HM.out.1]
        exact H.out.to0 (HF3.out.drewN _)
      · have hcn2 : ¬ (0 = c) := fun e => hcn e.symm
        go_enter Try.func18, Try.ntmps18
        go_wp2_with fail
        refine CT.out.mono ?_; rintro e w1 ⟨rfl, hf1⟩
        have C := Lib.hid (CR.out w1 hf1)
        have HF1 := Lib.hid hf1
        clear hf1 CR
        go_wp2_with fail
        refine C.out.mono ?_; rintro e w2 ⟨rfl, hf2⟩
        have C := Lib.hid (CA.out w2 (HF1.out.trans hf2 (fun _ _ h => h)))
        have HF2 := Lib.hid (HF1.out.trans hf2 (fun _ _ h => h))
        clear hf2 CA
        go_wp2_with fail
        refine C.out.mono ?_; rintro e w3 ⟨rfl, hf3⟩
        have HF3 := Lib.hid (HF2.out.trans hf3 (fun _ _ h => h))
        clear hf3 C
        go_wp2_with fail
        go_quiet (fail)
        go_wp2
        refine bodyPost_ret (v := .tuple #[.int .i64 0, .slice none 0 0, .int .i64 0]) (by simp [results, Try.results18, go_sem]) rfl ?_
        refine ⟨.slice none 0 0, [], by rw [HM.out.2], by rw [HM.out.2]; rfl, ⟨OwnE.nil _ _, nilE⟩, ?_⟩
        rw [HM.out.1]
        exact H.out.to0 (HF3.out.drewN _)
    · by_cases hcn : c = 0
      · subst hcn
        go_enter Try.func18, Try.ntmps18
        go_wp2_with fail
        refine CT.out.mono ?_; rintro e w1 ⟨rfl, hf1⟩
        have C := Lib.hid (CR.out w1 hf1)
        have HF1 := Lib.hid hf1
        clear hf1 CR
        go_wp2_with fail
        refine C.out.mono ?_; rintro e w2 ⟨rfl, hf2⟩
        have C := Lib.hid (CA.out w2 (HF1.out.trans hf2 (fun _ _ h => h)))
        have HF2 := Lib.hid (HF1.out.trans hf2 (fun _ _ h => h))
        clear hf2 CA
        go_wp2_with fail
        refine C.out.mono ?_; rintro e w3 ⟨rfl, hf3⟩
        have HF3 := Lib.hid (HF2.out.trans hf3 (fun _ _ h => h))
        clear hf3 C
        go_wp2_with fail
        go_quiet (fail)
        go_wp2
        refine bodyPost_ret (v := .tuple #[.int .i64 0, .slice none 0 0, .int .i64 0]) (by simp [results, Try.results18, go_sem]) rfl ?_
        refine ⟨.slice none 0 0, [], by rw [HM.out.2], by rw [HM.out.2]; rfl, ⟨OwnE.nil _ _, nilE⟩, ?_⟩
        rw [HM.out.1]
        exact H.out.to0 (HF3.out.drewN _)
      · have hcn2 : ¬ (0 = c) := fun e => hcn e.symm
        go_enter Try.func18, Try.ntmps18
        go_wp2_with fail
        refine CT.out.mono ?_; rintro e w1 ⟨rfl, hf1⟩
        have C := Lib.hid (CR.out w1 hf1)
        have HF1 := Lib.hid hf1
        clear hf1 CR
        go_wp2_with fail
        refine C.out.mono ?_; rintro e w2 ⟨rfl, hf2⟩
        have C := Lib.hid (CA.out w2 (HF1.out.trans hf2 (fun _ _ h => h)))
        have HF2 := Lib.hid (HF1.out.trans hf2 (fun _ _ h => h))
        clear hf2 CA
        go_wp2_with fail
        refine C.out.mono ?_; rintro e w3 ⟨rfl, hf3⟩
        have HF3 := Lib.hid (HF2.out.trans hf3 (fun _ _ h => h))
        clear hf3 C
        go_wp2_with fail
        go_quiet (fail)
        go_wp2
        refine bodyPost_ret (v := .tuple #[.int .i64 0, .slice none 0 0, .int .i64 0]) (by simp [results, Try.results18, go_sem]) rfl ?_
        refine ⟨.slice none 0 0, [], by rw [HM.out.2], by rw [HM.out.2]; rfl, ⟨OwnE.nil _ _, nilE⟩, ?_⟩
        rw [HM.out.1]
        exact H.out.to0 (HF3.out.drewN _)

set_option maxRecDepth 100000 in
set_option maxHeartbeats 4000000 in
theorem lgMerge_some {w : World} {g : Nat} {s : LG} {F G : Nat → Prop} {A : Option Addr} {n c : Nat} {ps2 : List EL} (h : Lg 65 51 w g s F) (hes : Es w A n ps2 G) (hG : ∀ k, G k → k < w.heap.size) (hGF : ∀ k, G k → ¬ F k) (hn : n ≤ 5000000000000) (hnc : n ≤ c) (hcm : c ≤ maxLen) (hb1 : s.ix + s.l.length + n ≤ 20000000000000) (hb2 : s.l.length + n ≤ 5000000000000)
    (i : Int) (i0 : -9223372036854775808 ≤ i) (i1 : i ≤ 9223372036854775807) (hm : s.mok i (ps2.map EL.e) = true) (hk : s.like i (ps2.map EL.e) < (ps2.map EL.e).length) :
    Calls Try.prog 18 #[.pointer (some ⟨g, 0, none⟩), .int .i64 i, .slice A n c] w fun e w' => MergeE w g s F i (ps2.map EL.e) e w' := by
  have CT := Lib.hid (lgTerm h i i0 i1)
  have CR := Lib.hid (fun w' (hf : Fr (fun _ => False) w w') => rise_any (s.term i) A n c ps2 G w' (hes.fr0 hf) (fun k hk => Nat.lt_of_lt_of_le (hG k hk) hf.size) (by omega))
  have hmm : s.is i = true ∧ rise (s.term i) (ps2.map EL.e) = true := by unfold LG.mok at hm; simpa using hm
  have CA := Lib.hid (fun w' (hf : Fr (fun _ => False) w w') => lgAlike (c := c) (h.fr0 hf) (hes.fr0 hf) hn i hmm.1)
  have hib := LG.is_iff.1 hmm.1
  have hxb := h.ok.i1
  have hlb : 0 ≤ i := by omega
  have hub : i ≤ 20000000000000 := by omega
  obtain ⟨HM1, HM2⟩ := LG.merge_some hm hk
  have HM1 := Lib.hid HM1
  have HM2 := Lib.hid HM2
  have hll := hes.len
  rw [List.length_map, hll] at hk
  obtain ⟨b, off, hA, _⟩ := hes.row (by omega)
  subst hA
  have hlis := LG.is_iff.1 (LG.like_is (l := ps2.map EL.e) hmm.1)
  obtain ⟨t, ht⟩ : ∃ t, s.like i (ps2.map EL.e) = t := ⟨_, rfl⟩
  have HMF : Hid (s.mfrom i (ps2.map EL.e) = i + 1 + (t : Int)) := Lib.hid (by unfold LG.mfrom; rw [ht])
  rw [ht] at CA hk HM1 HM2 hlis
  have CH := Lib.hid (fun w' (hf : Fr (fun _ => False) w w') => lgHas (h.fr0 hf) (i + 1 + (t : Int)) (by omega) (by omega))
  have hrest := hes.drop t (by omega)
  obtain ⟨kk, hkk⟩ : ∃ kk, s.lo (s.mfrom i (ps2.map EL.e)) = kk := ⟨_, rfl⟩
  have hkk2 : kk = (i + (t : Int) - (s.ix : Int)).toNat := by rw [← hkk, HMF.out]; unfold LG.lo; congr 1; omega
  rw [hkk] at HM1
  have hkb : kk ≤ s.l.length := by omega
  have hfromk : i + 1 + (t : Int) = (s.ix : Int) + 1 + (kk : Int) := by omega
  have HHAS : Hid (s.has (i + 1 + (t : Int)) = decide (kk < s.l.length)) := Lib.hid (by unfold LG.has; rw [hfromk]; by_cases h9 : kk < s.l.length <;> simp [h9] <;> omega)
  have HREST := Lib.hid hrest
  have HGF := Lib.hid hGF
  have HG := Lib.hid hG
  have H := Lib.hid h
  obtain ⟨es, hee⟩ : ∃ es, ps2.map EL.e = es := ⟨_, rfl⟩
  have HEE : Hid ((ps2.drop t).map EL.e = es.drop t) := Lib.hid (by rw [← hee, List.map_drop])
  have HLES : Hid (es.length = n) := Lib.hid (by rw [← hee, List.length_map, hll])
  rw [hee] at CR HM1 HM2 hmm HMF ⊢
  rw [hmm.1] at CT
  rw [hmm.2] at CR
  generalize s.term i = tt at *
  have hnI : (n : Int) ≤ 5000000000000 := by omega
  have hncI : (n : Int) ≤ (c : Int) := by omega
  have hcI : (c : Int) ≤ 9223372036854775807 := by unfold maxLen at hcm; omega
  have htI : (t : Int) < (n : Int) := by omega
  have htc : (t : Int) ≤ (c : Int) := by omega
  have htc2 : ¬ (c = t) := by omega
  have htc3 : ¬ (t = c) := by omega
  have HB : Hid (s.ix + s.l.length + n ≤ 20000000000000 ∧ s.l.length + n ≤ 5000000000000 ∧ kk ≤ s.l.length ∧ n - t ≤ 5000000000000) := Lib.hid ⟨hb1, hb2, hkb, by omega⟩
  have HFK := Lib.hid hfromk
  obtain ⟨m, hmn⟩ : ∃ m, n - t = m := ⟨_, rfl⟩
  have hm0 : ¬ ((m : Int) = 0) := by omega
  have dm0 : ((m : Int) == 0) = false := by rw [beq_eq_false_iff_ne]; omega
  have hmI : (m : Int) ≤ 5000000000000 := by omega
  have hmI0 : (0 : Int) < (m : Int) := by omega
  have HMN := Lib.hid hmn
  rw [hmn] at HREST
  have hnt : (n : Int) - (t : Int) = (m : Int) := by omega
  clear h hes hG hGF hm hee hmm hk hkk hll hib hxb hcm hlis hrest hkk2 hkb hb1 hb2
  by_cases hkl : kk < s.l.length
  · have hhas := HHAS.out
    rw [decide_eq_true hkl] at hhas
    rw [hhas] at CH
    have HKL := Lib.hid hkl
    clear hkl hhas hfromk
    go_enter Try.func18, Try.ntmps18
    go_wp2_with fail
    refine CT.out.mono ?_; rintro e w1 ⟨rfl, hf1⟩
    have C := Lib.hid (CR.out w1 hf1)
    have HF1 := Lib.hid hf1
    clear hf1 CR
    go_wp2_with fail
    refine C.out.mono ?_; rintro e w2 ⟨rfl, hf2⟩
    have C := Lib.hid (CA.out w2 (HF1.out.trans hf2 (fun _ _ h => h)))
    have HF2 := Lib.hid (HF1.out.trans hf2 (fun _ _ h => h))
    clear hf2 CA
    go_wp2_with fail
    refine C.out.mono ?_; rintro e w3 ⟨rfl, hf3⟩
    have HF3 := Lib.hid (HF2.out.trans hf3 (fun _ _ h => h))
    clear hf3 C
    go_wp2_with fail
    go_quiet (fail)
    go_wp2_with fail
    have C := Lib.hid (fun m => CH.out _ (HF3.out.drewN m))
    clear CH
    refine (C.out _).mono ?_; rintro e w5 ⟨rfl, e5⟩
    have HF4 : Hid (Fr (fun _ => False) w w5) := Lib.hid (by rw [← e5]; exact HF3.out.drewN _)
    clear C e5
    have C := Lib.hid (dropFrom_any (H.out.fr0 HF4.out) HKL.out (i + 1 + (t : Int)) HFK.out)
    go_wp2_with fail
    refine C.out.mono ?_; rintro e w6 ⟨rfl, hl6, hf6⟩
    have HES6 := Lib.hid ((HREST.out.fr0 HF4.out).fr hf6 (fun k hk => HGF.out k hk))
    have hsz6 : w.heap.size ≤ w6.heap.size := Nat.le_trans HF4.out.size hf6.size
    have HF6 : Hid (Fr F w w6) := Lib.hid ((HF4.out.mono (fun _ _ h => h.elim)).trans hf6 (fun _ _ e => e))
    have C := Lib.hid (lgAdd (c := c - t) hl6 HES6.out (fun k hk => Nat.lt_of_lt_of_le (HG.out k hk) hsz6) (by have := HB.out; have := HMN.out; omega) ⟨by have := HB.out; have := HMN.out; simp only [LG.add, List.length_append, List.length_take, List.length_map, HES6.out.len]; omega, by have := HB.out; have := HMN.out; simp only [LG.add, List.length_append, List.length_take, List.length_map, HES6.out.len]; omega⟩)
    clear hl6 hf6 hsz6
    go_wp2_with fail
    refine C.out.mono ?_; rintro e w7 ⟨rfl, F7, hl7, hf7, hF7⟩
    have HES7 := Lib.hid (HES6.out.fr hf7 (fun k hk => HGF.out k hk))
    have HF7 : Hid (Fr F w w7) := Lib.hid (HF6.out.trans hf7 (fun _ _ e => e))
    have HL7 := Lib.hid hl7
    have HFF7 : Hid (∀ k, F7 k → F k ∨ w.heap.size ≤ k) := Lib.hid (fun k hk => (hF7 k hk).imp id (fun h => Nat.le_trans HF6.out.size h))
    clear hl7 hf7 hF7 C
    have C := Lib.hid (copies_any _ m (c - t) _ G w7 HES7.out (fun k hk => Nat.lt_of_lt_of_le (HG.out k hk) HF7.out.size) (by have := HB.out; have := HMN.out; omega))
    go_wp2_with fail
    refine C.out.mono ?_; rintro e w8 ⟨v8, qs8, rfl, hn8, hq8⟩
    have HN8 := Lib.hid hn8
    have HQ8 := Lib.hid hq8
    clear hn8 hq8 C
    go_wp2
    refine bodyPost_ret (v := .tuple #[.int .i64 (i + 1 + (t : Int)), v8, .int .i64 0]) (by simp [results, Try.results18, go_sem]) rfl ?_
    refine ⟨v8, qs8, by rw [HM2.out, HMF.out], by rw [HM2.out, HQ8.out, HEE.out], ⟨HN8.out.1, fun k hk => Nat.le_trans HF7.out.size (HN8.out.2.2 k hk)⟩, F7, ?_, HF7.out.trans HN8.out.2.1 (fun _ _ h => h.elim), HFF7.out⟩
    have h9 := HL7.out.fr0 HN8.out.2.1
    rw [HM1.out]
    simp only [LG.add, HEE.out] at h9
    exact h9
  · have hhas := HHAS.out
    rw [decide_eq_false hkl] at hhas
    rw [hhas] at CH
    have HKL := Lib.hid hkl
    clear hkl hhas hfromk
    go_enter Try.func18, Try.ntmps18
    go_wp2_with fail
    refine CT.out.mono ?_; rintro e w1 ⟨rfl, hf1⟩
    have C := Lib.hid (CR.out w1 hf1)
    have HF1 := Lib.hid hf1
    clear hf1 CR
    go_wp2_with fail
    refine C.out.mono ?_; rintro e w2 ⟨rfl, hf2⟩
    have C := Lib.hid (CA.out w2 (HF1.out.trans hf2 (fun _ _ h => h)))
    have HF2 := Lib.hid (HF1.out.trans hf2 (fun _ _ h => h))
    clear hf2 CA
    go_wp2_with fail
    refine C.out.mono ?_; rintro e w3 ⟨rfl, hf3⟩
    have HF3 := Lib.hid (HF2.out.trans hf3 (fun _ _ h => h))
    clear hf3 C
    go_wp2_with fail
    go_quiet (fail)
    go_wp2_with fail
    have C := Lib.hid (fun m => CH.out _ (HF3.out.drewN m))
    clear CH
    refine (C.out _).mono ?_; rintro e w5 ⟨rfl, e5⟩
    have HF4 : Hid (Fr (fun _ => False) w w5) := Lib.hid (by rw [← e5]; exact HF3.out.drewN _)
    clear C e5
    have C := Lib.hid (lgAdd (c := c - t) (H.out.fr0 HF4.out) (HREST.out.fr0 HF4.out) (fun k hk => Nat.lt_of_lt_of_le (HG.out k hk) HF4.out.size) (by have := HB.out; have := HMN.out; omega) ⟨by have := HB.out; have := HMN.out; simp only [LG.add, List.length_append, List.length_map, HREST.out.len]; omega, by have := HB.out; have := HMN.out; simp only [LG.add, List.length_append, List.length_map, HREST.out.len]; omega⟩)
    have HES6 := Lib.hid (HREST.out.fr0 HF4.out)
    have HF6 : Hid (Fr F w w5) := Lib.hid (HF4.out.mono (fun _ _ h => h.elim))
    go_wp2_with fail
    refine C.out.mono ?_; rintro e w7 ⟨rfl, F7, hl7, hf7, hF7⟩
    have HES7 := Lib.hid (HES6.out.fr hf7 (fun k hk => HGF.out k hk))
    have HF7 : Hid (Fr F w w7) := Lib.hid (HF6.out.trans hf7 (fun _ _ e => e))
    have HL7 := Lib.hid hl7
    have HFF7 : Hid (∀ k, F7 k → F k ∨ w.heap.size ≤ k) := Lib.hid (fun k hk => (hF7 k hk).imp id (fun h => Nat.le_trans HF6.out.size h))
    clear hl7 hf7 hF7 C
    have C := Lib.hid (copies_any _ m (c - t) _ G w7 HES7.out (fun k hk => Nat.lt_of_lt_of_le (HG.out k hk) HF7.out.size) (by have := HB.out; have := HMN.out; omega))
    go_wp2_with fail
    refine C.out.mono ?_; rintro e w8 ⟨v8, qs8, rfl, hn8, hq8⟩
    have HN8 := Lib.hid hn8
    have HQ8 := Lib.hid hq8
    clear hn8 hq8 C
    go_wp2
    refine bodyPost_ret (v := .tuple #[.int .i64 (i + 1 + (t : Int)), v8, .int .i64 0]) (by simp [results, Try.results18, go_sem]) rfl ?_
    refine ⟨v8, qs8, by rw [HM2.out, HMF.out], by rw [HM2.out, HQ8.out, HEE.out], ⟨HN8.out.1, fun k hk => Nat.le_trans HF7.out.size (HN8.out.2.2 k hk)⟩, F7, ?_, HF7.out.trans HN8.out.2.1 (fun _ _ h => h.elim), HFF7.out⟩
    have h9 := HL7.out.fr0 HN8.out.2.1
    rw [HM1.out]
    simp only [LG.add, HEE.out] at h9
    rw [List.take_of_length_le (by have := HKL.out; omega)]
    exact h9

/-- Merge, whole. -/
theorem lgMerge {w : World} {g : Nat} {s : LG} {F G : Nat → Prop} {A : Option Addr} {n c : Nat} {ps2 : List EL} (h : Lg 65 51 w g s F) (hes : Es w A n ps2 G) (hG : ∀ k, G k → k < w.heap.size) (hGF : ∀ k, G k → ¬ F k) (hn : n ≤ 5000000000000) (hnc : n ≤ c) (hcm : c ≤ maxLen) (hb1 : s.ix + s.l.length + n ≤ 20000000000000) (hb2 : s.l.length + n ≤ 5000000000000)
    (i : Int) (i0 : -9223372036854775808 ≤ i) (i1 : i ≤ 9223372036854775807) :
    Calls Try.prog 18 #[.pointer (some ⟨g, 0, none⟩), .int .i64 i, .slice A n c] w fun e w' => MergeE w g s F i (ps2.map EL.e) e w' := by
  cases hm : s.mok i (ps2.map EL.e) with
  | false => exact lgMerge_bad h hes hG hn i i0 i1 hm
  | true =>
    by_cases hk : s.like i (ps2.map EL.e) < (ps2.map EL.e).length
    · exact lgMerge_some h hes hG hGF hn hnc hcm hb1 hb2 i i0 i1 hm hk
    · exact lgMerge_none h hes hG hn hnc hcm i i0 i1 hm hk
end Go.Proofs.Ytainkckcipdknaa
