/- The log's cut, Get, New. -/
import Derived.Test.YtainkckcipdknaaQd
namespace Go.Proofs.Ytainkckcipdknaa
open Go.RowKit

theorem LG.get_none {s : LG} {f p : Int} (h : min (s.lo p) s.l.length ≤ s.lo f) : s.get f p = [] := by
  unfold LG.get; exact List.drop_of_length_le (by rw [List.length_take]; exact h)
theorem LG.get_some {s : LG} {f p : Int} {hi : Nat} (h : min (s.lo p) s.l.length = hi) : s.get f p = (s.l.take hi).drop (s.lo f) := by
  unfold LG.get
  congr 1
  rw [← h]
  by_cases h1 : s.lo p ≤ s.l.length
  · rw [Nat.min_eq_left h1]
  · rw [Nat.min_eq_right (by omega), List.take_of_length_le (by omega), List.take_of_length_le (Nat.le_refl _)]
/-- What cut says. -/
def CutE (w : World) (s : LG) (f p : Int) (F : Nat → Prop) (e : Ending) : Prop := ∃ A n c ps, e = .returned (.slice A n c) ∧ Es w A n ps F ∧ ps.map EL.e = s.get f p ∧ n ≤ 5000000000000

set_option maxRecDepth 100000 in
set_option maxHeartbeats 4000000 in
theorem lgCut {w : World} {g : Nat} {s : LG} {F : Nat → Prop} (h : Lg 65 51 w g s F) (f p : Int) (f0 : -9223372036854775808 ≤ f) (f1 : f ≤ 9223372036854775807) (p0 : -9223372036854775808 ≤ p) (p1 : p ≤ 9223372036854775807) :
    Calls Try.prog 40 #[.pointer (some ⟨g, 0, none⟩), .int .i64 f, .int .i64 p] w fun e w' => CutE w s f p F e ∧ w = w' := by
  have C1 := lgFirst h
  obtain ⟨v, ps, h1, h2, h3⟩ := h
  obtain ⟨A, c, rfl, hnc, hcm, hA⟩ := h1.form
  have c2 := h1.c2
  have b1 := h1.ok.i1
  have b2 := h1.ok.l1
  have HL := Lib.hid h1.l
  have HA := Lib.hid hA
  have HES0 : Hid (∀ {b off : Nat}, A = some ⟨b, off, none⟩ → Es w (some ⟨b, off, none⟩) s.l.length ps F) := Lib.hid (fun e => by
    rw [← e]
    exact h1.own.es.mono (fun k hk => h2 k (.inr hk)))
  obtain ⟨fi, hfi⟩ : ∃ fi : Nat, s.ix + 1 = fi := ⟨_, rfl⟩
  rw [show (s.ix : Int) + 1 = (fi : Int) by omega] at C1
  obtain ⟨lo, hlo⟩ : ∃ lo, s.lo f = lo := ⟨_, rfl⟩
  obtain ⟨hi0, hhi0⟩ : ∃ hi, s.lo p = hi := ⟨_, rfl⟩
  have HLO := Lib.hid hlo
  have HHI := Lib.hid hhi0
  unfold LG.lo at hlo hhi0
  obtain ⟨n, hn⟩ : ∃ n, s.l.length = n := ⟨_, rfl⟩
  have HNN := Lib.hid hn
  rw [hn] at HES0 HA c2 hnc b1 b2
  obtain ⟨hi, hmin⟩ : ∃ hi, min hi0 n = hi := ⟨_, rfl⟩
  have hfib : fi ≤ 20000000000001 := by omega
  have hcb : (c : Int) ≤ 9223372036854775807 := by unfold maxLen at hcm; omega
  have hcb2 : c ≤ 9223372036854775807 := by omega
  have w0 : IntKind.u64.wrap (fi : Int) = (fi : Int) := by rw [wrap_u64q]; omega
  have w1 : IntKind.u64.wrap (n : Int) = (n : Int) := by rw [wrap_u64q]; omega
  have w2 : IntKind.u64.wrap ((fi : Int) - (fi : Int)) = 0 := by rw [wrap_u64q]; omega
  have C1 := Lib.hid C1
  clear h1 h2 h3 hcm hA
  by_cases hf1 : f < (fi : Int)
  · have hlo0 : lo = 0 := by omega
    by_cases hp1 : p < (fi : Int)
    · have hhi00 : hi0 = 0 := by omega
      have HG : Hid (s.get f p = []) := Lib.hid (LG.get_none (by rw [HLO.out, HHI.out, HNN.out]; omega))
      have hm1 : ¬ ((n : Int) < 0) := by omega
      have hl1 : (0 : Int) ≤ (lo : Int) := by omega
      clear hmin hhi00 hfi hlo hhi0 hn
      go_enter Try.func40, Try.ntmps40
      go_wp2_with fail
      refine C1.out.mono ?_; rintro e w1 ⟨rfl, rfl⟩
      go_wp2
      go_ret
      exact ⟨⟨none, 0, 0, [], rfl, Es.nil _ _ _, by rw [HG.out]; rfl, by omega⟩, rfl⟩
    · have hp1 : (fi : Int) ≤ p := by omega
      have wp1 : IntKind.u64.wrap p = p := by rw [wrap_u64q]; omega
      have wp2 : IntKind.u64.wrap (p - (fi : Int)) = (hi0 : Int) := by rw [wrap_u64q]; omega
      by_cases hm1 : (hi0 : Int) ≤ (n : Int)
      · obtain rfl : hi = hi0 := by omega
        by_cases hlh : (hi : Int) ≤ 0
        · have HG : Hid (s.get f p = []) := Lib.hid (LG.get_none (by rw [HLO.out, HHI.out, HNN.out]; omega))
          clear hmin hfi hlo hhi0 hn
          go_enter Try.func40, Try.ntmps40
          go_wp2_with fail
          refine C1.out.mono ?_; rintro e w1 ⟨rfl, rfl⟩
          go_wp2
          go_ret
          exact ⟨⟨none, 0, 0, [], rfl, Es.nil _ _ _, by rw [HG.out]; rfl, by omega⟩, rfl⟩
        · have d8 : 0 < (hi : Int) := by omega
          obtain ⟨b, off, rfl⟩ := HA.out (by omega)
          have HG := Lib.hid (LG.get_some (s := s) (f := f) (p := p) (hi := hi) (by rw [HHI.out, HNN.out]; omega))
          have HES := Lib.hid (HES0 rfl)
          have d7 : (hi : Int) ≤ (c : Int) := by omega
          have d6 : hi ≤ n := by omega
          have d5 : lo ≤ hi := by omega
          have HD9 := Lib.hid (And.intro d6 d5)
          clear hmin hfi hlo hhi0 hn hlh
          go_enter Try.func40, Try.ntmps40
          go_wp2_with fail
          refine C1.out.mono ?_; rintro e w1 ⟨rfl, rfl⟩
          go_wp2
          go_ret
          have h8 := (HES.out.take hi (by omega)).drop lo (by omega)
          refine ⟨⟨_, _, _, (ps.take hi).drop lo, rfl, ?_, ?_, ?_⟩, rfl⟩
          · exact (by simpa [hlo0] using h8)
          · rw [HG.out, HL.out, HLO.out]; simp
          · omega
      · have hm1 : (n : Int) < (hi0 : Int) := by omega
        obtain rfl : hi = n := by omega
        by_cases hlh : (hi : Int) ≤ 0
        · have HG : Hid (s.get f p = []) := Lib.hid (LG.get_none (by rw [HLO.out, HHI.out, HNN.out]; omega))
          clear hmin hfi hlo hhi0 hn
          go_enter Try.func40, Try.ntmps40
          go_wp2_with fail
          refine C1.out.mono ?_; rintro e w1 ⟨rfl, rfl⟩
          go_wp2
          go_ret
          exact ⟨⟨none, 0, 0, [], rfl, Es.nil _ _ _, by rw [HG.out]; rfl, by omega⟩, rfl⟩
        · have d8 : 0 < (hi : Int) := by omega
          obtain ⟨b, off, rfl⟩ := HA.out (by omega)
          have HG := Lib.hid (LG.get_some (s := s) (f := f) (p := p) (hi := hi) (by rw [HHI.out, HNN.out]; omega))
          have HES := Lib.hid (HES0 rfl)
          have d7 : (hi : Int) ≤ (c : Int) := by omega
          have d6 : hi ≤ hi := by omega
          have d5 : lo ≤ hi := by omega
          have HD9 := Lib.hid (And.intro d6 d5)
          clear hmin hfi hlo hhi0 hn hlh
          go_enter Try.func40, Try.ntmps40
          go_wp2_with fail
          refine C1.out.mono ?_; rintro e w1 ⟨rfl, rfl⟩
          go_wp2
          go_ret
          have h8 := (HES.out.take hi (by omega)).drop lo (by omega)
          refine ⟨⟨_, _, _, (ps.take hi).drop lo, rfl, ?_, ?_, ?_⟩, rfl⟩
          · exact (by simpa [hlo0] using h8)
          · rw [HG.out, HL.out, HLO.out]; simp
          · omega
  · have hf1 : (fi : Int) ≤ f := by omega
    have wf1 : IntKind.u64.wrap f = f := by rw [wrap_u64q]; omega
    have wf2 : IntKind.u64.wrap (f - (fi : Int)) = (lo : Int) := by rw [wrap_u64q]; omega
    by_cases hp1 : p < (fi : Int)
    · have hhi00 : hi0 = 0 := by omega
      have HG : Hid (s.get f p = []) := Lib.hid (LG.get_none (by rw [HLO.out, HHI.out, HNN.out]; omega))
      have hm1 : ¬ ((n : Int) < 0) := by omega
      have hl1 : (0 : Int) ≤ (lo : Int) := by omega
      clear hmin hhi00 hfi hlo hhi0 hn
      go_enter Try.func40, Try.ntmps40
      go_wp2_with fail
      refine C1.out.mono ?_; rintro e w1 ⟨rfl, rfl⟩
      go_wp2
      go_ret
      exact ⟨⟨none, 0, 0, [], rfl, Es.nil _ _ _, by rw [HG.out]; rfl, by omega⟩, rfl⟩
    · have hp1 : (fi : Int) ≤ p := by omega
      have wp1 : IntKind.u64.wrap p = p := by rw [wrap_u64q]; omega
      have wp2 : IntKind.u64.wrap (p - (fi : Int)) = (hi0 : Int) := by rw [wrap_u64q]; omega
      by_cases hm1 : (hi0 : Int) ≤ (n : Int)
      · obtain rfl : hi = hi0 := by omega
        by_cases hlh : (hi : Int) ≤ (lo : Int)
        · have HG : Hid (s.get f p = []) := Lib.hid (LG.get_none (by rw [HLO.out, HHI.out, HNN.out]; omega))
          clear hmin hfi hlo hhi0 hn
          go_enter Try.func40, Try.ntmps40
          go_wp2_with fail
          refine C1.out.mono ?_; rintro e w1 ⟨rfl, rfl⟩
          go_wp2
          go_ret
          exact ⟨⟨none, 0, 0, [], rfl, Es.nil _ _ _, by rw [HG.out]; rfl, by omega⟩, rfl⟩
        · have d8 : (lo : Int) < (hi : Int) := by omega
          obtain ⟨b, off, rfl⟩ := HA.out (by omega)
          have HG := Lib.hid (LG.get_some (s := s) (f := f) (p := p) (hi := hi) (by rw [HHI.out, HNN.out]; omega))
          have HES := Lib.hid (HES0 rfl)
          have d7 : (hi : Int) ≤ (c : Int) := by omega
          have d6 : hi ≤ n := by omega
          have d5 : lo ≤ hi := by omega
          have HD9 := Lib.hid (And.intro d6 d5)
          clear hmin hfi hlo hhi0 hn hlh
          go_enter Try.func40, Try.ntmps40
          go_wp2_with fail
          refine C1.out.mono ?_; rintro e w1 ⟨rfl, rfl⟩
          go_wp2
          go_ret
          have h8 := (HES.out.take hi (by omega)).drop lo (by omega)
          refine ⟨⟨_, _, _, (ps.take hi).drop lo, rfl, ?_, ?_, ?_⟩, rfl⟩
          · exact (by simpa using h8)
          · rw [HG.out, HL.out, HLO.out]; simp
          · omega
      · have hm1 : (n : Int) < (hi0 : Int) := by omega
        obtain rfl : hi = n := by omega
        by_cases hlh : (hi : Int) ≤ (lo : Int)
        · have HG : Hid (s.get f p = []) := Lib.hid (LG.get_none (by rw [HLO.out, HHI.out, HNN.out]; omega))
          clear hmin hfi hlo hhi0 hn
          go_enter Try.func40, Try.ntmps40
          go_wp2_with fail
          refine C1.out.mono ?_; rintro e w1 ⟨rfl, rfl⟩
          go_wp2
          go_ret
          exact ⟨⟨none, 0, 0, [], rfl, Es.nil _ _ _, by rw [HG.out]; rfl, by omega⟩, rfl⟩
        · have d8 : (lo : Int) < (hi : Int) := by omega
          obtain ⟨b, off, rfl⟩ := HA.out (by omega)
          have HG := Lib.hid (LG.get_some (s := s) (f := f) (p := p) (hi := hi) (by rw [HHI.out, HNN.out]; omega))
          have HES := Lib.hid (HES0 rfl)
          have d7 : (hi : Int) ≤ (c : Int) := by omega
          have d6 : hi ≤ hi := by omega
          have d5 : lo ≤ hi := by omega
          have HD9 := Lib.hid (And.intro d6 d5)
          clear hmin hfi hlo hhi0 hn hlh
          go_enter Try.func40, Try.ntmps40
          go_wp2_with fail
          refine C1.out.mono ?_; rintro e w1 ⟨rfl, rfl⟩
          go_wp2
          go_ret
          have h8 := (HES.out.take hi (by omega)).drop lo (by omega)
          refine ⟨⟨_, _, _, (ps.take hi).drop lo, rfl, ?_, ?_, ?_⟩, rfl⟩
          · exact (by simpa using h8)
          · rw [HG.out, HL.out, HLO.out]; simp
          · omega

set_option maxRecDepth 100000 in
set_option maxHeartbeats 1000000 in
theorem lgGet {w : World} {g : Nat} {s : LG} {F : Nat → Prop} (h : Lg 65 51 w g s F) (f p : Int) (f0 : -9223372036854775808 ≤ f) (f1 : f ≤ 9223372036854775807) (p0 : -9223372036854775808 ≤ p) (p1 : p ≤ 9223372036854775807) :
    Calls Try.prog 15 #[.pointer (some ⟨g, 0, none⟩), .int .i64 f, .int .i64 p] w fun e w' => ∃ v qs, e = .returned v ∧ NewE w w' 51 v qs ∧ qs.map EL.e = s.get f p := by
  have C1 := Lib.hid (lgCut h f p f0 f1 p0 p1)
  have HF := Lib.hid (fun k (hk : F k) => h.lt hk)
  clear h
  go_enter Try.func15, Try.ntmps15
  go_wp2_with fail
  refine C1.out.mono ?_; rintro e w1 ⟨⟨A, n, c, ps, rfl, hes, hg, hn⟩, rfl⟩
  have C2 := Lib.hid (copies_any A n c ps F w hes HF.out hn)
  have HG := Lib.hid hg
  clear hes hg C1
  go_wp2_with fail
  refine C2.out.mono ?_; rintro e w2 ⟨v, qs, rfl, hnew, hq⟩
  go_wp2
  go_ret
  exact ⟨v, qs, rfl, hnew, by rw [hq, HG.out]⟩

/-- What New says. -/
def NewL (w : World) (TL TE : TypeId) (i t : Int) (es : List En) (e : Ending) (w' : World) : Prop :=
  if (begins i t && rise t es) = true then ∃ g F', e = .returned (.tuple #[.pointer (some ⟨g, 0, none⟩), .int .i64 0]) ∧ Lg TL TE w' g ⟨i.toNat, t, es⟩ F' ∧ Fr (fun _ => False) w w' ∧ (∀ k, F' k → w.heap.size ≤ k) ∧ F' g
  else e = .returned (.tuple #[.pointer none, .int .i64 1]) ∧ Fr (fun _ => False) w w'
set_option maxRecDepth 100000 in
set_option maxHeartbeats 1000000 in
theorem lgNew (i t : Int) (A : Option Addr) (n c : Nat) (ps : List EL) (F : Nat → Prop) (w : World) (h : Es w A n ps F) (hF : ∀ k, F k → k < w.heap.size) (hn : n ≤ 5000000000000) (hi : i ≤ 1099511627776) (ht : t ≤ 9223372036854775807) :
    Calls Try.prog 10 #[.int .i64 i, .int .i64 t, .slice A n c] w fun e w' => NewL w 65 51 i t (ps.map EL.e) e w' := by
  have C1 := Lib.hid (isBegin_any i t w)
  have C2 := Lib.hid (rise_any t A n c ps F w h hF (by omega))
  have H := Lib.hid h
  have HFF := Lib.hid hF
  have HLN : Hid ((ps.map EL.e).length = n) := Lib.hid (by rw [List.length_map, h.len])
  obtain ⟨es, hes⟩ : ∃ es, ps.map EL.e = es := ⟨_, rfl⟩
  obtain ⟨q1, hq1⟩ : ∃ q, begins i t = q := ⟨_, rfl⟩
  obtain ⟨q2, hq2⟩ : ∃ q, rise t es = q := ⟨_, rfl⟩
  unfold NewL
  have HE := Lib.hid hes
  rw [hes] at C2 HLN ⊢
  rw [hq1] at C1 ⊢
  rw [hq2] at C2 ⊢
  have HQ1 := Lib.hid hq1
  clear h hF hes hq1 hq2
  cases q1 with
  | false =>
    simp only [Bool.false_and, Bool.true_and, Bool.false_eq_true, if_false]
    go_enter Try.func10, Try.ntmps10
    go_wp2_with fail
    refine C1.out.mono ?_; rintro e w1 ⟨rfl, rfl⟩
    go_wp2
    go_ret2
    exact ⟨rfl, Fr.refl _ _⟩
  | true =>
    cases q2 with
    | false =>
      simp only [Bool.false_and, Bool.true_and, Bool.false_eq_true, if_false]
      go_enter Try.func10, Try.ntmps10
      go_wp2_with fail
      refine C1.out.mono ?_; rintro e w1 ⟨rfl, rfl⟩
      go_wp2_with fail
      refine C2.out.mono ?_; rintro e w2 ⟨rfl, hf2⟩
      go_wp2
      go_ret2
      exact ⟨rfl, hf2⟩
    | true =>
      simp only [Bool.true_and, if_true]
      have hi0 : 0 ≤ i ∧ 0 ≤ t := by
        have := HQ1.out
        unfold begins at this
        simp at this
        exact this.1
      have HI := Lib.hid hi0
      clear hi0
      go_enter Try.func10, Try.ntmps10
      go_wp2_with fail
      refine C1.out.mono ?_; rintro e w1 ⟨rfl, rfl⟩
      go_wp2_with fail
      refine C2.out.mono ?_; rintro e w2 ⟨rfl, hf2⟩
      have C3 := Lib.hid (copies_any A n c ps F w2 (H.out.fr0 hf2) (fun k hk => Nat.lt_of_lt_of_le (HFF.out k hk) hf2.size) hn)
      have HF2 := Lib.hid hf2
      clear hf2 C1 C2
      go_wp2_with fail
      refine C3.out.mono ?_; rintro e w3 ⟨v, qs, rfl, ⟨hown, hf3, hnew⟩, hq⟩
      have hv : ∃ A' n' c', v = .slice A' n' c' := by
        obtain ⟨A', c', rfl, _⟩ := hown.row.form
        exact ⟨_, _, _, rfl⟩
      have HOWN := Lib.hid hown
      have HNEW := Lib.hid hnew
      have HF3 := Lib.hid hf3
      have HQ := Lib.hid hq
      obtain ⟨A', n', c', rfl⟩ := hv
      clear hown hnew hf3 hq C3
      go_wp2
      go_ret2
      have hfa : Fr (fun _ => False) w3 (w3.alloc (.cells #[.int .i64 i, .int .i64 t, .slice A' n' c'] 65)) := (Fr.refl _ _).alloc _
      have ha := Bk.new w3 65 #[.int .i64 i, .int .i64 t, .slice A' n' c']
      have hil := HI.out
      have hlog : LogM 65 51 (w3.alloc (.cells #[.int .i64 i, .int .i64 t, .slice A' n' c'] 65)) w3.heap.size ⟨i.toNat, t, es⟩ (.slice A' n' c') qs :=
        ⟨⟨by have := HLN.out; simp only; omega, by have := HLN.out; simp only; omega⟩, by simpa [show ((i.toNat : Nat) : Int) = i by omega] using ha, HOWN.out.fr0 hfa, by rw [HQ.out, HE.out]⟩
      refine ⟨w3.heap.size, LB w3.heap.size (.slice A' n' c') qs, rfl, ⟨_, _, hlog, fun _ h => h, fun _ hk => hlog.lt hk⟩, (HF2.out.trans HF3.out (fun _ _ h => h)).trans hfa (fun _ _ h => h), fun k hk => ?_, .inl rfl⟩
      have s2 := HF2.out.size
      have s3 := HF3.out.size
      rcases hk with rfl | e
      · omega
      · exact Nat.le_trans s2 (HNEW.out k e)
end Go.Proofs.Ytainkckcipdknaa
