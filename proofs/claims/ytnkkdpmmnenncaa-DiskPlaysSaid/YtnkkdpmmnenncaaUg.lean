/- The disk's calls: Cut, Sync. -/
import Derived.Test.YtnkkdpmmnenncaaUf
import Derived.LoopTactic
namespace Go.Proofs.Ytnkkdpmmnenncaa
open Go.RowKit Go.Maps

theorem nq_ok {s : DS} (h : s.ok) : ({ s with q := [] } : DS).ok := ⟨h.n0, h.n1, h.s0, h.s1, h.klen, fun _ hp => by simp at hp, fun _ hp => by simp at hp, h.lf⟩
theorem off_ok {s : DS} (h : s.ok) : ({ s with off := true, left := 0, keep := [] } : DS).ok := ⟨h.n0, h.n1, h.s0, h.s1, h.klen, h.sec, h.len, by simp⟩

theorem emptyM {g : Nat} {s : DS} {m : ML} {w : World} (h : DskM w g s m) :
    Calls Try.prog 36 #[.pointer (some ⟨g, 6, none⟩)] w fun e w' => e = .returned (.tuple #[]) ∧ ∃ m', DskM w' g { s with q := [] } m' ∧ (∀ k, WS g m' k → WS g m k ∨ w.heap.size ≤ k) ∧ m'.A = m.A ∧ Fr (fun k => k = g) w w' := by
  have hk := h.kg
  refine (empty_any g s.sz _ _ _ _ _ _ _ _ _ _ w h.blk).mono ?_
  rintro e w1 ⟨rfl, mb, hb, hm, hB, hf⟩
  refine ⟨rfl, ⟨m.A, m.c, m.kb, .slice none 0 0, .slice none 0 0, mb, 0, .map []⟩, ⟨nq_ok h.ok, hb, h.keep.fr hf (fun ad e h0 h1 => h.kap ad e h0 (.inl h1)), fun ad e h0 h1 => ?_, h.kept.fr hf hk, OwnI.nil _, Own8.nil _ _, hm, Nat.le_refl _, NewD.nil, by simp [Value.ownBlock]⟩, fun k hk => ?_, rfl, hf⟩
  · rcases h1 with h1 | h1 | h1 | h1 | h1
    · exact h.kap ad e h0 (.inl h1)
    · exact h.kap ad e h0 (.inr (.inl h1))
    · simp [Value.ownBlock] at h1
    · simp [Value.ownBlock] at h1
    · have : ad.block < w.heap.size := RdB.lt (w := w) (e ▸ h.keep) h0
      have h1 : ad.block = mb := h1
      omega
  · rcases hk with h1 | h1 | h1 | h1 | h1
    · exact .inl (.inl h1)
    · exact .inl (.inr (.inl h1))
    · simp [Value.ownBlock] at h1
    · simp [Value.ownBlock] at h1
    · have h1 : k = mb := h1
      exact .inr (by omega)

theorem turnOffM {g : Nat} {s : DS} {m : ML} {w : World} (h : DskM w g s m) :
    Calls Try.prog 39 #[.pointer (some ⟨g, 0, none⟩)] w fun e w' => e = .returned (.tuple #[]) ∧ DskM w' g { s with off := true, left := 0, keep := [] } { m with A := none, c := 0 } ∧ Fr (fun k => k = g) w w' := by
  refine (turnOff_any g _ _ _ _ _ _ _ _ _ _ _ w h.blk).mono ?_
  rintro e w1 ⟨rfl, hb, hf⟩
  exact ⟨rfl, ⟨off_ok h.ok, hb, RdB.nil _ _, (fun ad e => by cases e), h.kept.fr hf h.kg, h.secs.fr hf (fun k hk e => h.sg (by rw [hk, e])), h.bytes.fr hf (fun k hk e => h.bg (by rw [hk, e])), h.map.fr hf h.mg, h.mn, h.newD, h.kne⟩, hf⟩

set_option maxRecDepth 100000 in
set_option maxHeartbeats 4000000 in
theorem cutM {g : Nat} {s : DS} {m : ML} {w : World} (h : DskM w g s m) (hq : s.q.length ≤ 1048576) (A : Option Addr) (n c : Nat) (xs : List Bool) (hr : RdB w A xs) (hn : xs.length = n) (hb : n ≤ 140737488355328) (hap : ∀ ad, A = some ad → 0 < xs.length → ¬ WS g m ad.block) :
    Calls Try.prog 19 #[.pointer (some ⟨g, 0, none⟩), .slice A n c] w fun e w' => e = .returned (.tuple #[]) ∧ ∃ m', DskM w' g (s.cut xs) m' ∧ (∀ k, WS g m' k → WS g m k ∨ w.heap.size ≤ k) ∧ m'.A = none ∧ Fr (WS g m) w w' := by
  have C1 := Lib.hid (turnOffM h)
  have HR := Lib.hid hr
  have HAP := Lib.hid hap
  have HN := Lib.hid hn
  clear h hr hap hn
  have hkm := keepN_min s.sz s.q xs s.kept
  rw [HN.out] at hkm
  obtain ⟨k, hk⟩ : ∃ k, min s.q.length n = k := ⟨_, rfl⟩
  have hkq : k ≤ s.q.length := by omega
  have hkn : k ≤ n := by omega
  rw [hk] at hkm
  have HKM := Lib.hid hkm
  clear hkm
  by_cases hlt : n < s.q.length
  all_goals
    first
      | (have hk1 : k ≤ n := by omega
         have hk2 : n ≤ k := by omega)
      | (have hk1 : k ≤ s.q.length := by omega
         have hk2 : s.q.length ≤ k := by omega)
    clear hk
    go_enter Try.func19, Try.ntmps19
    go_wp2_with fail
    refine C1.out.mono ?_; rintro e w1 ⟨rfl, h1, hf1⟩
    obtain ⟨sA, sc, hsV⟩ := h1.secs.slice
    rw [secs_len] at hsV
    simp only at hsV
    have c7 : w1.cell? ⟨g, 7, none⟩ = some (.slice sA s.q.length sc) := by rw [← hsV]; exact h1.blk.cell 7
    have C2 := Lib.hid (count_any g s.q.length sc sA w1 c7)
    have H1 := Lib.hid h1
    have HF1 := Lib.hid hf1
    clear C1 h1 hf1 hsV c7
    go_wp2_with fail
    refine C2.out.mono ?_; rintro e w2 ⟨rfl, rfl⟩
    clear C2
    go_wp2_with fail
    have hap1 : ∀ ad, A = some ad → 0 < xs.length → ¬ WS g { m with A := none, c := 0 } ad.block := HAP.out
    have HAP1 := Lib.hid hap1
    have hr1 := HR.out.fr HF1.out (fun ad e h0 h => HAP.out ad e h0 (.inl h))
    have HR1 := Lib.hid hr1
    clear hap1 hr1
    go_loopw [16] (fun i wr => ∃ j : Nat, j ≤ k ∧ i = .int .i64 j ∧ DskM wr g { s with off := true, left := 0, keep := [], kept := keepN s.sz s.q (kOf xs) s.kept j } { m with A := none, c := 0 } ∧ Fr (fun x => x = m.kb) w1 wr) (fun i _ => k - (intOf i).toNat)
    case atStart => exact ⟨0, Nat.zero_le _, rfl, H1.out, Fr.refl _ _⟩
    case round =>
      obtain ⟨j, hj, rfl, hd, hf⟩ := hrel
      have HD := Lib.hid hd
      have HF := Lib.hid hf
      clear hd hf
      by_cases hjk : j < k
      · have hjx : j < xs.length := by rw [HN.out]; omega
        obtain ⟨ad, hA, hsp, hcell⟩ := (HR1.out.fr HF.out (fun ad e h0 h => HAP.out ad e h0 (.inr (.inl h)))) (by omega)
        subst hA
        have hcj := hcell j hjx
        clear hcell
        have hko : kOf xs j = xs[j] := by unfold kOf; simp [List.getD, hjx]
        obtain ⟨ab, ao, asp⟩ := ad
        simp only at hsp hcj
        subst hsp
        obtain ⟨b, hb⟩ : ∃ b, xs[j] = b := ⟨_, rfl⟩
        rw [hb] at hcj hko
        cases b with
        | false =>
          have HKO := Lib.hid hko
          clear hb hko
          go_wp2
          go_roundw
          case rel =>
            refine ⟨j + 1, by omega, by go_num, ?_, HF.out⟩
            rw [keepN_no HKO.out]
            exact HD.out
          case measure => simp [intOf]; omega
        | true =>
          have HKO := Lib.hid hko
          clear hb hko
          have C3 := Lib.hid (keepWrite_any HD.out hq j (by show j < s.q.length; omega))
          go_wp2_with fail
          refine C3.out.mono ?_; rintro e w3 ⟨rfl, h3, hf3⟩
          have H3 := Lib.hid h3
          have HF3 := Lib.hid (HF.out.trans hf3 (fun _ _ h => h))
          clear C3 h3 hf3 HF HD
          go_wp2
          go_roundw
          case rel =>
            refine ⟨j + 1, by omega, by go_num, ?_, HF3.out⟩
            rw [keepN_yes HKO.out]
            exact H3.out
          case measure => simp [intOf]; omega
      · obtain rfl : j = k := by omega
        rw [HKM.out] at HD
        have C3 := Lib.hid (emptyM HD.out)
        go_wp2_with fail
        refine C3.out.mono ?_; rintro e w3 ⟨rfl, m3, h3, hw3, hA3, hf3⟩
        have H3 := Lib.hid h3
        have HF3 := Lib.hid hf3
        have HW3 := Lib.hid hw3
        have HA3 := Lib.hid hA3
        clear C3 h3 hf3 hw3 hA3
        go_wp2
        go_end0
        refine ⟨rfl, m3, H3.out, fun x hx => ?_, HA3.out, ?_⟩
        · rcases HW3.out x hx with h | h
          · exact .inl h
          · have h4 := HF1.out.size
            have h5 := HF.out.size
            exact .inr (by omega)
        · exact ((HF1.out.mono (fun x _ h => .inl h)).trans HF.out (fun x _ h => .inr (.inl h))).trans HF3.out (fun x _ h => .inl h)
end Go.Proofs.Ytnkkdpmmnenncaa
