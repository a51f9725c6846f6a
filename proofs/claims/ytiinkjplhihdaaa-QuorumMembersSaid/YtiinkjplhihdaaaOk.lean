/- enter: nodes get a role, as far as they have none. -/
import Derived.Test.YtiinkjplhihdaaaOj
namespace Go.Proofs.Ytiinkjplhihdaaa
open Go.RowKit

set_option maxRecDepth 100000 in
set_option maxHeartbeats 4000000 in
theorem enter_any (b : Nat) (m : Nat → Int) (A : Option Addr) (N c : Nat) (t : Nat → Int) (r : Int) (w : World) (hk : Bk w b 23 (mcs m)) (hrd : RdF w A N (fun j => .int .i64 (t j))) (hA : ∀ g o, A = some ⟨g, o, none⟩ → 0 < N → g ≠ b) (hN : N ≤ 1000000) :
    Calls Try.prog 33 #[.pointer (some ⟨b, 0, none⟩), .slice A N c, .int .u8 r] w fun e w' => Fr (fun k => k = b) w w' ∧
      ((∃ q, entL r m (upT t N) = some q ∧ e = .returned (.bool true) ∧ Bk w' b 23 (mcs q)) ∨ (entL r m (upT t N) = none ∧ e = .returned (.bool false) ∧ ∃ q, Bk w' b 23 (mcs q))) := by
  have CN := Lib.hid isNode_any
  go_enter Try.func33, Try.ntmps33
  go_wp2_with fail
  go_loopw [11] (fun i wr => ∃ (k : Nat) (q : Nat → Int), i = .int .i64 (k : Int) ∧ k ≤ N ∧ entL r m (upT t k) = some q ∧ Bk wr b 23 (mcs q) ∧ Fr (fun k => k = b) w wr) (fun i _ => N - (intOf i).toNat)
  case atStart => exact ⟨0, m, rfl, Nat.zero_le _, rfl, hk, Fr.refl _ _⟩
  case round =>
    obtain ⟨k, q, rfl, hkN, hq, hb, hf⟩ := hrel
    by_cases hlt : k < N
    · have hltI : (k : Int) < N := by omega
      obtain ⟨g, o, rfl, hc⟩ := (hrd.fr hf (fun g o e e2 => hA g o e (by omega) e2)) (by omega)
      have hck := hc k hlt
      dsimp only at hck
      have HT : Hid (entL r m (upT t (k + 1)) = ent1 r q (t k)) := Lib.hid (by rw [upT_succ, entL_snoc, hq]; rfl)
      have HNo : Hid (entL r m (upT t (k + 1)) = none → entL r m (upT t N) = none) := Lib.hid (fun h => entL_none' h (by omega))
      have HB := Lib.hid hb
      have HF := Lib.hid hf
      clear hc hq hf hk
      unfold ent1 at HT
      generalize t k = x at *
      have C1 := Lib.hid (CN.out x wr)
      by_cases h9 : 0 ≤ x ∧ x < 9
      · rw [decide_eq_true h9] at C1
        obtain ⟨j, rfl⟩ := Int.eq_ofNat_of_zero_le h9.1
        have hj : j < 9 := by omega
        have hcj : wr.cell? ⟨b, j, none⟩ = some (.int .u8 (q j)) := (hb.cell j).trans (mcs_at q j hj)
        have hfj := hb.frozen j
        clear hb h9
        by_cases h0 : q j = 0
        · have HT2 : Hid (entL r m (upT t (k + 1)) = some (putM q j r)) := Lib.hid (by rw [HT.out, if_pos (by refine ⟨by omega, by omega, ?_⟩; simpa using h0)]; simp)
          rw [h0] at hcj
          have HP := Lib.hid (HB.out.put hj r)
          have HF2 := Lib.hid (HF.out.setCell (p := ⟨b, j, none⟩) (fun _ => rfl) (.int .u8 r))
          clear h0 HT
          go_wp2_with fail
          refine C1.out.mono ?_; rintro e w2 ⟨rfl, rfl⟩
          go_wp2
          refine ⟨⟨k + 1, _, by simp, by omega, HT2.out, HP.out, HF2.out⟩, ?_⟩
          first | omega | (show _ < _; simp [intOf]; omega)
        · have HT2 : Hid (entL r m (upT t N) = none) := Lib.hid (HNo.out (by rw [HT.out, if_neg (by rintro ⟨_, _, h⟩; exact h0 (by simpa using h))]))
          have hd : (q j == 0) = false := by simp [h0]
          clear h0 HT
          go_wp2_with fail
          refine C1.out.mono ?_; rintro e w2 ⟨rfl, rfl⟩
          go_wp2
          go_ret
          exact ⟨HF.out, .inr ⟨HT2.out, rfl, q, HB.out⟩⟩
      · rw [decide_eq_false h9] at C1
        have HT2 : Hid (entL r m (upT t N) = none) := Lib.hid (HNo.out (by rw [HT.out, if_neg (fun h => h9 ⟨h.1, h.2.1⟩)]))
        clear h9 HT
        go_wp2_with fail
        refine C1.out.mono ?_; rintro e w2 ⟨rfl, rfl⟩
        go_wp2
        go_ret
        exact ⟨HF.out, .inr ⟨HT2.out, rfl, q, HB.out⟩⟩
    · obtain rfl : k = N := by omega
      have HQ := Lib.hid hq
      clear hq
      go_wp2
      go_ret
      exact ⟨hf, .inl ⟨q, HQ.out, rfl, hb⟩⟩
end Go.Proofs.Ytiinkjplhihdaaa
