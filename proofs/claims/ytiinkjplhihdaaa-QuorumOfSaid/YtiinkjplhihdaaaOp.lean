/- The reference's Of, walked. -/
import Derived.Test.YtiinkjplhihdaaaOo
namespace Go.Proofs.Ytiinkjplhihdaaa
open Go.RowKit

theorem ofQ_none {N N2 : Nat} {t t2 : Nat → Int} (h : ofM N t N2 t2 = none) : ofQ N t N2 t2 = (zeroM, 1) := by unfold ofQ; rw [h]
theorem ofQ_zero {N N2 : Nat} {t t2 : Nat → Int} (h : ¬ 0 < N) : ofQ N t N2 t2 = (zeroM, 1) := by
  unfold ofQ
  split
  · rw [if_neg h]
  · rfl
theorem ofQ_some {N N2 : Nat} {t t2 : Nat → Int} {q : Nat → Int} (h : ofM N t N2 t2 = some q) (h0 : 0 < N) : ofQ N t N2 t2 = (q, 0) := by unfold ofQ; rw [h]; simp [h0]

set_option maxRecDepth 100000 in
set_option maxHeartbeats 4000000 in
theorem rOf_any (A : Option Addr) (N c : Nat) (t : Nat → Int) (A2 : Option Addr) (N2 c2 : Nat) (t2 : Nat → Int) (w : World) (h1 : RdF w A N (fun j => .int .i64 (t j))) (h2 : RdF w A2 N2 (fun j => .int .i64 (t2 j))) (hN : N ≤ 1000000) (hN2 : N2 ≤ 1000000) :
    Calls Try.prog 26 #[.slice A N c, .slice A2 N2 c2] w fun e w' => e = .returned (.tuple #[mv (ofQ N t N2 t2).1, .int .i64 (ofQ N t N2 t2).2]) ∧ Fr (fun _ => False) w w' := by
  obtain ⟨w1, hw1⟩ : ∃ w1, (w.alloc (.cells (mcs zeroM) 22)).alloc (.cells (mcs zeroM) 22) = w1 := ⟨_, rfl⟩
  have hf1 : Fr (fun _ => False) w w1 := by rw [← hw1]; exact ((Fr.refl _ _).alloc _).alloc _
  have hs1 : w1.heap.size = w.heap.size + 1 + 1 := by rw [← hw1]; simp
  have hk0 : Bk w1 w.heap.size 22 (mcs zeroM) := by rw [← hw1]; exact (Bk.new w _ _).alloc _
  have hk1 : Bk w1 (w.heap.size + 1) 22 (mcs zeroM) := by rw [← hw1]; have := Bk.new (w.alloc (.cells (mcs zeroM) 22)) 22 (mcs zeroM); simpa using this
  have HK0 := Lib.hid hk0
  have HF1 := Lib.hid hf1
  have hsum : wrap64 ((N : Int) + (N2 : Int)) = (N : Int) + (N2 : Int) := by unfold wrap64; omega
  rw [mcs_zero] at hw1
  clear hk0 hf1
  go_enter Try.func26, Try.ntmps26
  go_wp2_with fail
  clear hw1
  go_loopw [7] (fun i wr => ∃ (k : Nat) (q : Nat → Int), i = .int .i64 (k : Int) ∧ k ≤ N + N2 ∧ stO N t t2 k = some q ∧ Bk wr (w.heap.size + 1) 22 (mcs q) ∧ Fr (fun k => k = w.heap.size + 1) w1 wr) (fun i _ => N + N2 - (intOf i).toNat)
  case atStart => exact ⟨0, zeroM, rfl, Nat.zero_le _, stO_zero _ _ _, hk1, Fr.refl _ _⟩
  case round =>
    obtain ⟨k, q, rfl, hkN, hq, hb, hf⟩ := hrel
    have HB := Lib.hid hb
    have HF := Lib.hid hf
    have HRF : Hid (Fr (fun _ => False) w wr) := Lib.hid (HF1.out.trans hf (fun k hk e => by omega))
    have hz := HK0.out.fr hf (by omega)
    have HZ := Lib.hid hz
    have hcz : ∀ k, k < 9 → wr.cell? ⟨w.heap.size, k, none⟩ = some (.int .u8 0) := fun k hk => (hz.cell k).trans (mcs_at zeroM k hk)
    have hfz : ∀ k, wr.frozen? ⟨w.heap.size, k, none⟩ = false := fun k => hz.frozen k
    clear hz hk1
    by_cases hlt : k < N + N2
    · have hltI : (k : Int) < (N : Int) + (N2 : Int) := by omega
      by_cases hkn : k < N
      · have hknI : (k : Int) < N := by omega
        obtain ⟨g, o, rfl, hc⟩ := (h1.since ((HF1.out.mono (fun _ _ h => h.elim)).trans hf (fun _ _ h => h)) (fun k hk e => by omega)) (by omega)
        have hck := hc k hkn
        dsimp only at hck
        have HT : Hid (stO N t t2 (k + 1) = ent1 1 q (t k)) := Lib.hid (by rw [stO_one hkn, hq]; rfl)
        have HNo : Hid (stO N t t2 (k + 1) = none → ofQ N t N2 t2 = (zeroM, 1)) := Lib.hid (fun h => ofQ_none ((stO_all N N2 t t2).symm.trans (stO_none' h (by omega))))
        clear hc hq hf
        unfold ent1 at HT
        generalize t k = x at *
        by_cases h9 : 0 ≤ x ∧ x < 9
        · obtain ⟨j, rfl⟩ := Int.eq_ofNat_of_zero_le h9.1
          have hj : j < 9 := by omega
          have hj8 : decide ((8 : Int) < (j : Int)) = false := decide_eq_false (by omega)
          have hj8n : decide (8 < j) = false := decide_eq_false (by omega)
          have hcj : wr.cell? ⟨w.heap.size + 1, j, none⟩ = some (.int .u8 (q j)) := (hb.cell j).trans (mcs_at q j hj)
          have hfj := hb.frozen j
          clear hb h9
          by_cases h0 : q j = 0
          · have HT2 : Hid (stO N t t2 (k + 1) = some (putM q j 1)) := Lib.hid (by rw [HT.out, if_pos (by refine ⟨by omega, by omega, ?_⟩; simpa using h0)]; simp)
            rw [h0] at hcj
            have HP := Lib.hid (HB.out.put hj 1)
            have HF2 := Lib.hid (HF.out.setCell (p := ⟨w.heap.size + 1, j, none⟩) (fun _ => rfl) (.int .u8 1))
            clear h0 HT hcz hfz
            go_wp2
            refine ⟨⟨k + 1, _, by simp, by omega, HT2.out, HP.out, HF2.out⟩, ?_⟩
            first | omega | (show _ < _; simp [intOf]; omega)
          · have HE := Lib.hid (HNo.out (by rw [HT.out, if_neg (by rintro ⟨_, _, h⟩; exact h0 (by simpa using h))]))
            have hd : (q j == 0) = false := by simp [h0]
            have hd' : (q j != 0) = true := by simp [h0]
            clear h0 HT
            go_wp2
            refine bodyPost_ret (res22 rfl _ _ _ zeroM rfl (Bx.of (HZ.out.set9 zeroM))) rfl ⟨?_, HRF.out.set9 (fun h => absurd h (Nat.lt_irrefl _)) zeroM⟩
            rw [HE.out]; rfl
        · have HE := Lib.hid (HNo.out (by rw [HT.out, if_neg (fun h => h9 ⟨h.1, h.2.1⟩)]))
          clear HT hb
          by_cases hx0 : x < 0
          · have hd : decide (x < 0) = true := decide_eq_true hx0
            clear h9
            go_wp2
            refine bodyPost_ret (res22 rfl _ _ _ zeroM rfl (Bx.of (HZ.out.set9 zeroM))) rfl ⟨?_, HRF.out.set9 (fun h => absurd h (Nat.lt_irrefl _)) zeroM⟩
            rw [HE.out]; rfl
          · have hd : decide (x < 0) = false := decide_eq_false hx0
            have hd8 : decide (8 < x) = true := decide_eq_true (by omega)
            clear h9 hx0
            go_wp2
            refine bodyPost_ret (res22 rfl _ _ _ zeroM rfl (Bx.of (HZ.out.set9 zeroM))) rfl ⟨?_, HRF.out.set9 (fun h => absurd h (Nat.lt_irrefl _)) zeroM⟩
            rw [HE.out]; rfl
      · have hknI : decide ((k : Int) < (N : Int)) = false := decide_eq_false (by omega)
        have hknN : decide (k < N) = false := decide_eq_false hkn
        obtain ⟨d, rfl⟩ : ∃ d, k = N + d := ⟨k - N, by omega⟩
        have hsub : wrap64 (((N + d : Nat) : Int) - (N : Int)) = (d : Int) := by unfold wrap64; omega
        have hsub2 : wrap64 ((N : Int) + (d : Int) - (N : Int)) = (d : Int) := by unfold wrap64; omega
        have hdI : (d : Int) < N2 := by omega
        obtain ⟨g, o, rfl, hc⟩ := (h2.since ((HF1.out.mono (fun _ _ h => h.elim)).trans hf (fun _ _ h => h)) (fun k hk e => by omega)) (by omega)
        have hck := hc d (by omega)
        dsimp only at hck
        have HT : Hid (stO N t t2 (N + d + 1) = ent1 2 q (t2 d)) := Lib.hid (by rw [stO_two hkn, hq, show N + d - N = d by omega]; rfl)
        have HNo : Hid (stO N t t2 (N + d + 1) = none → ofQ N t N2 t2 = (zeroM, 1)) := Lib.hid (fun h => ofQ_none ((stO_all N N2 t t2).symm.trans (stO_none' h (by omega))))
        clear hc hq hf
        unfold ent1 at HT
        generalize t2 d = x at *
        by_cases h9 : 0 ≤ x ∧ x < 9
        · obtain ⟨j, rfl⟩ := Int.eq_ofNat_of_zero_le h9.1
          have hj : j < 9 := by omega
          have hj8 : decide ((8 : Int) < (j : Int)) = false := decide_eq_false (by omega)
          have hj8n : decide (8 < j) = false := decide_eq_false (by omega)
          have hcj : wr.cell? ⟨w.heap.size + 1, j, none⟩ = some (.int .u8 (q j)) := (hb.cell j).trans (mcs_at q j hj)
          have hfj := hb.frozen j
          clear hb h9
          by_cases h0 : q j = 0
          · have HT2 : Hid (stO N t t2 (N + d + 1) = some (putM q j 2)) := Lib.hid (by rw [HT.out, if_pos (by refine ⟨by omega, by omega, ?_⟩; simpa using h0)]; simp)
            rw [h0] at hcj
            have HP := Lib.hid (HB.out.put hj 2)
            have HF2 := Lib.hid (HF.out.setCell (p := ⟨w.heap.size + 1, j, none⟩) (fun _ => rfl) (.int .u8 2))
            clear h0 HT hcz hfz
            go_wp2
            refine ⟨⟨N + d + 1, _, by simp, by omega, HT2.out, HP.out, HF2.out⟩, ?_⟩
            first | omega | (show _ < _; simp [intOf]; omega)
          · have HE := Lib.hid (HNo.out (by rw [HT.out, if_neg (by rintro ⟨_, _, h⟩; exact h0 (by simpa using h))]))
            have hd : (q j == 0) = false := by simp [h0]
            have hd' : (q j != 0) = true := by simp [h0]
            clear h0 HT
            go_wp2
            refine bodyPost_ret (res22 rfl _ _ _ zeroM rfl (Bx.of (HZ.out.set9 zeroM))) rfl ⟨?_, HRF.out.set9 (fun h => absurd h (Nat.lt_irrefl _)) zeroM⟩
            rw [HE.out]; rfl
        · have HE := Lib.hid (HNo.out (by rw [HT.out, if_neg (fun h => h9 ⟨h.1, h.2.1⟩)]))
          clear HT hb
          by_cases hx0 : x < 0
          · have hd : decide (x < 0) = true := decide_eq_true hx0
            clear h9
            go_wp2
            refine bodyPost_ret (res22 rfl _ _ _ zeroM rfl (Bx.of (HZ.out.set9 zeroM))) rfl ⟨?_, HRF.out.set9 (fun h => absurd h (Nat.lt_irrefl _)) zeroM⟩
            rw [HE.out]; rfl
          · have hd : decide (x < 0) = false := decide_eq_false hx0
            have hd8 : decide (8 < x) = true := decide_eq_true (by omega)
            clear h9 hx0
            go_wp2
            refine bodyPost_ret (res22 rfl _ _ _ zeroM rfl (Bx.of (HZ.out.set9 zeroM))) rfl ⟨?_, HRF.out.set9 (fun h => absurd h (Nat.lt_irrefl _)) zeroM⟩
            rw [HE.out]; rfl
    · obtain rfl : k = N + N2 := by omega
      rw [stO_all] at hq
      have hb0 : ∀ k, k < 9 → wr.cell? ⟨w.heap.size + 1, k, none⟩ = some (.int .u8 (q k)) := fun k hk => (hb.cell k).trans (mcs_at q k hk)
      have hend : decide ((N : Int) + (N2 : Int) < (N : Int) + (N2 : Int)) = false := decide_eq_false (by omega)
      by_cases h0 : 0 < N
      · have HE := Lib.hid (ofQ_some hq h0)
        have hn0 : ((N : Int) == 0) = false := by simp; omega
        have hn0' : (N == 0) = false := by simp; omega
        clear hq hb hf h0
        go_wp2
        refine bodyPost_ret (res22 rfl _ _ _ q rfl (Bx.of (HZ.out.set9 q))) rfl ⟨?_, HRF.out.set9 (fun h => absurd h (Nat.lt_irrefl _)) q⟩
        rw [HE.out]; rfl
      · have HE : Hid (ofQ N t N2 t2 = (zeroM, 1)) := Lib.hid (ofQ_zero h0)
        obtain rfl : N = 0 := by omega
        clear hq hb hf h0 hb0
        go_wp2
        refine bodyPost_ret (res22 rfl _ _ _ zeroM rfl (Bx.of (HZ.out.set9 zeroM))) rfl ⟨?_, HRF.out.set9 (fun h => absurd h (Nat.lt_irrefl _)) zeroM⟩
        rw [HE.out]; rfl
end Go.Proofs.Ytiinkjplhihdaaa
