/- Of. -/
import Derived.Test.YtiinkjplhihdaaaOl
namespace Go.Proofs.Ytiinkjplhihdaaa
open Go.RowKit

set_option maxRecDepth 100000 in
set_option maxHeartbeats 4000000 in
theorem of_any (A : Option Addr) (N c : Nat) (t : Nat → Int) (A2 : Option Addr) (N2 c2 : Nat) (t2 : Nat → Int) (w : World) (h1 : RdF w A N (fun j => .int .i64 (t j))) (h2 : RdF w A2 N2 (fun j => .int .i64 (t2 j))) (hN : N ≤ 1000000) (hN2 : N2 ≤ 1000000) :
    Calls Try.prog 25 #[.slice A N c, .slice A2 N2 c2] w fun e w' => e = .returned (.tuple #[mv (ofQ N t N2 t2).1, .int .i64 (ofQ N t N2 t2).2]) ∧ Fr (fun _ => False) w w' := by
  obtain ⟨w1, hw1⟩ : ∃ w1, (w.alloc (.cells (mcs zeroM) 23)).alloc (.cells (mcs zeroM) 23) = w1 := ⟨_, rfl⟩
  have hf1 : Fr (fun _ => False) w w1 := by rw [← hw1]; exact ((Fr.refl _ _).alloc _).alloc _
  have hs1 : w1.heap.size = w.heap.size + 1 + 1 := by rw [← hw1]; simp
  have hk0 : Bk w1 w.heap.size 23 (mcs zeroM) := by rw [← hw1]; exact (Bk.new w _ _).alloc _
  have hk1 : Bk w1 (w.heap.size + 1) 23 (mcs zeroM) := by rw [← hw1]; have := Bk.new (w.alloc (.cells (mcs zeroM) 23)) 23 (mcs zeroM); simpa using this
  have C1 := Lib.hid (enter_any (w.heap.size + 1) zeroM A N c t 1 w1 hk1 (h1.fr0 hf1) (fun g o e h0 => by have := h1.lt h0 e; omega) hN)
  have CE := Lib.hid (fun q w2 (hk : Bk w2 (w.heap.size + 1) 23 (mcs q)) (hf : Fr (fun k => k = w.heap.size + 1) w1 w2) =>
    enter_any (w.heap.size + 1) q A2 N2 c2 t2 2 w2 hk (h2.since ((hf1.mono (fun _ _ h => h.elim)).trans hf (fun _ _ h => h)) (fun k hk e => by omega)) (fun g o e h0 => by have := h2.lt h0 e; omega) hN2)
  have CR := Lib.hid right_any
  have HK0 := Lib.hid hk0
  have HF1 := Lib.hid hf1
  rw [mcs_zero] at hw1
  clear hk0 hk1 h1 h2 hf1
  go_enter Try.func25, Try.ntmps25
  go_wp2_with fail
  refine C1.out.mono ?_
  rintro e w2 ⟨hf2, ⟨q, hq, rfl, hb2⟩ | ⟨hq, rfl, q, hb2⟩⟩
  · have C2 := Lib.hid (CE.out q w2 hb2 hf2)
    go_wp2_with fail
    refine C2.out.mono ?_
    rintro e w3 ⟨hf3, ⟨q2, hq2, rfl, hb3⟩ | ⟨hq2, rfl, q2, hb3⟩⟩
    · have hM : ofM N t N2 t2 = some q2 := by unfold ofM; rw [hq]; exact hq2
      obtain ⟨hm, hok, hp⟩ := ofM_is hM
      have C3 := Lib.hid (CR.out q2 hm w3)
      have hb0 : ∀ k, k < 9 → w3.cell? ⟨w.heap.size + 1, k, none⟩ = some (.int .u8 (q2 k)) := fun k hk => (hb3.cell k).trans (mcs_at q2 k hk)
      unfold mv at C3
      by_cases h0 : 0 < N
      · rw [rightB_yes ⟨hok, hp.2 h0⟩] at C3
        go_wp2_with fail
        refine C3.out.mono ?_; rintro e w4 ⟨rfl, hf4⟩
        have hF4 : Fr (fun k => k = w.heap.size + 1) w1 w4 := (hf2.trans hf3 (fun _ _ h => h)).trans hf4 (fun _ _ h => h.elim)
        have hb4 := hb3.fr hf4 (fun h => h)
        have hb40 : ∀ k, k < 9 → w4.cell? ⟨w.heap.size + 1, k, none⟩ = some (.int .u8 (q2 k)) := fun k hk => (hb4.cell k).trans (mcs_at q2 k hk)
        have hz := HK0.out.fr hF4 (by omega)
        have hc : ∀ k, k < 9 → w4.cell? ⟨w.heap.size, k, none⟩ = some (.int .u8 0) := fun k hk => (hz.cell k).trans (mcs_at zeroM k hk)
        have hfz : ∀ k, w4.frozen? ⟨w.heap.size, k, none⟩ = false := fun k => hz.frozen k
        have HF := Lib.hid (HF1.out.trans hF4 (fun k hk e => by omega))
        have HZ := Lib.hid hz
        have HE : Hid (ofQ N t N2 t2 = (q2, 0)) := Lib.hid (by unfold ofQ; rw [hM]; simp [h0])
        clear hz
        go_wp2
        refine bodyPost_ret (res23 rfl _ _ _ q2 rfl (Bx.of (HZ.out.set9 q2))) rfl ⟨?_, HF.out.set9 (fun h => absurd h (Nat.lt_irrefl _)) q2⟩
        rw [HE.out]; rfl
      · rw [rightB_no (fun h => h0 (hp.1 h.2))] at C3
        go_wp2_with fail
        refine C3.out.mono ?_; rintro e w4 ⟨rfl, hf4⟩
        have hF4 : Fr (fun k => k = w.heap.size + 1) w1 w4 := (hf2.trans hf3 (fun _ _ h => h)).trans hf4 (fun _ _ h => h.elim)
        have hz := HK0.out.fr hF4 (by omega)
        have hc : ∀ k, k < 9 → w4.cell? ⟨w.heap.size, k, none⟩ = some (.int .u8 0) := fun k hk => (hz.cell k).trans (mcs_at zeroM k hk)
        have hfz : ∀ k, w4.frozen? ⟨w.heap.size, k, none⟩ = false := fun k => hz.frozen k
        have HF := Lib.hid (HF1.out.trans hF4 (fun k hk e => by omega))
        have HZ := Lib.hid hz
        have HE : Hid (ofQ N t N2 t2 = (zeroM, 1)) := Lib.hid (by unfold ofQ; rw [hM]; simp [h0])
        clear hz
        go_wp2
        refine bodyPost_ret (res23 rfl _ _ _ zeroM rfl (Bx.of (HZ.out.set9 zeroM))) rfl ⟨?_, HF.out.set9 (fun h => absurd h (Nat.lt_irrefl _)) zeroM⟩
        rw [HE.out]; rfl
    · have hF3 : Fr (fun k => k = w.heap.size + 1) w1 w3 := hf2.trans hf3 (fun _ _ h => h)
      have hz := HK0.out.fr hF3 (by omega)
      have hc : ∀ k, k < 9 → w3.cell? ⟨w.heap.size, k, none⟩ = some (.int .u8 0) := fun k hk => (hz.cell k).trans (mcs_at zeroM k hk)
      have hfz : ∀ k, w3.frozen? ⟨w.heap.size, k, none⟩ = false := fun k => hz.frozen k
      have HF := Lib.hid (HF1.out.trans hF3 (fun k hk e => by omega))
      have HZ := Lib.hid hz
      have HE : Hid (ofQ N t N2 t2 = (zeroM, 1)) := Lib.hid (by unfold ofQ ofM; rw [hq]; simp [hq2])
      clear hz
      go_wp2
      refine bodyPost_ret (res23 rfl _ _ _ zeroM rfl (Bx.of (HZ.out.set9 zeroM))) rfl ⟨?_, HF.out.set9 (fun h => absurd h (Nat.lt_irrefl _)) zeroM⟩
      rw [HE.out]; rfl
  · have hF2 : Fr (fun k => k = w.heap.size + 1) w1 w2 := hf2
    have hz := HK0.out.fr hF2 (by omega)
    have hc : ∀ k, k < 9 → w2.cell? ⟨w.heap.size, k, none⟩ = some (.int .u8 0) := fun k hk => (hz.cell k).trans (mcs_at zeroM k hk)
    have hfz : ∀ k, w2.frozen? ⟨w.heap.size, k, none⟩ = false := fun k => hz.frozen k
    have HF := Lib.hid (HF1.out.trans hF2 (fun k hk e => by omega))
    have HZ := Lib.hid hz
    have HE : Hid (ofQ N t N2 t2 = (zeroM, 1)) := Lib.hid (by unfold ofQ ofM; rw [hq]; rfl)
    clear hz
    go_wp2
    refine bodyPost_ret (res23 rfl _ _ _ zeroM rfl (Bx.of (HZ.out.set9 zeroM))) rfl ⟨?_, HF.out.set9 (fun h => absurd h (Nat.lt_irrefl _)) zeroM⟩
    rw [HE.out]; rfl
end Go.Proofs.Ytiinkjplhihdaaa
