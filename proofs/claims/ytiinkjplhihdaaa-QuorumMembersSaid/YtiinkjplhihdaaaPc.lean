/- Decode, both. -/
import Derived.Test.YtiinkjplhihdaaaOl
import Derived.Test.YtiinkjplhihdaaaOe
namespace Go.Proofs.Ytiinkjplhihdaaa
open Go.RowKit

theorem run_arrayAt (w : World) (b o n c : Nat) (h : 9 ≤ n) : (Instr.arrayAt 23 (.slice (some ⟨b, o, none⟩) n c)).run Try.prog w = .ok (.pointer (some ⟨b, o, none⟩)) w := by
  simp [Instr.arrayAt, run_underlying Try.underlying23, show ¬ n < 9 by omega]

open Classical in
noncomputable def decQ (N : Nat) (x : Nat → Int) : (Nat → Int) × Int := if N = 9 ∧ rightP x then (x, 0) else (zeroM, 8)
theorem decQ_yes {N : Nat} {x : Nat → Int} (h : N = 9) (hr : rightP x) : decQ N x = (x, 0) := by unfold decQ; rw [if_pos ⟨h, hr⟩]
theorem decQ_no {N : Nat} {x : Nat → Int} (h : ¬ (N = 9 ∧ rightP x)) : decQ N x = (zeroM, 8) := by unfold decQ; rw [if_neg h]

set_option maxRecDepth 100000 in
set_option maxHeartbeats 8000000 in
theorem decode_any (A : Option Addr) (N c : Nat) (x : Nat → Int) (w : World) (hx : ∀ k, 0 ≤ x k ∧ x k < 256) (hrd : RdF w A N (fun j => .int .u8 (x j))) :
    Calls Try.prog 9 #[.slice A N c] w fun e w' => e = .returned (.tuple #[mv (decQ N x).1, .int .i64 (decQ N x).2]) ∧ Fr (fun _ => False) w w' := by
  obtain ⟨w1, hw1⟩ : ∃ w1, w.alloc (.cells (mcs zeroM) 23) = w1 := ⟨_, rfl⟩
  have HF1 : Hid (Fr (fun _ => False) w w1) := Lib.hid (by rw [← hw1]; exact (Fr.refl _ _).alloc _)
  have HZ1 : Hid (Bk w1 w.heap.size 23 (mcs zeroM)) := Lib.hid (by rw [← hw1]; exact Bk.new w _ _)
  have hcz : ∀ k, k < 9 → w1.cell? ⟨w.heap.size, k, none⟩ = some (.int .u8 0) := fun k hk => (HZ1.out.cell k).trans (mcs_at zeroM k hk)
  have hfz : ∀ k, w1.frozen? ⟨w.heap.size, k, none⟩ = false := fun k => HZ1.out.frozen k
  have CR := Lib.hid (right_any x hx w1)
  have HRD := Lib.hid (hrd.fr0 HF1.out)
  rw [mcs_zero] at hw1
  unfold mv at CR
  clear hrd
  go_enter Try.func9, Try.ntmps9
  by_cases h9 : N = 9
  · subst h9
    obtain ⟨b, o, rfl, hcc⟩ := HRD.out (by omega)
    have hxx : ∀ k, k < 9 → w1.cell? ⟨b, o + k, none⟩ = some (.int .u8 (x k)) := hcc
    have hx0 := hcc 0 (by omega)
    rw [Nat.add_zero] at hx0
    have hat := fun w => run_arrayAt w b o 9 c (Nat.le_refl 9)
    go_wp2_with fail
    refine CR.out.mono ?_; rintro e w2 ⟨rfl, hf2⟩
    have HF2 := Lib.hid (HF1.out.trans hf2 (fun _ _ h => h))
    have HZ2 := Lib.hid (HZ1.out.fr hf2 (fun h => h))
    have hcz2 : ∀ k, k < 9 → w2.cell? ⟨w.heap.size, k, none⟩ = some (.int .u8 0) := fun k hk => (HZ2.out.cell k).trans (mcs_at zeroM k hk)
    have hfz2 : ∀ k, w2.frozen? ⟨w.heap.size, k, none⟩ = false := fun k => HZ2.out.frozen k
    have hxx2 : ∀ k, k < 9 → w2.cell? ⟨b, o + k, none⟩ = some (.int .u8 (x k)) := fun k hk => by
      rw [← hxx k hk]; exact hf2.cell (p := ⟨b, o + k, none⟩) (World.block_lt_of_cell? w1 _ (hxx k hk)) (fun h => h)
    have hx02 := hxx2 0 (by omega)
    rw [Nat.add_zero] at hx02
    clear hcz hfz hxx hx0 hcc hw1
    by_cases hR : rightP x
    · rw [rightB_yes hR]
      have HE := Lib.hid (decQ_yes rfl hR)
      clear hR
      go_wp2
      refine bodyPost_ret (res23 rfl _ _ _ x rfl (Bx.of (HZ2.out.set9 x))) rfl ⟨?_, HF2.out.set9 (fun h => absurd h (Nat.lt_irrefl _)) x⟩
      rw [HE.out]; rfl
    · rw [rightB_no hR]
      have HE := Lib.hid (decQ_no (N := 9) (x := x) (fun h => hR h.2))
      clear hR
      go_wp2
      refine bodyPost_ret (res23 rfl _ _ _ zeroM rfl (Bx.of (HZ2.out.set9 zeroM))) rfl ⟨?_, HF2.out.set9 (fun h => absurd h (Nat.lt_irrefl _)) zeroM⟩
      rw [HE.out]; rfl
  · have d9 : ((N : Int) == 9) = false := by simp; omega
    have d9' : (N == 9) = false := by simp; omega
    have n9 : ((N : Int) != 9) = true := by simp; omega
    have n9' : (N != 9) = true := by simp; omega
    have HE := Lib.hid (decQ_no (N := N) (x := x) (fun h => h9 h.1))
    clear h9
    go_wp2
    refine bodyPost_ret (res23 rfl _ _ _ zeroM rfl (Bx.of (HZ1.out.set9 zeroM))) rfl ⟨?_, HF1.out.set9 (fun h => absurd h (Nat.lt_irrefl _)) zeroM⟩
    rw [HE.out]; rfl

/-- The first k bytes, then nought. -/
def upX (x : Nat → Int) (k : Nat) : Nat → Int := fun j => if j < k then x j else 0
theorem upX_put (x : Nat → Int) (k : Nat) : ∀ j, putM (upX x k) k (x k) j = upX x (k + 1) j := fun j => by
  unfold putM upX
  by_cases e : j = k
  · subst e; simp
  · rw [if_neg e]
    by_cases h : j < k
    · rw [if_pos h, if_pos (by omega)]
    · rw [if_neg h, if_neg (by omega)]
theorem upX_fun (x : Nat → Int) (k : Nat) : putM (upX x k) k (x k) = upX x (k + 1) := funext (upX_put x k)

set_option maxRecDepth 100000 in
set_option maxHeartbeats 8000000 in
theorem rDecode_any (A : Option Addr) (N c : Nat) (x : Nat → Int) (w : World) (hx : ∀ k, 0 ≤ x k ∧ x k < 256) (hrd : RdF w A N (fun j => .int .u8 (x j))) :
    Calls Try.prog 10 #[.slice A N c] w fun e w' => e = .returned (.tuple #[mv (decQ N x).1, .int .i64 (decQ N x).2]) ∧ Fr (fun _ => False) w w' := by
  obtain ⟨w1, hw1⟩ : ∃ w1, (w.alloc (.cells (mcs zeroM) 22)).alloc (.cells (mcs zeroM) 22) = w1 := ⟨_, rfl⟩
  have HF1 : Hid (Fr (fun _ => False) w w1) := Lib.hid (by rw [← hw1]; exact ((Fr.refl _ _).alloc _).alloc _)
  have hs1 : w1.heap.size = w.heap.size + 1 + 1 := by rw [← hw1]; simp
  have HZ1 : Hid (Bk w1 w.heap.size 22 (mcs zeroM)) := Lib.hid (by rw [← hw1]; exact (Bk.new w _ _).alloc _)
  have hk1 : Bk w1 (w.heap.size + 1) 22 (mcs zeroM) := by rw [← hw1]; have := Bk.new (w.alloc (.cells (mcs zeroM) 22)) 22 (mcs zeroM); simpa using this
  have hcz : ∀ k, k < 9 → w1.cell? ⟨w.heap.size, k, none⟩ = some (.int .u8 0) := fun k hk => (HZ1.out.cell k).trans (mcs_at zeroM k hk)
  have hfz : ∀ k, w1.frozen? ⟨w.heap.size, k, none⟩ = false := fun k => HZ1.out.frozen k
  have hc1 : ∀ k, k < 9 → w1.cell? ⟨w.heap.size + 1, k, none⟩ = some (.int .u8 0) := fun k hk => (hk1.cell k).trans (mcs_at zeroM k hk)
  have CR := Lib.hid (rRight_any x hx)
  rw [mcs_zero] at hw1
  unfold mv at CR
  go_enter Try.func10, Try.ntmps10
  by_cases h9 : N = 9
  · subst h9
    go_wp2_with fail
    clear hw1 hc1 hcz hfz
    go_loopw [5] (fun i wr => ∃ k : Nat, i = .int .i64 (k : Int) ∧ k ≤ 9 ∧ Bk wr (w.heap.size + 1) 22 (mcs (upX x k)) ∧ Fr (fun k => k = w.heap.size + 1) w1 wr) (fun i _ => 9 - (intOf i).toNat)
    case atStart => exact ⟨0, rfl, Nat.zero_le _, hk1, Fr.refl _ _⟩
    case round =>
      obtain ⟨k, rfl, hk, hb, hf⟩ := hrel
      have HF := Lib.hid hf
      have HFW : Hid (Fr (fun _ => False) w wr) := Lib.hid (HF1.out.trans hf (fun k hk e => by omega))
      by_cases hlt : k < 9
      · obtain ⟨g, o, rfl, hc⟩ := (hrd.fr0 HFW.out) (by omega)
        have hck := hc k hlt
        dsimp only at hck
        have hcj := (hb.cell k).trans (mcs_at _ k hlt)
        have hfj := hb.frozen k
        have hltI : (k : Int) < 9 := by omega
        have HP : Hid (Bk (wr.setCell ⟨w.heap.size + 1, k, none⟩ (.int .u8 (x k))) (w.heap.size + 1) 22 (mcs (upX x (k + 1)))) := Lib.hid (by rw [← upX_fun]; exact hb.put hlt (x k))
        have HF2 := Lib.hid (HF.out.setCell (p := ⟨w.heap.size + 1, k, none⟩) (fun _ => rfl) (.int .u8 (x k)))
        clear hc hb hf
        go_wp2
        refine ⟨⟨k + 1, by simp, by omega, HP.out, HF2.out⟩, ?_⟩
        first | omega | (show _ < _; simp [intOf]; omega)
      · obtain rfl : k = 9 := by omega
        have e9 : mcs (upX x 9) = mcs x := mcs_inj (fun j hj => if_pos hj)
        rw [e9] at hb
        have hb0 : ∀ k, k < 9 → wr.cell? ⟨w.heap.size + 1, k, none⟩ = some (.int .u8 (x k)) := fun k hk => (hb.cell k).trans (mcs_at x k hk)
        have HZ := Lib.hid (HZ1.out.fr hf (by omega))
        go_wp2_with fail
        refine (CR.out _).mono ?_; rintro e w2 ⟨rfl, hf2⟩
        have HF2 := Lib.hid (HFW.out.trans hf2 (fun _ _ h => h))
        have HZ2 := Lib.hid (HZ.out.fr hf2 (fun h => h))
        have hcz2 : ∀ k, k < 9 → w2.cell? ⟨w.heap.size, k, none⟩ = some (.int .u8 0) := fun k hk => (HZ2.out.cell k).trans (mcs_at zeroM k hk)
        have hfz2 : ∀ k, w2.frozen? ⟨w.heap.size, k, none⟩ = false := fun k => HZ2.out.frozen k
        have hb2 : ∀ k, k < 9 → w2.cell? ⟨w.heap.size + 1, k, none⟩ = some (.int .u8 (x k)) := fun k hk => ((hb.fr hf2 (fun h => h)).cell k).trans (mcs_at x k hk)
        clear hb0 hb hf
        by_cases hR : rightP x
        · rw [rightB_yes hR]
          have HE := Lib.hid (decQ_yes rfl hR)
          clear hR
          go_wp2
          refine bodyPost_ret (res22 rfl _ _ _ x rfl (Bx.of (HZ2.out.set9 x))) rfl ⟨?_, HF2.out.set9 (fun h => absurd h (Nat.lt_irrefl _)) x⟩
          rw [HE.out]; rfl
        · rw [rightB_no hR]
          have HE := Lib.hid (decQ_no (N := 9) (x := x) (fun h => hR h.2))
          clear hR
          go_wp2
          refine bodyPost_ret (res22 rfl _ _ _ zeroM rfl (Bx.of (HZ2.out.set9 zeroM))) rfl ⟨?_, HF2.out.set9 (fun h => absurd h (Nat.lt_irrefl _)) zeroM⟩
          rw [HE.out]; rfl
  · have d9 : ((N : Int) == 9) = false := by simp; omega
    have d9' : (N == 9) = false := by simp; omega
    have n9 : ((N : Int) != 9) = true := by simp; omega
    have n9' : (N != 9) = true := by simp; omega
    have HE := Lib.hid (decQ_no (N := N) (x := x) (fun h => h9 h.1))
    clear h9
    go_wp2
    refine bodyPost_ret (res22 rfl _ _ _ zeroM rfl (Bx.of (HZ1.out.set9 zeroM))) rfl ⟨?_, HF1.out.set9 (fun h => absurd h (Nat.lt_irrefl _)) zeroM⟩
    rw [HE.out]; rfl
end Go.Proofs.Ytiinkjplhihdaaa
