/- The reader's Between, Bytes, End. -/
import Derived.Test.YtblfnbmgijppmaaDoorCl
import Derived.StillTailTactics
namespace Go.Proofs.YtblfnbmgijppmaaDoor
open Go.RowKit

def srWithin (xs : List UInt8) (k : Nat) (lo hi : Int) : SR × Int :=
  match rdNum (xs.drop k) with
  | .bad b => (.bad b, 0)
  | .ok u m => if unfN u < lo ∨ hi < unfN u then (.bad 8, 0) else (.ok (k + m), unfN u)

set_option maxRecDepth 100000 in
set_option maxHeartbeats 1000000 in
theorem within_any {w : World} {g : Nat} {A : Option Addr} {n c : Nat} {xs : List UInt8} {k : Nat} {fat : Int} {what : ByteArray} (h : Rdr w g A n c xs k 0 fat what) (hk : k ≤ n) (lo hi : Int) :
    Calls Tryd.prog 64 #[.pointer (some ⟨g, 0, none⟩), .int .i64 lo, .int .i64 hi] w (StepPost w g A n c xs (srWithin xs k lo hi).1 (fun _ v _ => v = .int .i64 (srWithin xs k lo hi).2)) := by
  cases hN : rdNum (xs.drop k) with
  | bad b =>
    have hs : srWithin xs k lo hi = (.bad b, 0) := by simp [srWithin, hN]
    rw [hs]
    clear hs
    have HN := Lib.hid hN
    clear hN
    go_enter Tryd.func64, Tryd.ntmps64
    go_wp2_with (go_at_call 38; refine (number_any k h hk).mono ?_; rw [HN.out]; rintro e w1 ⟨rfl, ⟨p, hr1⟩, hf3⟩)
    exact ⟨rfl, rfl, ⟨p, _, _, hr1⟩, hf3⟩
  | ok u m =>
    have HN := Lib.hid hN
    by_cases h1 : unfN u < lo
    · have hs : srWithin xs k lo hi = (.bad 8, 0) := by simp [srWithin, hN, h1]
      rw [hs]
      clear hs hN
      go_enter Tryd.func64, Tryd.ntmps64
      go_wp2_with (go_at_call 38; refine (number_any k h hk).mono ?_; rw [HN.out]; rintro e w1 ⟨rfl, hkm, hr1, hf3⟩)
      exact ⟨rfl, rfl, ⟨_, _, _, hr1⟩, hf3⟩
    · by_cases h2 : hi < unfN u
      · have hs : srWithin xs k lo hi = (.bad 8, 0) := by simp [srWithin, hN, h2]
        rw [hs]
        clear hs hN
        go_enter Tryd.func64, Tryd.ntmps64
        go_wp2_with (go_at_call 38; refine (number_any k h hk).mono ?_; rw [HN.out]; rintro e w1 ⟨rfl, hkm, hr1, hf3⟩)
        exact ⟨rfl, rfl, ⟨_, _, _, hr1⟩, hf3⟩
      · have hs : srWithin xs k lo hi = (.ok (k + m), unfN u) := by simp [srWithin, hN, h1, h2]
        rw [hs]
        clear hs hN
        go_enter Tryd.func64, Tryd.ntmps64
        go_wp2_with (go_at_call 38; refine (number_any k h hk).mono ?_; rw [HN.out]; rintro e w1 ⟨rfl, hkm, hr1, hf3⟩)
        go_ret
        exact ⟨_, rfl, hkm, ⟨_, _, hr1⟩, hf3, rfl⟩

def srRun (xs : List UInt8) (k : Nat) (most : Int) : SR × List UInt8 :=
  match rdNum (xs.drop k) with
  | .bad b => (.bad b, [])
  | .ok u m =>
    if unfN u < 0 then (.bad 8, [])
    else if most < unfN u then (.bad 10, [])
    else if (xs.length : Int) - (k + m : Nat) < unfN u then (.bad 7, [])
    else (.ok (k + m + (unfN u).toNat), (xs.drop (k + m)).take (unfN u).toNat)

def runQ (bs : List UInt8) (w : World) (v : Value) (w' : World) : Prop := ∃ A' c', v = .slice A' bs.length c' ∧ Own8 w' 5 (.slice A' bs.length c') bs ∧ ∀ k, v.ownBlock = some k → w.heap.size ≤ k

set_option maxRecDepth 100000 in
set_option maxHeartbeats 1000000 in
theorem run_any {w : World} {g : Nat} {A : Option Addr} {n c : Nat} {xs : List UInt8} {k : Nat} {fat : Int} {what : ByteArray} (h : Rdr w g A n c xs k 0 fat what) (hk : k ≤ n) (most : Int) :
    Calls Tryd.prog 41 #[.pointer (some ⟨g, 0, none⟩), .int .i64 most] w (StepPost w g A n c xs (srRun xs k most).1 (runQ (srRun xs k most).2)) := by
  have hl := h.len
  cases hN : rdNum (xs.drop k) with
  | bad b =>
    have hs : srRun xs k most = (.bad b, []) := by simp [srRun, hN]
    rw [hs]
    clear hs
    have HN := Lib.hid hN
    clear hN
    go_enter Tryd.func41, Tryd.ntmps41
    go_wp2_with (go_at_call 38; refine (number_any k h hk).mono ?_; rw [HN.out]; rintro e w1 ⟨rfl, ⟨p, hr1⟩, hf3⟩)
    exact ⟨rfl, rfl, ⟨p, _, _, hr1⟩, hf3⟩
  | ok u m =>
    have HN := Lib.hid hN
    by_cases h1 : unfN u < 0
    · have hs : srRun xs k most = (.bad 8, []) := by simp [srRun, hN, h1]
      rw [hs]
      clear hs hN
      go_enter Tryd.func41, Tryd.ntmps41
      go_wp2_with (go_at_call 38; refine (number_any k h hk).mono ?_; rw [HN.out]; rintro e w1 ⟨rfl, hkm, hr1, hf3⟩)
      exact ⟨rfl, rfl, ⟨_, _, _, hr1⟩, hf3⟩
    · by_cases h2 : most < unfN u
      · have hs : srRun xs k most = (.bad 10, []) := by simp [srRun, hN, h1, h2]
        rw [hs]
        clear hs hN
        go_enter Tryd.func41, Tryd.ntmps41
        go_wp2_with (go_at_call 38; refine (number_any k h hk).mono ?_; rw [HN.out]; rintro e w1 ⟨rfl, hkm, hr1, hf3⟩)
        exact ⟨rfl, rfl, ⟨_, _, _, hr1⟩, hf3⟩
      · by_cases h3 : (n : Int) - ((k + m : Nat) : Int) < unfN u
        · have hs : srRun xs k most = (.bad 7, []) := by simp only [srRun, hN]; rw [if_neg h1, if_neg h2, hl, if_pos h3]
          rw [hs]
          clear hs hN
          go_enter Tryd.func41, Tryd.ntmps41
          go_wp2_with (go_at_call 38; refine (number_any k h hk).mono ?_; rw [HN.out]; rintro e w1 ⟨rfl, hkm, hr1, hf3⟩)
          have c0 : w1.cell? ⟨g, 0, none⟩ = some (.slice A n c) := hr1.bk.cell 0
          have c1 : w1.cell? ⟨g, 1, none⟩ = some (.int .i64 (k + m : Nat)) := hr1.bk.cell 1
          have hcap := h.cap
          have hbig := h.big
          generalize k + m = K at *
          generalize unfN u = U at *
          go_quiet (fail)
          go_wp2
          exact ⟨rfl, rfl, ⟨_, _, _, hr1.quiet ((Fr.refl _ _).drewN _)⟩, hf3.drewN _⟩
        · obtain ⟨L, hL⟩ : ∃ L : Nat, unfN u = (L : Int) := ⟨(unfN u).toNat, by omega⟩
          have hs : srRun xs k most = (.ok (k + m + L), (xs.drop (k + m)).take L) := by simp only [srRun, hN]; rw [if_neg h1, if_neg h2, hl, if_neg h3, hL]; rfl
          rw [hs]
          have HN1 : Hid (0 < n) := Lib.hid (by
            have := num_ok _ _ _ _ _ _ hN
            rw [List.length_drop] at this
            omega)
          clear hs hN
          have HL := Lib.hid hL
          rw [hL] at h1 h2 h3
          clear hL
          have hrp : ((xs.drop (k + m)).take L).length = L := by simp; omega
          go_enter Tryd.func41, Tryd.ntmps41
          go_wp2_with (go_at_call 38; refine (number_any k h hk).mono ?_; rw [HN.out]; rintro e w1 ⟨rfl, hkm, hr1, hf3⟩; rw [HL.out])
          have c0 : w1.cell? ⟨g, 0, none⟩ = some (.slice A n c) := hr1.bk.cell 0
          have c1 : w1.cell? ⟨g, 1, none⟩ = some (.int .i64 (k + m : Nat)) := hr1.bk.cell 1
          have f1 : w1.frozen? ⟨g, 1, none⟩ = false := hr1.bk.frozen 1
          have hcap := h.cap
          have hbig := h.big
          generalize k + m = K at *
          go_quiet (fail)
          go_wp2_with fail
          have hr2 := (hr1.quiet ((Fr.refl (fun _ => False) w1).drewN nq)).set ((K + L : Nat) : Int)
          have hf4 : Fr (fun x => x = g) w ((w1.drewN nq).setCell ⟨g, 1, none⟩ (.int .i64 ((K + L : Nat) : Int))) := (hf3.drewN nq).trans fr_set (fun _ _ h => h)
          rw [Int.natCast_add] at hr2 hf4
          clear c0 c1 f1 hr1 hf3
          generalize (w1.drewN nq).setCell ⟨g, 1, none⟩ (.int .i64 ((K : Int) + L)) = w2 at *
          have d0 : w2.cell? ⟨g, 0, none⟩ = some (.slice A n c) := hr2.bk.cell 0
          have d1 : w2.cell? ⟨g, 1, none⟩ = some (.int .i64 ((K : Int) + L)) := hr2.bk.cell 1
          have hKL : K + L ≤ n := by omega
          have i1 : (K : Int) + L ≤ c := by omega
          have fin : ∀ {w3 : World} {A4 : Option Addr} {c4 : Nat}, Own8 w3 5 (.slice A4 L c4) ((xs.drop K).take L) → Fresh w2.drew w3 (.slice A4 L c4) → StepPost w g A n c xs (.ok (K + L)) (runQ ((xs.drop K).take L)) (.returned (.slice A4 L c4)) w3 := by
            intro w3 A4 c4 ho4 hfr4
            have hq2 : Fr (fun _ => False) w2 w3 := ((Fr.refl (fun _ => False) w2).drew).trans hfr4.1 (fun _ _ h => h)
            refine ⟨_, rfl, hKL, ⟨0 + fat, what, ?_⟩, hf4.trans hq2 (fun _ _ h => h.elim), A4, c4, by rw [hrp], by rw [hrp]; exact ho4, fun kk hkk => Nat.le_trans hf4.size (hfr4.2 kk hkk)⟩
            rw [Int.zero_add, Int.natCast_add]
            exact hr2.quiet hq2
          have FIN := @Lib.hid _ @fin
          clear fin
          by_cases hcK : c = K
          · have hL0 : L = 0 := by omega
            subst hL0
            subst hcK
            simp only [Int.natCast_zero, Int.add_zero] at d1 i1
            have i2 : (c : Int) ≤ c := by omega
            have i3 : ¬ ((c : Int) < c) := by omega
            go_still_tail 10, (by kernel_rfl)
            change wpList _ _ _ _ _ w2.drew
            generalize hw2 : w2.drew = w2d at *
            have hfd : Fr (fun _ => False) w2 w2d := by subst hw2; exact (Fr.refl _ _).drew
            clear hw2
            go_wp2_with fail
            refine (clone_any A 0 _ [] w2d (Rd8.nil _ _) rfl (by omega)).mono ?_; rintro e w3 ⟨A4, c4, rfl, ho4, hfr4⟩
            go_wp2
            go_ret
            have := FIN.out ho4 hfr4
            simpa using this
          · have i2 : (K : Int) ≤ (K : Int) + L := by omega
            have i0 : (0 : Int) ≤ K := by omega
            rcases hA : A with _ | ad
            · subst hA
              go_still_tail 10, (by kernel_rfl)
              change wpList _ _ _ _ _ w2.drew
              generalize hw2 : w2.drew = w2d at *
              have hfd : Fr (fun _ => False) w2 w2d := by subst hw2; exact (Fr.refl _ _).drew
              clear hw2
              go_wp2_with fail
              have hx : (xs.drop K).take L = [] := by
                rcases Nat.eq_zero_or_pos n with h0 | h0
                · exact List.eq_nil_of_length_eq_zero (by omega)
                · obtain ⟨ad, e, _⟩ := h.rd (by omega)
                  cases e
              rw [show K + L - K = L by omega]
              refine (clone_any none L _ ((xs.drop K).take L) w2d (by rw [hx]; exact Rd8.nil _ _) hrp (by omega)).mono ?_; rintro e w3 ⟨A4, c4, rfl, ho4, hfr4⟩
              go_wp2
              go_ret
              exact FIN.out ho4 hfr4
            · subst hA
              obtain ⟨b, o, sp⟩ := ad
              cases h.spot _ rfl HN1.out
              go_still_tail 10, (by kernel_rfl)
              change wpList _ _ _ _ _ w2.drew
              generalize hw2 : w2.drew = w2d at *
              have hfd : Fr (fun _ => False) w2 w2d := by subst hw2; exact (Fr.refl _ _).drew
              clear hw2
              go_wp2_with fail
              rw [show K + L - K = L by omega]
              refine (clone_any _ L _ ((xs.drop K).take L) w2d ((hr2.quiet hfd).rd.part K L) hrp (by omega)).mono ?_; rintro e w3 ⟨A4, c4, rfl, ho4, hfr4⟩
              go_wp2
              go_ret
              exact FIN.out ho4 hfr4
end Go.Proofs.YtblfnbmgijppmaaDoor
