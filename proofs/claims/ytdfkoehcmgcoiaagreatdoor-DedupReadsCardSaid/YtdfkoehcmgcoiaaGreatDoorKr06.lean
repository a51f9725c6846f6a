import Derived.Test.YtdfkoehcmgcoiaaGreatDoorKr05
import Derived.StillTailTactics

/- The reader's Between, Bytes, End. -/
namespace Go.Proofs.YtdfkoehcmgcoiaaGreatDoor
open Go.RowKit

def srWithin (xs : List UInt8) (k : Nat) (lo hi : Int) : SR × Int :=
  match rdNum (xs.drop k) with
  | .bad b => (.bad b, 0)
  | .ok u m => if unfN u < lo ∨ hi < unfN u then (.bad 8, 0) else (.ok (k + m), unfN u)

set_option maxRecDepth 100000 in
set_option maxHeartbeats 1000000 in
theorem within_any {w : World} {g : Nat} {A : Option Addr} {n c : Nat} {xs : List UInt8} {k : Nat} {fat : Int} {what : ByteArray} (h : Rdr w g A n c xs k 0 fat what) (hk : k ≤ n) (lo hi : Int) :
    Calls Tryz.prog 53 #[.pointer (some ⟨g, 0, none⟩), .int .i64 lo, .int .i64 hi] w (StepPost w g A n c xs (srWithin xs k lo hi).1 (fun _ v _ => v = .int .i64 (srWithin xs k lo hi).2)) := by
  cases hN : rdNum (xs.drop k) with
  | bad b =>
    have hs : srWithin xs k lo hi = (.bad b, 0) := by simp [srWithin, hN]
    rw [hs]
    clear hs
    have HN := Lib.hid hN
    clear hN
    go_enter Tryz.func53, Tryz.ntmps53
    go_wp2_with (go_at_call 72; refine (number_any k h hk).mono ?_; rw [HN.out]; rintro e w1 ⟨rfl, ⟨p, hr1⟩, hf3⟩)
    exact ⟨rfl, rfl, ⟨p, _, _, hr1⟩, hf3⟩
  | ok u m =>
    have HN := Lib.hid hN
    by_cases h1 : unfN u < lo
    · have hs : srWithin xs k lo hi = (.bad 8, 0) := by simp [srWithin, hN, h1]
      rw [hs]
      clear hs hN
      go_enter Tryz.func53, Tryz.ntmps53
      go_wp2_with (go_at_call 72; refine (number_any k h hk).mono ?_; rw [HN.out]; rintro e w1 ⟨rfl, hkm, hr1, hf3⟩)
      exact ⟨rfl, rfl, ⟨_, _, _, hr1⟩, hf3⟩
    · by_cases h2 : hi < unfN u
      · have hs : srWithin xs k lo hi = (.bad 8, 0) := by simp [srWithin, hN, h2]
        rw [hs]
        clear hs hN
        go_enter Tryz.func53, Tryz.ntmps53
        go_wp2_with (go_at_call 72; refine (number_any k h hk).mono ?_; rw [HN.out]; rintro e w1 ⟨rfl, hkm, hr1, hf3⟩)
        exact ⟨rfl, rfl, ⟨_, _, _, hr1⟩, hf3⟩
      · have hs : srWithin xs k lo hi = (.ok (k + m), unfN u) := by simp [srWithin, hN, h1, h2]
        rw [hs]
        clear hs hN
        go_enter Tryz.func53, Tryz.ntmps53
        go_wp2_with (go_at_call 72; refine (number_any k h hk).mono ?_; rw [HN.out]; rintro e w1 ⟨rfl, hkm, hr1, hf3⟩)
        go_ret
        exact ⟨_, rfl, hkm, ⟨_, _, hr1⟩, hf3, rfl⟩

def srRun (xs : List UInt8) (k : Nat) (most : Int) : SR × List UInt8 :=
  match rdNum (xs.drop k) with
  | .bad b => (.bad b, [])
  | .ok u m =>
    if unfN u < 0 then (.bad 8, [])
    else if most < unfN u then (.bad 10, [])
    else if (xs.length : Int) - (k + m : Nat) < unfN u then (.bad 7, [])
    else (.ok (k + m + (unfN u).toNat), (xs.drop (k + m)).take (unfN u).toNat)

def runQ (bs : List UInt8) (w : World) (v : Value) (w' : World) : Prop := ∃ A' c', v = .slice A' bs.length c' ∧ Own8 w' 5 (.slice A' bs.length c') bs ∧ ∀ k, v.ownBlock = some k → w.heap.size ≤ k

set_option maxRecDepth 100000 in
set_option maxHeartbeats 1000000 in
theorem run_any {w : World} {g : Nat} {A : Option Addr} {n c : Nat} {xs : List UInt8} {k : Nat} {fat : Int} {what : ByteArray} (h : Rdr w g A n c xs k 0 fat what) (hk : k ≤ n) (most : Int) :
    Calls Tryz.prog 84 #[.pointer (some ⟨g, 0, none⟩), .int .i64 most] w (StepPost w g A n c xs (srRun xs k most).1 (runQ (srRun xs k most).2)) := by
  have hl := h.len
  cases hN : rdNum (xs.drop k) with
  | bad b =>
    have hs : srRun xs k most = (.bad b, []) := by simp [srRun, hN]
    rw [hs]
    clear hs
    have HN := Lib.hid hN
    clear hN
    go_enter Tryz.func84, Tryz.ntmps84
    go_wp2_with (go_at_call 72; refine (number_any k h hk).mono ?_; rw [HN.out]; rintro e w1 ⟨rfl, ⟨p, hr1⟩, hf3⟩)
    exact ⟨rfl, rfl, ⟨p, _, _, hr1⟩, hf3⟩
  | ok u m =>
    have HN := Lib.hid hN
    by_cases h1 : unfN u < 0
    · have hs : srRun xs k most = (.bad 8, []) := by simp [srRun, hN, h1]
      rw [hs]
      clear hs hN
      go_enter Tryz.func84, Tryz.ntmps84
      go_wp2_with (go_at_call 72; refine (number_any k h hk).mono ?_; rw [HN.out]; rintro e w1 ⟨rfl, hkm, hr1, hf3⟩)
      exact ⟨rfl, rfl, ⟨_, _, _, hr1⟩, hf3⟩
    · by_cases h2 : most < unfN u
      · have hs : srRun xs k most = (.bad 10, []) := by simp [srRun, hN, h1, h2]
        rw [hs]
        clear hs hN
        go_enter Tryz.func84, Tryz.ntmps84
        go_wp2_with (go_at_call 72; refine (number_any k h hk).mono ?_; rw [HN.out]; rintro e w1 ⟨rfl, hkm, hr1, hf3⟩)
        exact ⟨rfl, rfl, ⟨_, _, _, hr1⟩, hf3⟩
      · by_cases h3 : (n : Int) - ((k + m : Nat) : Int) < unfN u
        · have hs : srRun xs k most = (.bad 7, []) := by simp only [srRun, hN]; rw [if_neg h1, if_neg h2, hl, if_pos h3]
          rw [hs]
          clear hs hN
          go_enter Tryz.func84, Tryz.ntmps84
          go_wp2_with (go_at_call 72; refine (number_any k h hk).mono ?_; rw [HN.out]; rintro e w1 ⟨rfl, hkm, hr1, hf3⟩)
          have c0 : w1.cell? ⟨g, 0, none⟩ = some (.slice A n c) := hr1.bk.cell 0
          have c1 : w1.cell? ⟨g, 1, none⟩ = some (.int .i64 (k + m : Nat)) := hr1.bk.cell 1
          have hcap := h.cap
          have hbig := h.big
          generalize k + m = K at *
          generalize unfN u = U at *
          go_quiet (fail)
          go_wp2
          exact ⟨rfl, rfl, ⟨_, _, _, hr1.quiet ((Fr.refl _ _).drewN _)⟩, hf3.drewN _⟩
        · obtain ⟨L, hL⟩ : ∃ L : Nat, unfN u = (L : Int) := ⟨(unfN u).toNat, by omega⟩
          have hs : srRun xs k most = (.ok (k + m + L), (xs.drop (k + m)).take L) := by simp only [srRun, hN]; rw [if_neg h1, if_neg h2, hl, if_neg h3, hL]; rfl
          rw [hs]
          have HN1 : Hid (0 < n) := Lib.hid (by
            have := num_ok _ _ _ _ _ _ hN
            rw [List.length_drop] at this
            omega)
          clear hs hN
          have HL := Lib.hid hL
          rw [hL] at h1 h2 h3
          clear hL
          have hrp : ((xs.drop (k + m)).take L).length = L := by simp; omega
          go_enter Tryz.func84, Tryz.ntmps84
          go_wp2_with (go_at_call 72; refine (number_any k h hk).mono ?_; rw [HN.out]; rintro e w1 ⟨rfl, hkm, hr1, hf3⟩; rw [HL.out])
          have c0 : w1.cell? ⟨g, 0, none⟩ = some (.slice A n c) := hr1.bk.cell 0
          have c1 : w1.cell? ⟨g, 1, none⟩ = some (.int .i64 (k + m : Nat)) := hr1.bk.cell 1
          have f1 : w1.frozen? ⟨g, 1, none⟩ = false := hr1.bk.frozen 1
          have hcap := h.cap
          have hbig := h.big
          generalize k + m = K at *
          go_quiet (fail)
          go_wp2_with fail
          have hr2 := (hr1.quiet ((Fr.refl (fun _ => False) w1).drewN nq)).set ((K + L : Nat) : Int)
          have hf4 : Fr (fun x => x = g) w ((w1.drewN nq).setCell ⟨g, 1, none⟩ (.int .i64 ((K + L : Nat) : Int))) := (hf3.drewN nq).trans fr_set (fun _ _ h => h)
          rw [Int.natCast_add] at hr2 hf4
          clear c0 c1 f1 hr1 hf3
          generalize (w1.drewN nq).setCell ⟨g, 1, none⟩ (.int .i64 ((K : Int) + L)) = w2 at *
          have d0 : w2.cell? ⟨g, 0, none⟩ = some (.slice A n c) := hr2.bk.cell 0
          have d1 : w2.cell? ⟨g, 1, none⟩ = some (.int .i64 ((K : Int) + L)) := hr2.bk.cell 1
          have hKL : K + L ≤ n := by omega
          have i1 : (K : Int) + L ≤ c := by omega
          have fin : ∀ {w3 : World} {A4 : Option Addr} {c4 : Nat}, Own8 w3 5 (.slice A4 L c4) ((xs.drop K).take L) → Fresh w2.drew w3 (.slice A4 L c4) → StepPost w g A n c xs (.ok (K + L)) (runQ ((xs.drop K).take L)) (.returned (.slice A4 L c4)) w3 := by
            intro w3 A4 c4 ho4 hfr4
            have hq2 : Fr (fun _ => False) w2 w3 := ((Fr.refl (fun _ => False) w2).drew).trans hfr4.1 (fun _ _ h => h)
            refine ⟨_, rfl, hKL, ⟨0 + fat, what, ?_⟩, hf4.trans hq2 (fun _ _ h => h.elim), A4, c4, by rw [hrp], by rw [hrp]; exact ho4, fun kk hkk => Nat.le_trans hf4.size (hfr4.2 kk hkk)⟩
            rw [Int.zero_add, Int.natCast_add]
            exact hr2.quiet hq2
          have FIN := @Lib.hid _ @fin
          clear fin
          by_cases hcK : c = K
          · have hL0 : L = 0 := by omega
            subst hL0
            subst hcK
            simp only [Int.natCast_zero, Int.add_zero] at d1 i1
            have i2 : (c : Int) ≤ c := by omega
            have i3 : ¬ ((c : Int) < c) := by omega
            go_still_tail 10, (by kernel_rfl)
            change wpList _ _ _ _ _ w2.drew
            generalize hw2 : w2.drew = w2d at *
            have hfd : Fr (fun _ => False) w2 w2d := by subst hw2; exact (Fr.refl _ _).drew
            clear hw2
            go_wp2_with fail
            refine (clone_any A 0 _ [] w2d (Rd8.nil _ _) rfl (by omega)).mono ?_; rintro e w3 ⟨A4, c4, rfl, ho4, hfr4⟩
            go_wp2
            go_ret
            have := FIN.out ho4 hfr4
            simpa using this
          · have i2 : (K : Int) ≤ (K : Int) + L := by omega
            have i0 : (0 : Int) ≤ K := by omega
            rcases hA : A with _ | ad
            · subst hA
              go_still_tail 10, (by kernel_rfl)
              change wpList _ _ _ _ _ w2.drew
              generalize hw2 : w2.drew = w2d at *
              have hfd : Fr (fun _ => False) w2 w2d := by subst hw2; exact (Fr.refl _ _).drew
              clear hw2
              go_wp2_with fail
              have hx : (xs.drop K).take L = [] := by
                rcases Nat.eq_zero_or_pos n with h0 | h0
                · exact List.eq_nil_of_length_eq_zero (by omega)
                · obtain ⟨ad, e, _⟩ := h.rd (by omega)
                  cases e
              rw [show K + L - K = L by omega]
              refine (clone_any none L _ ((xs.drop K).take L) w2d (by rw [hx]; exact Rd8.nil _ _) hrp (by omega)).mono ?_; rintro e w3 ⟨A4, c4, rfl, ho4, hfr4⟩
              go_wp2
              go_ret
              exact FIN.out ho4 hfr4
            · subst hA
              obtain ⟨b, o, sp⟩ := ad
              cases h.spot _ rfl HN1.out
              go_still_tail 10, (by kernel_rfl)
              change wpList _ _ _ _ _ w2.drew
              generalize hw2 : w2.drew = w2d at *
              have hfd : Fr (fun _ => False) w2 w2d := by subst hw2; exact (Fr.refl _ _).drew
              clear hw2
              go_wp2_with fail
              rw [show K + L - K = L by omega]
              refine (clone_any _ L _ ((xs.drop K).take L) w2d ((hr2.quiet hfd).rd.part K L) hrp (by omega)).mono ?_; rintro e w3 ⟨A4, c4, rfl, ho4, hfr4⟩
              go_wp2
              go_ret
              exact FIN.out ho4 hfr4
end Go.Proofs.YtdfkoehcmgcoiaaGreatDoor

/- The reader's Between, Bytes, End, and a new one. -/
namespace Go.Proofs.YtdfkoehcmgcoiaaGreatDoor
open Go.RowKit

def stBetween (xs : List UInt8) (wh : ByteArray) (lo hi : Int) : St → Int × St
  | .bad er a w0 => (0, .bad er a w0)
  | .at_ k => match (srWithin xs k lo hi).1 with
    | .bad b => (0, .bad b k wh)
    | .ok k' => ((srWithin xs k lo hi).2, .at_ k')
def stBytes (xs : List UInt8) (wh : ByteArray) (most : Int) : St → List UInt8 × St
  | .bad er a w0 => ([], .bad er a w0)
  | .at_ k => match (srRun xs k most).1 with
    | .bad b => ([], .bad b k wh)
    | .ok k' => ((srRun xs k most).2, .at_ k')

theorem srWithin_bad {xs : List UInt8} {k : Nat} {lo hi b : Int} (h : (srWithin xs k lo hi).1 = .bad b) : b ≠ 0 := by
  unfold srWithin at h
  cases hN : rdNum (xs.drop k) with
  | bad b' => rw [hN] at h; injection h with h; subst h; exact num_bad hN
  | ok u m =>
    rw [hN] at h
    simp only at h
    split at h
    · injection h with h; omega
    · cases h
theorem srRun_bad {xs : List UInt8} {k : Nat} {most b : Int} (h : (srRun xs k most).1 = .bad b) : b ≠ 0 := by
  unfold srRun at h
  cases hN : rdNum (xs.drop k) with
  | bad b' => rw [hN] at h; injection h with h; subst h; exact num_bad hN
  | ok u m =>
    rw [hN] at h
    simp only at h
    repeat' split at h
    all_goals first | (injection h with h; omega) | cases h

set_option maxRecDepth 100000 in
set_option maxHeartbeats 1000000 in
theorem between1_any {w : World} {g : Nat} {A : Option Addr} {n c : Nat} {xs : List UInt8} {k : Nat} {fat : Int} {what : ByteArray} (h : Rdr w g A n c xs k 0 fat what) (hk : k ≤ n) (lo hi : Int) (a1 a2 a3 : Addr)
    (h1 : w.cell? a1 = some (.pointer (some ⟨g, 0, none⟩))) (h2 : w.cell? a2 = some (.int .i64 lo)) (h3 : w.cell? a3 = some (.int .i64 hi)) :
    Calls Tryz.prog 52 #[.pointer (some a1), .pointer (some a2), .pointer (some a3)] w (StepPost w g A n c xs (srWithin xs k lo hi).1 (fun _ v _ => v = .int .i64 (srWithin xs k lo hi).2)) := by
  generalize hR : (srWithin xs k lo hi).1 = r
  generalize hV : (srWithin xs k lo hi).2 = v0
  have HR := Lib.hid hR
  have HV := Lib.hid hV
  clear hR hV
  go_enter Tryz.func52, Tryz.ntmps52
  go_wp2_with fail
  refine (within_any h hk lo hi).mono ?_
  rw [HR.out, HV.out]
  cases r with
  | bad b =>
    rintro e w1 ⟨rfl, hr1, hf1⟩
    exact ⟨rfl, rfl, hr1, hf1⟩
  | ok k' =>
    rintro e w1 ⟨v, rfl, hk', hr1, hf1, rfl⟩
    go_wp2
    go_ret
    exact ⟨_, rfl, hk', hr1, hf1, rfl⟩

set_option maxRecDepth 100000 in
set_option maxHeartbeats 1000000 in
theorem bytes1_any {w : World} {g : Nat} {A : Option Addr} {n c : Nat} {xs : List UInt8} {k : Nat} {fat : Int} {what : ByteArray} (h : Rdr w g A n c xs k 0 fat what) (hk : k ≤ n) (most : Int) (a1 a2 : Addr)
    (h1 : w.cell? a1 = some (.pointer (some ⟨g, 0, none⟩))) (h2 : w.cell? a2 = some (.int .i64 most)) :
    Calls Tryz.prog 83 #[.pointer (some a1), .pointer (some a2)] w (StepPost w g A n c xs (srRun xs k most).1 (runQ (srRun xs k most).2)) := by
  generalize hR : (srRun xs k most).1 = r
  generalize hV : (srRun xs k most).2 = v0
  have HR := Lib.hid hR
  have HV := Lib.hid hV
  clear hR hV
  go_enter Tryz.func83, Tryz.ntmps83
  go_wp2_with fail
  refine (run_any h hk most).mono ?_
  rw [HR.out, HV.out]
  cases r with
  | bad b =>
    rintro e w1 ⟨rfl, hr1, hf1⟩
    exact ⟨rfl, rfl, hr1, hf1⟩
  | ok k' =>
    rintro e w1 ⟨v, rfl, hk', hr1, hf1, hq⟩
    go_wp2
    go_ret
    exact ⟨_, rfl, hk', hr1, hf1, hq⟩

set_option maxRecDepth 100000 in
set_option maxHeartbeats 1000000 in
theorem rBetween_any {w : World} {g : Nat} {A : Option Addr} {n c : Nat} {xs : List UInt8} {s : St} (h : RdAt w g A n c xs s) (ht : ErrT w) (wh : ByteArray) (hg : g ≠ 0) (lo hi : Int) :
    Calls Tryz.prog 25 #[.pointer (some ⟨g, 0, none⟩), .string wh, .int .i64 lo, .int .i64 hi] w fun e w' =>
      e = .returned (.int .i64 (stBetween xs wh lo hi s).1) ∧ RdAt w' g A n c xs (stBetween xs wh lo hi s).2 ∧ Fr (fun x => x = g) w w' := by
  have hmf : ∀ (fn : Fn) (first cap : Array Value) (w : World), (Instr.makeFunc fn first cap).run Tryz.prog w = .ok (.func fn first cap) w := fun _ _ _ _ => rfl
  have hf0 : Fr (fun _ => False) w (((w.alloc (.cells #[.pointer (some ⟨g, 0, none⟩)] 68)).alloc (.cells #[.int .i64 lo] 3)).alloc (.cells #[.int .i64 hi] 3)) := (((Fr.refl _ _).alloc _).alloc _).alloc _
  have hcells : (((w.alloc (.cells #[.pointer (some ⟨g, 0, none⟩)] 68)).alloc (.cells #[.int .i64 lo] 3)).alloc (.cells #[.int .i64 hi] 3)).cell? ⟨w.heap.size, 0, none⟩ = some (.pointer (some ⟨g, 0, none⟩)) ∧
      (((w.alloc (.cells #[.pointer (some ⟨g, 0, none⟩)] 68)).alloc (.cells #[.int .i64 lo] 3)).alloc (.cells #[.int .i64 hi] 3)).cell? ⟨w.heap.size + 1, 0, none⟩ = some (.int .i64 lo) ∧
      (((w.alloc (.cells #[.pointer (some ⟨g, 0, none⟩)] 68)).alloc (.cells #[.int .i64 lo] 3)).alloc (.cells #[.int .i64 hi] 3)).cell? ⟨w.heap.size + 1 + 1, 0, none⟩ = some (.int .i64 hi) ∧
      (((w.alloc (.cells #[.pointer (some ⟨g, 0, none⟩)] 68)).alloc (.cells #[.int .i64 lo] 3)).alloc (.cells #[.int .i64 hi] 3)).heap.size = w.heap.size + 1 + 1 + 1 := by simp [go_sem]
  have HC := Lib.hid hcells
  clear hcells
  cases s with
  | bad er a w0 =>
    obtain ⟨he, p, hr⟩ := h
    have he' : (er == 0) = false := by rw [beq_eq_false_iff_ne]; exact he
    go_enter Tryz.func25, Tryz.ntmps25
    go_wp2_with (go_at_call 51; refine (tryInt_bad (hr.quiet hf0) he' wh _).mono ?_; rintro e w1 ⟨rfl, h1⟩)
    go_ret
    have h2 := hf0.trans h1 (fun _ _ h => h)
    exact ⟨rfl, ⟨he, p, hr.quiet h2⟩, h2.mono (fun _ _ h => h.elim)⟩
  | at_ k =>
    obtain ⟨hk, fat, what, hr⟩ := h
    have hs : stBetween xs wh lo hi (.at_ k) = (match (srWithin xs k lo hi).1 with | .bad b => (0, .bad b k wh) | .ok k' => ((srWithin xs k lo hi).2, .at_ k')) := rfl
    have hbad : ∀ b, (srWithin xs k lo hi).1 = .bad b → b ≠ 0 := fun b => srWithin_bad
    have hstep : ∀ W, Fr (fun _ => False) (((w.alloc (.cells #[.pointer (some ⟨g, 0, none⟩)] 68)).alloc (.cells #[.int .i64 lo] 3)).alloc (.cells #[.int .i64 hi] 3)) W →
        Calls Tryz.prog 52 #[.pointer (some ⟨w.heap.size, 0, none⟩), .pointer (some ⟨w.heap.size + 1, 0, none⟩), .pointer (some ⟨w.heap.size + 1 + 1, 0, none⟩)] W (StepPost W g A n c xs (srWithin xs k lo hi).1 (fun _ v _ => v = .int .i64 (srWithin xs k lo hi).2)) := by
      intro W hW
      obtain ⟨e1, e2, e3, e4⟩ := HC.out
      exact between1_any (hr.quiet (hf0.trans hW (fun _ _ h => h))) hk lo hi _ _ _ ((hW.cell (p := ⟨w.heap.size, 0, none⟩) (by rw [e4]; show w.heap.size < _; omega) (fun h => h)).trans e1) ((hW.cell (p := ⟨w.heap.size + 1, 0, none⟩) (by rw [e4]; show w.heap.size + 1 < _; omega) (fun h => h)).trans e2) ((hW.cell (p := ⟨w.heap.size + 1 + 1, 0, none⟩) (by rw [e4]; show w.heap.size + 1 + 1 < _; omega) (fun h => h)).trans e3)
    rw [hs]
    clear hs
    generalize (srWithin xs k lo hi).1 = r at *
    generalize (srWithin xs k lo hi).2 = v0 at *
    have HS := Lib.hid hstep
    have HB := Lib.hid hbad
    clear hstep hbad
    go_enter Tryz.func25, Tryz.ntmps25
    go_wp2_with fail
    refine (tryInt_step (hr.quiet hf0) (ht.fr hf0 (fun h => h)) wh hg _ _ r _ HS.out HB.out (fun _ => by kernel_rfl)).mono ?_
    cases r with
    | bad b =>
      rintro e w1 ⟨rfl, h1, h2⟩
      go_wp2
      go_ret
      exact ⟨rfl, h1, (hf0.mono (fun _ _ h => h.elim)).trans h2 (fun _ _ h => h)⟩
    | ok k' =>
      rintro e w1 ⟨v, W, rfl, h1, h2, _, rfl⟩
      go_wp2
      go_ret
      exact ⟨rfl, h1, (hf0.mono (fun _ _ h => h.elim)).trans h2 (fun _ _ h => h)⟩
end Go.Proofs.YtdfkoehcmgcoiaaGreatDoor

/- The reader's Bytes, End, and a new one. -/
namespace Go.Proofs.YtdfkoehcmgcoiaaGreatDoor
open Go.RowKit

def SliceNew (w w' : World) (v : Value) (bs : List UInt8) : Prop := ∃ A' c', v = .slice A' bs.length c' ∧ Own8 w' 5 (.slice A' bs.length c') bs ∧ ∀ k, v.ownBlock = some k → w.heap.size ≤ k

set_option maxRecDepth 100000 in
set_option maxHeartbeats 1000000 in
theorem rBytes_any {w : World} {g : Nat} {A : Option Addr} {n c : Nat} {xs : List UInt8} {s : St} (h : RdAt w g A n c xs s) (ht : ErrT w) (wh : ByteArray) (hg : g ≠ 0) (most : Int) :
    Calls Tryz.prog 73 #[.pointer (some ⟨g, 0, none⟩), .string wh, .int .i64 most] w fun e w' =>
      ∃ v, e = .returned v ∧ SliceNew w w' v (stBytes xs wh most s).1 ∧ RdAt w' g A n c xs (stBytes xs wh most s).2 ∧ Fr (fun x => x = g) w w' := by
  have hmf : ∀ (fn : Fn) (first cap : Array Value) (w : World), (Instr.makeFunc fn first cap).run Tryz.prog w = .ok (.func fn first cap) w := fun _ _ _ _ => rfl
  have hf0 : Fr (fun _ => False) w ((w.alloc (.cells #[.pointer (some ⟨g, 0, none⟩)] 68)).alloc (.cells #[.int .i64 most] 3)) := ((Fr.refl _ _).alloc _).alloc _
  have hcells : ((w.alloc (.cells #[.pointer (some ⟨g, 0, none⟩)] 68)).alloc (.cells #[.int .i64 most] 3)).cell? ⟨w.heap.size, 0, none⟩ = some (.pointer (some ⟨g, 0, none⟩)) ∧
      ((w.alloc (.cells #[.pointer (some ⟨g, 0, none⟩)] 68)).alloc (.cells #[.int .i64 most] 3)).cell? ⟨w.heap.size + 1, 0, none⟩ = some (.int .i64 most) ∧
      ((w.alloc (.cells #[.pointer (some ⟨g, 0, none⟩)] 68)).alloc (.cells #[.int .i64 most] 3)).heap.size = w.heap.size + 1 + 1 := by simp [go_sem]
  have HC := Lib.hid hcells
  clear hcells
  cases s with
  | bad er a w0 =>
    obtain ⟨he, p, hr⟩ := h
    have he' : (er == 0) = false := by rw [beq_eq_false_iff_ne]; exact he
    go_enter Tryz.func73, Tryz.ntmps73
    go_wp2_with (go_at_call 82; refine (tryB_bad (hr.quiet hf0) he' wh _).mono ?_; rintro e w1 ⟨rfl, h1⟩)
    go_ret
    have h2 := hf0.trans h1 (fun _ _ h => h)
    exact ⟨_, rfl, ⟨none, 0, rfl, Own8.nil _ _, fun k hk => by simp [Value.ownBlock] at hk⟩, ⟨he, p, hr.quiet h2⟩, h2.mono (fun _ _ h => h.elim)⟩
  | at_ k =>
    obtain ⟨hk, fat, what, hr⟩ := h
    have hs : stBytes xs wh most (.at_ k) = (match (srRun xs k most).1 with | .bad b => ([], .bad b k wh) | .ok k' => ((srRun xs k most).2, .at_ k')) := rfl
    have hbad : ∀ b, (srRun xs k most).1 = .bad b → b ≠ 0 := fun b => srRun_bad
    have hstep : ∀ W, Fr (fun _ => False) ((w.alloc (.cells #[.pointer (some ⟨g, 0, none⟩)] 68)).alloc (.cells #[.int .i64 most] 3)) W →
        Calls Tryz.prog 83 #[.pointer (some ⟨w.heap.size, 0, none⟩), .pointer (some ⟨w.heap.size + 1, 0, none⟩)] W (StepPost W g A n c xs (srRun xs k most).1 (runQ (srRun xs k most).2)) := by
      intro W hW
      obtain ⟨e1, e2, e4⟩ := HC.out
      exact bytes1_any (hr.quiet (hf0.trans hW (fun _ _ h => h))) hk most _ _ ((hW.cell (p := ⟨w.heap.size, 0, none⟩) (by rw [e4]; show w.heap.size < _; omega) (fun h => h)).trans e1) ((hW.cell (p := ⟨w.heap.size + 1, 0, none⟩) (by rw [e4]; show w.heap.size + 1 < _; omega) (fun h => h)).trans e2)
    rw [hs]
    clear hs
    generalize (srRun xs k most).1 = r at *
    generalize (srRun xs k most).2 = v0 at *
    have HS := Lib.hid hstep
    have HB := Lib.hid hbad
    clear hstep hbad
    go_enter Tryz.func73, Tryz.ntmps73
    go_wp2_with fail
    refine (tryB_step (hr.quiet hf0) (ht.fr hf0 (fun h => h)) wh hg _ _ r _ HS.out HB.out (fun _ => by kernel_rfl)).mono ?_
    cases r with
    | bad b =>
      rintro e w1 ⟨rfl, h1, h2⟩
      go_wp2
      go_ret
      exact ⟨_, rfl, ⟨none, 0, rfl, Own8.nil _ _, fun k hk => by simp [Value.ownBlock] at hk⟩, h1, (hf0.mono (fun _ _ h => h.elim)).trans h2 (fun _ _ h => h)⟩
    | ok k' =>
      rintro e w1 ⟨v, W, rfl, h1, h2, hW, ⟨A', c', rfl, ho, hown⟩⟩
      go_wp2
      go_ret
      exact ⟨_, rfl, ⟨A', c', rfl, ho, fun k hk => Nat.le_trans (Nat.le_trans hf0.size hW.size) (hown k hk)⟩, h1, (hf0.mono (fun _ _ h => h.elim)).trans h2 (fun _ _ h => h)⟩

def sEnd : ByteArray := ⟨#[101, 110, 100]⟩
/-- What a reader tells in the end. -/
def stEnd (xs : List UInt8) : St → Option (Int × Int × ByteArray)
  | .bad er a wh => some (er, a, wh)
  | .at_ k => if k < xs.length then some (8, k, sEnd) else none

/-- An error: none, or a Fault in a new block. -/
def ErrIs (w w' : World) (v : Value) : Option (Int × Int × ByteArray) → Prop
  | none => v = .nilIface
  | some (er, a, wh) => ∃ fb, v = .iface 43 (.pointer (some ⟨fb, 0, none⟩)) ∧ Bk w' fb 47 #[.int .i64 er, .int .i64 a, .string wh] ∧ w.heap.size ≤ fb

set_option maxRecDepth 100000 in
set_option maxHeartbeats 1000000 in
theorem rEnd_any {w : World} {g : Nat} {A : Option Addr} {n c : Nat} {xs : List UInt8} {s : St} (h : RdAt w g A n c xs s) :
    Calls Tryz.prog 27 #[.pointer (some ⟨g, 0, none⟩)] w fun e w' => ∃ v, e = .returned v ∧ ErrIs w w' v (stEnd xs s) ∧ Fr (fun _ => False) w w' := by
  cases s with
  | bad er a w0 =>
    obtain ⟨he, p, hr⟩ := h
    have he' : (er == 0) = false := by rw [beq_eq_false_iff_ne]; exact he
    have c2 : w.cell? ⟨g, 2, none⟩ = some (.int .i64 er) := hr.bk.cell 2
    have c3 : w.cell? ⟨g, 3, none⟩ = some (.int .i64 a) := hr.bk.cell 3
    have c4 : w.cell? ⟨g, 4, none⟩ = some (.string w0) := hr.bk.cell 4
    go_enter Tryz.func27, Tryz.ntmps27
    go_wp2_with (go_at_call 55; refine (failed_any hr _ he').mono ?_; rintro e w' ⟨rfl, rfl⟩)
    go_ret
    exact ⟨_, rfl, ⟨_, rfl, Bk.new _ _ _, Nat.le_refl _⟩, (Fr.refl _ _).alloc _⟩
  | at_ k =>
    obtain ⟨hk, fat, what, hr⟩ := h
    have hl := hr.len
    have c0 : w.cell? ⟨g, 0, none⟩ = some (.slice A n c) := hr.bk.cell 0
    have c1 : w.cell? ⟨g, 1, none⟩ = some (.int .i64 k) := hr.bk.cell 1
    by_cases hlt : k < n
    · have hs : stEnd xs (.at_ k) = some ((8 : Int), (k : Int), sEnd) := by simp only [stEnd]; rw [if_pos (by omega)]
      rw [hs]
      clear hs
      go_enter Tryz.func27, Tryz.ntmps27
      go_wp2_with (go_at_call 55; refine (failed_any hr true rfl).mono ?_; rintro e w' ⟨rfl, rfl⟩)
      go_quiet (fail)
      go_wp2
      go_ret
      exact ⟨_, rfl, ⟨_, rfl, Bk.new _ _ _, Nat.le_refl _⟩, ((Fr.refl _ _).drewN _).alloc _⟩
    · have hs : stEnd xs (.at_ k) = none := by simp only [stEnd]; rw [if_neg (by omega)]
      rw [hs]
      clear hs
      have hge : (n : Int) ≤ k := by omega
      go_enter Tryz.func27, Tryz.ntmps27
      go_wp2_with (go_at_call 55; refine (failed_any hr true rfl).mono ?_; rintro e w' ⟨rfl, rfl⟩)
      go_quiet (fail)
      go_wp2
      go_ret
      exact ⟨_, rfl, rfl, (Fr.refl _ _).drewN _⟩

set_option maxRecDepth 100000 in
set_option maxHeartbeats 1000000 in
theorem newReader_any (A : Option Addr) (n c : Nat) (xs : List UInt8) (w : World) (hr : Rd8 w A xs) (hn : xs.length = n) (hb : n ≤ 17592186044416) :
    Calls Tryz.prog 24 #[.slice A n c] w fun e w' => ∃ g A' c', e = .returned (.pointer (some ⟨g, 0, none⟩)) ∧ RdAt w' g A' n c' xs (.at_ 0) ∧ Fr (fun _ => False) w w' ∧ w.heap.size ≤ g := by
  go_enter Tryz.func24, Tryz.ntmps24
  go_wp2_with (go_at_call 20; refine (clone_any A n c xs w hr hn (by omega)).mono ?_; rintro e w1 ⟨A1, c1, rfl, ho1, hf1⟩)
  go_ret
  have hbk := Bk.new w1 108 #[.slice A1 n c1, .int .i64 0, .int .i64 0, .int .i64 0, .string ByteArray.empty]
  have hq : Fr (fun _ => False) w1 (w1.alloc (.cells #[.slice A1 n c1, .int .i64 0, .int .i64 0, .int .i64 0, .string ByteArray.empty] 108)) := (Fr.refl _ _).alloc _
  refine ⟨_, A1, c1, rfl, ⟨Nat.zero_le _, 0, ByteArray.empty, ?_⟩, hf1.1.trans hq (fun _ _ h => h), hf1.1.size⟩
  exact
    { bk := hbk
      rd := (ho1.fr hq (fun _ _ h => h)).rd
      len := hn
      cap := by
        rcases ho1.form with ⟨e, h0⟩ | ⟨g, cap, e, h1, _⟩
        · subst h0; simp at hn; omega
        · injection e with _ _ e; subst e; omega
      big := by omega
      apart := fun ad e _ => by
        subst e
        have := ho1.lt (k := ad.block) rfl
        omega
      spot := fun ad e _ => by
        subst e
        rcases ho1.form with ⟨e, h0⟩ | ⟨g, cap, e, h1, _⟩
        · cases e
        · injection e with e _ _; injection e with e; subst e; rfl }
end Go.Proofs.YtdfkoehcmgcoiaaGreatDoor

/- dedup: what Decode reads, in plain words; what is read lays again as it lay. -/
namespace Go.Proofs.YtdfkoehcmgcoiaaGreatDoor

def tW : ByteArray := ⟨#[116, 97, 98, 108, 101]⟩

/-! ### a number that is read is the one that lays so -/
theorem num_inv : ∀ (f i acc : Nat) (l : List UInt8) (u m : Nat), num f i acc l = .ok u m → ∃ v, u = acc + v * 128 ^ i ∧ l = enc v ++ l.drop (m - i) ∧ (0 < i → 0 < v) ∧ i < m
  | 0, _, _, _, _, _, h => by unfold num at h; cases h
  | _ + 1, _, _, [], _, _, h => by unfold num at h; cases h
  | f + 1, i, acc, c :: l, u, m, h => by
    have hc : c.toNat < 256 := c.toNat_lt
    unfold num at h
    split at h
    · rename_i h1
      obtain ⟨v, e1, e2, e3, e4⟩ := num_inv f _ _ _ _ _ h
      have hv : 0 < v := e3 (by omega)
      refine ⟨c.toNat % 128 + 128 * v, ?_, ?_, fun _ => by omega, by omega⟩
      · rw [e1, Nat.pow_succ, Nat.add_mul, Nat.add_assoc]
        congr 2
        rw [Nat.mul_comm (128 ^ i) 128, ← Nat.mul_assoc, Nat.mul_comm v 128]
      · rw [enc_ge _ (by omega), show (c.toNat % 128 + 128 * v) % 128 + 128 = c.toNat by omega, show (c.toNat % 128 + 128 * v) / 128 = v by omega, UInt8.ofNat_toNat, List.cons_append, show m - i = (m - (i + 1)) + 1 by omega, List.drop_succ_cons, ← e2]
    · rename_i h1
      split at h
      · cases h
      · rename_i h2
        injection h with h3 h4
        subst h3 h4
        refine ⟨c.toNat, rfl, ?_, fun hi => ?_, by omega⟩
        · rw [enc_lt _ (by omega), UInt8.ofNat_toNat, show i + 1 - i = 1 by omega]; rfl
        · have : ¬ c.toNat = 0 := fun e => h2 (.inl ⟨hi, e⟩)
          omega
theorem rdNum_inv {l : List UInt8} {u m : Nat} (h : rdNum l = .ok u m) : l = enc u ++ l.drop m := by
  obtain ⟨v, e1, e2, _, _⟩ := num_inv _ _ _ _ _ _ h
  have : u = v := by rw [e1]; simp
  subst this
  simpa using e2
theorem foldN_unfN (u : Nat) : foldN (unfN u) = u := by unfold unfN foldN; split <;> split <;> omega

/-- What is read of a number in bounds. -/
theorem between_cases (xs : List UInt8) (wh : ByteArray) (lo hi : Int) (s : St) :
    (∃ k k', s = .at_ k ∧ (stBetween xs wh lo hi s).2 = .at_ k' ∧ lo ≤ (stBetween xs wh lo hi s).1 ∧ (stBetween xs wh lo hi s).1 ≤ hi ∧ xs.drop k = eI (stBetween xs wh lo hi s).1 ++ xs.drop k')
    ∨ ((stBetween xs wh lo hi s).1 = 0 ∧ ∃ er a w0, (stBetween xs wh lo hi s).2 = .bad er a w0) := by
  cases s with
  | bad er a w0 => exact .inr ⟨rfl, er, a, w0, rfl⟩
  | at_ k =>
    cases hN : rdNum (xs.drop k) with
    | bad b =>
      have e : stBetween xs wh lo hi (.at_ k) = (0, .bad b k wh) := by simp [stBetween, srWithin, hN]
      rw [e]; exact .inr ⟨rfl, _, _, _, rfl⟩
    | ok u m =>
      by_cases hr : unfN u < lo ∨ hi < unfN u
      · have e : stBetween xs wh lo hi (.at_ k) = (0, .bad 8 k wh) := by simp only [stBetween, srWithin, hN, if_pos hr]
        rw [e]; exact .inr ⟨rfl, _, _, _, rfl⟩
      · have e : stBetween xs wh lo hi (.at_ k) = (unfN u, .at_ (k + m)) := by simp only [stBetween, srWithin, hN, if_neg hr]
        rw [e]
        refine .inl ⟨k, k + m, rfl, rfl, by simp only; omega, by simp only; omega, ?_⟩
        have := rdNum_inv hN
        rw [List.drop_drop] at this
        simp only [eI, foldN_unfN]
        exact this
theorem bytes_cases (xs : List UInt8) (wh : ByteArray) (most : Int) (s : St) :
    (∃ k k', s = .at_ k ∧ (stBytes xs wh most s).2 = .at_ k' ∧ xs.drop k = eB (stBytes xs wh most s).1 ++ xs.drop k')
    ∨ ((stBytes xs wh most s).1 = [] ∧ ∃ er a w0, (stBytes xs wh most s).2 = .bad er a w0) := by
  cases s with
  | bad er a w0 => exact .inr ⟨rfl, er, a, w0, rfl⟩
  | at_ k =>
    cases hN : rdNum (xs.drop k) with
    | bad b =>
      have e : stBytes xs wh most (.at_ k) = ([], .bad b k wh) := by simp [stBytes, srRun, hN]
      rw [e]; exact .inr ⟨rfl, _, _, _, rfl⟩
    | ok u m =>
      by_cases h1 : unfN u < 0
      · have e : stBytes xs wh most (.at_ k) = ([], .bad 8 k wh) := by simp only [stBytes, srRun, hN, if_pos h1]
        rw [e]; exact .inr ⟨rfl, _, _, _, rfl⟩
      by_cases h2 : most < unfN u
      · have e : stBytes xs wh most (.at_ k) = ([], .bad 10 k wh) := by simp only [stBytes, srRun, hN, if_neg h1, if_pos h2]
        rw [e]; exact .inr ⟨rfl, _, _, _, rfl⟩
      by_cases h3 : (xs.length : Int) - (k + m : Nat) < unfN u
      · have e : stBytes xs wh most (.at_ k) = ([], .bad 7 k wh) := by simp only [stBytes, srRun, hN, if_neg h1, if_neg h2, if_pos h3]
        rw [e]; exact .inr ⟨rfl, _, _, _, rfl⟩
      have e : stBytes xs wh most (.at_ k) = ((xs.drop (k + m)).take (unfN u).toNat, .at_ (k + m + (unfN u).toNat)) := by simp only [stBytes, srRun, hN, if_neg h1, if_neg h2, if_neg h3]
      rw [e]
      refine .inl ⟨k, k + m + (unfN u).toNat, rfl, rfl, ?_⟩
      have := rdNum_inv hN
      rw [List.drop_drop] at this
      have hl : ((xs.drop (k + m)).take (unfN u).toNat).length = (unfN u).toNat := by rw [List.length_take, List.length_drop]; omega
      have hu : 2 * (unfN u).toNat = u := by unfold unfN at h1 ⊢; split at h1 <;> split <;> omega
      have e9 := (List.take_append_drop (unfN u).toNat (xs.drop (k + m))).symm
      rw [List.drop_drop] at e9
      simp only [eB, hl, hu]
      rw [List.append_assoc, ← e9]
      exact this

/-! ### what Decode does -/
def rowL (xs : List UInt8) (c top : Int) : Nat → Int → DT → St → Bool × DT × St
  | 0, _, t, s => (true, t, s)
  | k + 1, least, t, s =>
    if (stBetween xs tW (if k = 0 then top else least) (top - k) s).1 = 0 then (false, t, (stBytes xs tW 33554432 (stBetween xs tW (if k = 0 then top else least) (top - k) s).2).2)
    else rowL xs c top k ((stBetween xs tW (if k = 0 then top else least) (top - k) s).1 + 1) (t.keep c (stBetween xs tW (if k = 0 then top else least) (top - k) s).1 (stBytes xs tW 33554432 (stBetween xs tW (if k = 0 then top else least) (top - k) s).2).1) (stBytes xs tW 33554432 (stBetween xs tW (if k = 0 then top else least) (top - k) s).2).2
def rowTop (xs : List UInt8) (s : St) : Int × St := stBetween xs tW 1 1099511627776 s
def rowCnt (xs : List UInt8) (t : DT) (s : St) : Int × St := stBetween xs tW 1 t.win (rowTop xs s).2
def rowR (xs : List UInt8) (c : Int) (t : DT) (s : St) : Bool × DT × St := rowL xs c (rowTop xs s).1 (rowCnt xs t s).1.toNat (max 1 ((rowTop xs s).1 - t.win + 1)) t (rowCnt xs t s).2
def rowT (xs : List UInt8) (c : Int) (t : DT) (s : St) : Bool × DT × St := ((rowR xs c t s).1 && decide (0 < (rowCnt xs t s).1), (rowR xs c t s).2)
def readL (xs : List UInt8) : Nat → Int → DT → St → DT × St
  | 0, _, t, s => (t, s)
  | k + 1, least, t, s =>
    if (rowT xs (stBetween xs tW least 1048576 s).1 t (stBetween xs tW least 1048576 s).2).1 = false then (rowT xs (stBetween xs tW least 1048576 s).1 t (stBetween xs tW least 1048576 s).2).2
    else readL xs k ((stBetween xs tW least 1048576 s).1 + 1) (rowT xs (stBetween xs tW least 1048576 s).1 t (stBetween xs tW least 1048576 s).2).2.1 (rowT xs (stBetween xs tW least 1048576 s).1 t (stBetween xs tW least 1048576 s).2).2.2
def decW (xs : List UInt8) : Int × St := stBetween xs tW 1 4096 (.at_ 0)
def decN (xs : List UInt8) (s : St) : Int × St := stBetween xs tW 0 1048577 s
def decS (xs : List UInt8) : DT × St := readL xs (decN xs (decW xs).2).1.toNat 0 (newT (decW xs).1) (decN xs (decW xs).2).2

/-! ### a place behind all -/
theorem posR_all : ∀ {r : List Int} {s : Int}, (∀ x ∈ r, x < s) → posR r s = r.length := fun h => by
  unfold posR
  rw [List.countP_eq_length]
  intro x hx; simpa using h x hx
theorem ins_all {r : List Int} {s : Int} (h : ∀ x ∈ r, x < s) : insS r s = r ++ [s] := by
  unfold insS; rw [posR_all h]; simp

/-- What holds of a table and a reader amid a row of a client. -/
structure Amid (t : DT) (c top least : Int) : Prop where
  ok : t.ok
  cr : 0 ≤ c ∧ c ≤ 1048576
  lt : ∀ x ∈ t.row c, x < least
  inw : ∀ x ∈ t.row c, top - t.win < x
  l1 : 1 ≤ least
  lw : top - t.win < least
  tm : top ≤ 1099511627776
  cs : ∀ x ∈ t.cs, x ≤ c
theorem Amid.not {t : DT} {c top least q : Int} (h : Amid t c top least) (hq : least ≤ q) : q ∉ t.row c := fun hm => by
  have := h.lt q hm; omega
theorem Amid.may {t : DT} {c top least q : Int} (h : Amid t c top least) (hq : least ≤ q) (hq2 : q ≤ top) : mayR c q = true := by
  have := h.cr; have := h.l1; have := h.tm
  exact DT.mayR_iff.2 ⟨by omega, by omega, by omega, by omega⟩
theorem Amid.row {t : DT} {c top least q : Int} (h : Amid t c top least) (a : List UInt8) (hq : least ≤ q) : (t.keep c q a).row c = t.row c ++ [q] := by
  show (if c = c then insS (t.row c) q else t.row c) = _
  rw [if_pos rfl, ins_all (fun x hx => by have := h.lt x hx; omega)]
theorem Amid.keep {t : DT} {c top least q : Int} (h : Amid t c top least) (a : List UInt8) (hq : least ≤ q) (hq2 : q ≤ top) : Amid (t.keep c q a) c top (q + 1) := by
  have hm := h.may hq hq2
  have hn := h.not hq
  have h0 := h.ok.took0.keep a hm hn
  have hr := h.row a hq
  have hl1 := h.l1
  have hlw := h.lw
  refine ⟨⟨h0, fun x y hy => ?_⟩, h.cr, fun x hx => ?_, fun x hx => ?_, by omega, by show top - t.win < q + 1; omega, h.tm, fun x hx => ?_⟩
  · show (t.keep c q a).top x - t.win < y
    by_cases hx : x = c
    · subst hx
      rw [DT.keep_top h.ok.took0 a hm hn]
      rw [hr, List.mem_append, List.mem_singleton] at hy
      have h1 : t.top x ≤ q := by
        unfold DT.top
        by_cases hr0 : t.row x = []
        · rw [hr0]; simp [topR]; omega
        · have := h.lt _ (topR_mem hr0); omega
      rcases hy with hy | rfl
      · have := h.inw y hy; omega
      · omega
    · rw [DT.keep_top' a hx]
      have : (t.keep c q a).row x = t.row x := by show (if x = c then _ else _) = _; rw [if_neg hx]
      rw [this] at hy
      exact h.ok.inw x y hy
  · rw [hr, List.mem_append, List.mem_singleton] at hx
    rcases hx with hx | rfl
    · have := h.lt x hx; omega
    · omega
  · rw [hr, List.mem_append, List.mem_singleton] at hx
    show top - t.win < x
    rcases hx with hx | rfl
    · exact h.inw x hx
    · omega
  · replace hx : x ∈ (if c ∈ t.cs then t.cs else insS t.cs c) := hx
    split at hx
    · exact h.cs x hx
    · rcases (mem_ins _ _).1 hx with rfl | hx
      · omega
      · exact h.cs x hx

/-- What a row that was read whole has made of a table. -/
structure RowTo (c top : Int) (t t' : DT) (qs : List Int) : Prop where
  win : t'.win = t.win
  row : t'.row c = t.row c ++ qs
  other : ∀ x, x ≠ c → t'.row x = t.row x
  ans : ∀ x y, x ≠ c ∨ y ∈ t.row c → t'.ans x y = t.ans x y
  cs : t'.cs = if qs = [] ∨ c ∈ t.cs then t.cs else t.cs ++ [c]
  last : qs ≠ [] → qs.getLast? = some top

/-- A row: whatever comes of it, the table is one; if the reader is at a place behind it, all was read. -/
theorem rowL_to (xs : List UInt8) (c top : Int) : ∀ (k : Nat) (least : Int) (t : DT) (s : St), Amid t c top least → (0 < k → least ≤ top) →
    ((rowL xs c top k least t s).2.1.ok ∧ ∀ x ∈ (rowL xs c top k least t s).2.1.cs, x ≤ c) ∧ ∀ j', (rowL xs c top k least t s).2.2 = .at_ j' → (rowL xs c top k least t s).1 = true ∧ ∃ j qs, s = .at_ j ∧ qs.length = k ∧ RowTo c top t (rowL xs c top k least t s).2.1 qs ∧
      xs.drop j = qs.flatMap (fun q => eI q ++ eB ((rowL xs c top k least t s).2.1.ans c q)) ++ xs.drop j'
  | 0, _, t, s, h, _ => ⟨⟨h.ok, h.cs⟩, fun j' hj => ⟨rfl, j', [], hj, rfl, ⟨rfl, by simp [rowL], fun _ _ => rfl, fun _ _ _ => rfl, by simp [rowL], fun h => absurd rfl h⟩, rfl⟩⟩
  | k + 1, least, t, s, h, hlt => by
    have hc := between_cases xs tW (if k = 0 then top else least) (top - k) s
    have hd := bytes_cases xs tW 33554432 (stBetween xs tW (if k = 0 then top else least) (top - k) s).2
    unfold rowL
    generalize stBetween xs tW (if k = 0 then top else least) (top - k) s = B at *
    generalize stBytes xs tW 33554432 B.2 = Y at *
    obtain ⟨q, s1⟩ := B
    obtain ⟨a, s2⟩ := Y
    simp only at *
    by_cases hq : q = 0
    · rw [if_pos hq]
      refine ⟨⟨h.ok, h.cs⟩, fun j' hj => ?_⟩
      simp only at hj
      exfalso
      rcases hd with ⟨k1, k2, e1, _⟩ | ⟨_, er, a0, w0, e⟩
      · rcases hc with ⟨_, _, _, _, e5, e6, _⟩ | ⟨_, er, a0, w0, e⟩
        · have := h.l1
          split at e5
          · omega
          · omega
        · rw [e] at e1; cases e1
      · rw [e] at hj; cases hj
    · rw [if_neg hq]
      rcases hc with ⟨k1, k2, e1, e2, e3, e4, e5⟩ | ⟨e, _⟩
      rotate_left
      · exact absurd e hq
      have hle : least ≤ q ∨ (k = 0 ∧ q = top) := by
        split at e3
        · rename_i hk; exact .inr ⟨hk, by subst hk; simp at e4; omega⟩
        · exact .inl e3
      have hlq : least ≤ q := by
        have := hlt (by omega)
        rcases hle with h1 | ⟨_, h1⟩ <;> omega
      have hA := h.keep a hlq (by omega)
      obtain ⟨r1, r2⟩ := rowL_to xs c top k (q + 1) (t.keep c q a) s2 hA (fun hk => by omega)
      refine ⟨r1, fun j' hj => ?_⟩
      obtain ⟨b1, j, qs, f1, f2, f3, f4⟩ := r2 j' hj
      rcases hd with ⟨k3, k4, g1, g2, g3⟩ | ⟨_, er, a0, w0, g⟩
      rotate_left
      · rw [g] at f1; cases f1
      rw [e2] at g1; injection g1 with g1; subst g1
      rw [g2] at f1; injection f1 with f1; subst f1
      have hrow := h.row a hlq
      have hans : (rowL xs c top k (q + 1) (t.keep c q a) s2).2.1.ans c q = a := by
        rw [f3.ans c q (.inr (by rw [hrow]; simp))]
        show (if c = c ∧ q = q then a else _) = a
        simp
      refine ⟨b1, k1, q :: qs, e1, by simp [f2], ⟨f3.win, ?_, fun x hx => ?_, fun x y hxy => ?_, ?_, fun _ => ?_⟩, ?_⟩
      · rw [f3.row, hrow]; simp
      · rw [f3.other x hx]; show (if x = c then _ else _) = _; rw [if_neg hx]
      · have hne : ¬ (x = c ∧ y = q) := by
          rintro ⟨rfl, rfl⟩
          rcases hxy with hx | hy
          · exact hx rfl
          · exact h.not hlq hy
        rw [f3.ans x y (hxy.imp id (fun hy => by rw [hrow]; simp [hy]))]
        show (if x = c ∧ y = q then a else _) = _
        rw [if_neg hne]
      · have e0 : (t.keep c q a).cs = if c ∈ t.cs then t.cs else t.cs ++ [c] := by
          show (if c ∈ t.cs then t.cs else insS t.cs c) = _
          by_cases hm : c ∈ t.cs
          · rw [if_pos hm, if_pos hm]
          · rw [if_neg hm, if_neg hm, ins_all (fun x hx => by have := h.cs x hx; have : x ≠ c := fun e => hm (e ▸ hx); omega)]
        have hin : c ∈ (t.keep c q a).cs := by rw [e0]; split <;> simp [*]
        rw [f3.cs, if_pos (.inr hin), e0]
        simp
      · cases hqs : qs with
        | nil =>
          rw [hqs] at f2
          have hk0 : k = 0 := by simpa using f2.symm
          rw [if_pos hk0] at e3
          have : q = top := by subst hk0; simp at e4; omega
          subst this; rfl
        | cons y l => rw [List.getLast?_cons_cons, ← hqs]; exact f3.last (by rw [hqs]; simp)
      · rw [List.flatMap_cons, hans, e5, g3, f4]
        simp only [List.append_assoc]
end Go.Proofs.YtdfkoehcmgcoiaaGreatDoor

/- dedup: what Decode reads whole: its bytes are those that Encode lays. -/
namespace Go.Proofs.YtdfkoehcmgcoiaaGreatDoor

theorem between_bad (xs : List UInt8) (wh : ByteArray) (lo hi : Int) {s : St} (h : ∃ er a w0, s = .bad er a w0) : (stBetween xs wh lo hi s).1 = 0 ∧ ∃ er a w0, (stBetween xs wh lo hi s).2 = .bad er a w0 := by
  obtain ⟨er, a, w0, rfl⟩ := h
  exact ⟨rfl, er, a, w0, rfl⟩
theorem rowR_zero {xs : List UInt8} {c : Int} {t : DT} {s : St} (h : (rowCnt xs t s).1 = 0) : rowR xs c t s = (true, t, (rowCnt xs t s).2) := by
  unfold rowR; rw [h]; rfl
theorem rowT_zero {xs : List UInt8} {c : Int} {t : DT} {s : St} (h : (rowCnt xs t s).1 = 0) : rowT xs c t s = (false, t, (rowCnt xs t s).2) := by
  unfold rowT; rw [rowR_zero h, h]; rfl
theorem rowCnt_bad {xs : List UInt8} {t : DT} {s : St} (h : ∃ er a w0, (rowTop xs s).2 = .bad er a w0) : (rowCnt xs t s).1 = 0 ∧ ∃ er a w0, (rowCnt xs t s).2 = .bad er a w0 := between_bad _ _ _ _ h
theorem rowT_bad (xs : List UInt8) (c : Int) (t : DT) {s : St} (h : ∃ er a w0, s = .bad er a w0) : (rowT xs c t s).1 = false ∧ (rowT xs c t s).2.1 = t ∧ ∃ er a w0, (rowT xs c t s).2.2 = .bad er a w0 := by
  have h2 := rowCnt_bad (t := t) (between_bad xs tW 1 1099511627776 h).2
  rw [rowT_zero h2.1]
  exact ⟨rfl, rfl, h2.2⟩

/-- The bytes of a client. -/
def rowE (t : DT) (c : Int) : List UInt8 := headE t c ++ (t.row c).flatMap (fun q => eI q ++ eB (t.ans c q))

theorem rowT_to (xs : List UInt8) {c : Int} {t : DT} (s : St) (ok : t.ok) (hc : 0 ≤ c ∧ c ≤ 1048576) (hcs : ∀ x ∈ t.cs, x < c) :
    ((rowT xs c t s).2.1.ok ∧ ∀ x ∈ (rowT xs c t s).2.1.cs, x ≤ c) ∧ ∀ j', (rowT xs c t s).2.2 = .at_ j' → (rowT xs c t s).1 = true ∧ ∃ j qs, s = .at_ j ∧ qs ≠ [] ∧ RowTo c (rowTop xs s).1 t (rowT xs c t s).2.1 qs ∧
      eI c ++ xs.drop j = rowE (rowT xs c t s).2.1 c ++ xs.drop j' := by
  have hr0 : t.row c = [] := by
    cases hr : t.row c with
    | nil => rfl
    | cons x r => have := hcs c ((ok.cl c).2 (by rw [hr]; simp)); omega
  have hcs' : ∀ x ∈ t.cs, x ≤ c := fun x hx => by have := hcs x hx; omega
  have h1 := between_cases xs tW 1 1099511627776 s
  have h2 := between_cases xs tW 1 t.win (rowTop xs s).2
  have bad : (∃ er a w0, (rowCnt xs t s).2 = .bad er a w0) → (rowCnt xs t s).1 = 0 → ((rowT xs c t s).2.1.ok ∧ ∀ x ∈ (rowT xs c t s).2.1.cs, x ≤ c) ∧ ∀ j', (rowT xs c t s).2.2 = .at_ j' → (rowT xs c t s).1 = true ∧ ∃ j qs, s = .at_ j ∧ qs ≠ [] ∧ RowTo c (rowTop xs s).1 t (rowT xs c t s).2.1 qs ∧
      eI c ++ xs.drop j = rowE (rowT xs c t s).2.1 c ++ xs.drop j' := by
    rintro ⟨er, a, w0, e⟩ e0
    rw [rowT_zero e0]
    refine ⟨⟨ok, hcs'⟩, fun j' hj => ?_⟩
    simp only at hj
    rw [e] at hj; cases hj
  rcases h2 with ⟨k2, k2', e2, e2', l2, u2, d2⟩ | ⟨e2, er, a, w0, e2'⟩
  rotate_left
  · exact bad ⟨er, a, w0, e2'⟩ e2
  rcases h1 with ⟨k1, k1', e1, e1', l1, u1, d1⟩ | ⟨_, er, a, w0, e1'⟩
  rotate_left
  · have := (rowCnt_bad (xs := xs) (t := t) (s := s) ⟨er, a, w0, e1'⟩)
    exact bad this.2 this.1
  have e3 : k1' = k2 := by
    have : (rowTop xs s).2 = .at_ k1' := e1'
    rw [this] at e2; injection e2
  subst e3
  have hw := ok.w1
  change 1 ≤ (rowTop xs s).1 at l1
  change (rowTop xs s).1 ≤ 1099511627776 at u1
  change 1 ≤ (rowCnt xs t s).1 at l2
  change (rowCnt xs t s).1 ≤ t.win at u2
  change xs.drop k1 = eI (rowTop xs s).1 ++ xs.drop k1' at d1
  change xs.drop k1' = eI (rowCnt xs t s).1 ++ xs.drop k2' at d2
  change (rowCnt xs t s).2 = .at_ k2' at e2'
  have hA : Amid t c (rowTop xs s).1 (max 1 ((rowTop xs s).1 - t.win + 1)) := ⟨ok, hc, fun x hx => by rw [hr0] at hx; simp at hx, fun x hx => by rw [hr0] at hx; simp at hx, by omega, by omega, u1, hcs'⟩
  obtain ⟨r1, r2⟩ := rowL_to xs c (rowTop xs s).1 (rowCnt xs t s).1.toNat _ t (rowCnt xs t s).2 hA (fun _ => by omega)
  refine ⟨r1, fun j' hj => ?_⟩
  obtain ⟨b1, j, qs, f1, f2, f3, f4⟩ := r2 j' hj
  rw [e2'] at f1; injection f1 with f1; subst f1
  replace f3 : RowTo c (rowTop xs s).1 t (rowT xs c t s).2.1 qs := f3
  replace f4 : xs.drop k2' = qs.flatMap (fun q => eI q ++ eB ((rowT xs c t s).2.1.ans c q)) ++ xs.drop j' := f4
  have hq : qs ≠ [] := fun e => by rw [e] at f2; simp at f2; omega
  refine ⟨by show ((rowR xs c t s).1 && _) = true; rw [Bool.and_eq_true]; exact ⟨b1, by simp; omega⟩, k1, qs, e1, hq, f3, ?_⟩
  have hrow : (rowT xs c t s).2.1.row c = qs := by have := f3.row; rw [hr0] at this; simpa using this
  have htop : (rowT xs c t s).2.1.top c = (rowTop xs s).1 := by
    unfold DT.top topR; rw [hrow, f3.last hq]; rfl
  have hlen : (((rowT xs c t s).2.1.row c).length : Int) = (rowCnt xs t s).1 := by rw [hrow, f2]; omega
  unfold rowE headE
  rw [htop, hlen, hrow, d1, d2, f4]
  simp [List.flatMap_cons, List.append_assoc]

theorem rowE_congr {t t' : DT} {c : Int} (h : t'.row c = t.row c) (ha : ∀ y ∈ t.row c, t'.ans c y = t.ans c y) : rowE t' c = rowE t c := by
  unfold rowE headE DT.top
  rw [h]
  congr 1
  have : ∀ l : List Int, (∀ y ∈ l, t'.ans c y = t.ans c y) → l.flatMap (fun q => eI q ++ eB (t'.ans c q)) = l.flatMap (fun q => eI q ++ eB (t.ans c q)) := by
    intro l
    induction l with
    | nil => intro _; rfl
    | cons y l ih =>
      intro hl
      rw [List.flatMap_cons, List.flatMap_cons, hl y (by simp), ih (fun z hz => hl z (by simp [hz]))]
  exact this _ ha

theorem readL_to (xs : List UInt8) : ∀ (k : Nat) (least : Int) (t : DT) (s : St), t.ok → 0 ≤ least → (∀ x ∈ t.cs, x < least) →
    (readL xs k least t s).1.ok ∧ ∀ j', (readL xs k least t s).2 = .at_ j' → ∃ j cs, s = .at_ j ∧ cs.length = k ∧ (readL xs k least t s).1.cs = t.cs ++ cs ∧ (readL xs k least t s).1.win = t.win ∧
      (∀ x ∈ t.cs, (readL xs k least t s).1.row x = t.row x ∧ ∀ y ∈ t.row x, (readL xs k least t s).1.ans x y = t.ans x y) ∧ xs.drop j = cs.flatMap (rowE (readL xs k least t s).1) ++ xs.drop j'
  | 0, _, t, s, ok, _, _ => ⟨ok, fun j' hj => ⟨j', [], hj, rfl, by simp [readL], rfl, fun _ _ => ⟨rfl, fun _ _ => rfl⟩, rfl⟩⟩
  | k + 1, least, t, s, ok, h0, hl => by
    have hb := between_cases xs tW least 1048576 s
    unfold readL
    generalize stBetween xs tW least 1048576 s = B at *
    obtain ⟨c, s1⟩ := B
    simp only at *
    rcases hb with ⟨k1, k1', e1, e1', l1, u1, d1⟩ | ⟨e1, hbad⟩
    rotate_left
    · obtain ⟨g1, g2, er, a, w0, g3⟩ := rowT_bad xs c t hbad
      rw [if_pos g1]
      refine ⟨by rw [g2]; exact ok, fun j' hj => ?_⟩
      rw [g3] at hj; cases hj
    have hT := rowT_to xs (c := c) s1 ok ⟨by omega, u1⟩ (fun x hx => by have := hl x hx; omega)
    generalize rowT xs c t s1 = T at *
    obtain ⟨b, t1, s2⟩ := T
    simp only at *
    obtain ⟨⟨g1, g2⟩, g3⟩ := hT
    by_cases hbf : b = false
    · rw [if_pos hbf]
      refine ⟨g1, fun j' hj => ?_⟩
      have := (g3 j' hj).1
      rw [hbf] at this; cases this
    rw [if_neg hbf]
    obtain ⟨r1, r2⟩ := readL_to xs k (c + 1) t1 s2 g1 (by omega) (fun x hx => by have := g2 x hx; omega)
    refine ⟨r1, fun j' hj => ?_⟩
    obtain ⟨j, cs, f1, f2, f3, f4, f5, f6⟩ := r2 j' hj
    obtain ⟨_, j2, qs, p1, p2, p3, p4⟩ := g3 j f1
    have hcn : c ∉ t.cs := fun hm => by have := hl c hm; omega
    have hcs1 : t1.cs = t.cs ++ [c] := by rw [p3.cs, if_neg (fun h => h.elim p2 hcn)]
    rw [e1'] at p1; injection p1 with p1; subst p1
    have hc1 := f5 c (by rw [hcs1]; simp)
    refine ⟨k1, c :: cs, e1, by simp [f2], by rw [f3, hcs1]; simp, by rw [f4, p3.win], fun x hx => ?_, ?_⟩
    · have hxc : x ≠ c := fun e => hcn (e ▸ hx)
      have h5 := f5 x (by rw [hcs1]; simp [hx])
      have ho := p3.other x hxc
      refine ⟨by rw [h5.1, ho], fun y hy => ?_⟩
      rw [h5.2 y (by rw [ho]; exact hy), p3.ans x y (.inl hxc)]
    · rw [d1, p4, f6, List.flatMap_cons, rowE_congr hc1.1 hc1.2, List.append_assoc]

theorem rows_lay {t : DT} (ok : t.ok) : t.lst.flatMap (stepE t) = t.cs.flatMap (rowE t) := by
  have h1 : ∀ c, t.row c ≠ [] → ((t.row c).map fun s => (c, s)).flatMap (stepE t) = rowE t c := by
    intro c hr
    unfold rowE
    have hri := ok.rise c
    have hst : ∀ s, stepE t (c, s) = (if (t.row c)[0]? = some s then headE t c else []) ++ (eI s ++ eB (t.ans c s)) := fun _ => rfl
    have : ∀ l : List Int, (∀ y ∈ l, (t.row c)[0]? ≠ some y) → (l.map fun s => (c, s)).flatMap (stepE t) = l.flatMap (fun q => eI q ++ eB (t.ans c q)) := by
      intro l
      induction l with
      | nil => intro _; rfl
      | cons y l ih =>
        intro hl
        rw [List.map_cons, List.flatMap_cons, List.flatMap_cons, hst, if_neg (hl y (by simp)), ih (fun z hz => hl z (by simp [hz]))]
        rfl
    cases hrc : t.row c with
    | nil => exact absurd hrc hr
    | cons x r =>
      rw [List.map_cons, List.flatMap_cons, List.flatMap_cons, hst, if_pos (by rw [hrc]; rfl), this r (fun y hy e => by
        rw [hrc] at e hri
        have : x = y := by simpa using e
        have := (List.pairwise_cons.1 hri).1 y hy; omega)]
      simp only [List.append_assoc]
  have h2 : ∀ l : List Int, (∀ c ∈ l, t.row c ≠ []) → (l.flatMap fun c => (t.row c).map fun s => (c, s)).flatMap (stepE t) = l.flatMap (rowE t) := by
    intro l
    induction l with
    | nil => intro _; rfl
    | cons c l ih =>
      intro hl
      rw [List.flatMap_cons, List.flatMap_append, List.flatMap_cons, h1 c (hl c (by simp)), ih (fun z hz => hl z (by simp [hz]))]
  exact h2 _ (fun c hc => (ok.cl c).1 hc)

/-- What Decode reads to its end is what Encode lays of it. -/
theorem decS_to (xs : List UInt8) {j : Nat} (h : (decS xs).2 = .at_ j) : (decS xs).1.ok ∧ xs = encT (decS xs).1 ++ xs.drop j := by
  have h1 := between_cases xs tW 1 4096 (.at_ 0)
  have h2 := between_cases xs tW 0 1048577 (decW xs).2
  rcases h2 with ⟨k2, k2', e2, e2', l2, u2, d2⟩ | ⟨e2, er, a, w0, e2'⟩
  rotate_left
  · exfalso
    have e3 : (decN xs (decW xs).2).1 = 0 := e2
    unfold decS at h
    rw [e3] at h
    have : (decN xs (decW xs).2).2 = .at_ j := h
    rw [show (decN xs (decW xs).2).2 = .bad er a w0 from e2'] at this
    cases this
  rcases h1 with ⟨k1, k1', e1, e1', l1, u1, d1⟩ | ⟨_, er, a, w0, e1'⟩
  rotate_left
  · exfalso
    rw [show (decW xs).2 = .bad er a w0 from e1'] at e2; cases e2
  injection e1 with e1; subst e1
  rw [show (decW xs).2 = .at_ k1' from e1'] at e2; injection e2 with e2; subst e2
  obtain ⟨r1, r2⟩ := readL_to xs (decN xs (decW xs).2).1.toNat 0 (newT (decW xs).1) (decN xs (decW xs).2).2 (newT_ok l1 u1) (by omega) (fun x hx => by simp [newT] at hx)
  replace r1 : (decS xs).1.ok := r1
  refine ⟨r1, ?_⟩
  obtain ⟨j2, cs, f1, f2, f3, f4, _, f6⟩ := r2 j h
  rw [show (decN xs (decW xs).2).2 = .at_ k2' from e2'] at f1; injection f1 with f1; subst f1
  replace f3 : (decS xs).1.cs = [] ++ cs := f3
  have hcs : (decS xs).1.cs = cs := by simpa using f3
  have hwin : (decS xs).1.win = (decW xs).1 := f4
  have hn : ((decS xs).1.cs.length : Int) = (decN xs (decW xs).2).1 := by rw [hcs, f2]; change 0 ≤ (decN xs (decW xs).2).1 at l2; omega
  unfold encT
  rw [rows_lay r1, hwin, hn, hcs]
  have d1' : xs = eI (decW xs).1 ++ xs.drop k1' := d1
  have d2' : xs.drop k1' = eI (decN xs (decW xs).2).1 ++ xs.drop k2' := d2
  have f6' : xs.drop k2' = cs.flatMap (rowE (decS xs).1) ++ xs.drop j := f6
  conv => lhs; rw [d1', d2', f6']
  simp [List.flatMap_cons, List.append_assoc]

theorem flat_le {α : Type} (f : α → List UInt8) : ∀ (l : List α), (∀ p ∈ l, (f p).length ≤ (l.flatMap f).length) ∧ ((∀ p ∈ l, 1 ≤ (f p).length) → l.length ≤ (l.flatMap f).length)
  | [] => by simp
  | p :: l => by
    obtain ⟨h1, h2⟩ := flat_le f l
    rw [List.flatMap_cons, List.length_append]
    refine ⟨fun q hq => ?_, fun h => ?_⟩
    · rcases List.mem_cons.1 hq with rfl | hq
      · omega
      · have := h1 q hq; omega
    · have := h2 (fun q hq => h q (by simp [hq]))
      have := h p (by simp)
      rw [List.length_cons]; omega
theorem stepE_pos (t : DT) (p : Int × Int) : 1 ≤ (stepE t p).length ∧ (t.ans p.1 p.2).length ≤ (stepE t p).length := by
  unfold stepE eI eB
  have := enc_pos (foldN p.2)
  simp only [List.length_append]
  omega
theorem small_of {t : DT} (ok : t.ok) {B : Nat} (h : (encT t).length ≤ B) : t.small B ∧ t.n ≤ B := by
  have hl := flat_le (stepE t) t.lst
  have he : (t.lst.flatMap (stepE t)).length ≤ B := by unfold encT at h; rw [List.length_append] at h; omega
  refine ⟨fun c s hs => ?_, ?_⟩
  · have h1 := hl.1 (c, s) (mem_lst.2 ⟨(ok.cl c).2 (List.ne_nil_of_mem hs), hs⟩)
    have h2 := (stepE_pos t (c, s)).2
    simp only at h2
    omega
  · rw [← lst_len]
    have := hl.2 (fun p _ => (stepE_pos t p).1)
    omega
end Go.Proofs.YtdfkoehcmgcoiaaGreatDoor

/- dedup: readRow. -/
namespace Go.Proofs.YtdfkoehcmgcoiaaGreatDoor
open Go.RowKit Go.Maps

/-- A table and a reader beside it: the table's blocks lie from B on, the reader's below. -/
structure TRd (B : Nat) (w : World) (gt gr : Nat) (F : Nat → Prop) (A : Option Addr) (n cp : Nat) (xs : List UInt8) (t : DT) (s : St) : Prop where
  tab : Tab w gt F t
  rd : RdAt w gr A n cp xs s
  et : ErrT w
  ge : gr ≠ 0
  lr : gr < B
  le : 0 < B
  la : ∀ ad, A = some ad → 0 < n → ad.block < B
  fb : ∀ k, F k → B ≤ k
  bw : B ≤ w.heap.size

section
variable {B : Nat} {w : World} {gt gr : Nat} {F : Nat → Prop} {A : Option Addr} {n cp : Nat} {xs : List UInt8} {t : DT} {s : St}
theorem TRd.fr0 (h : TRd B w gt gr F A n cp xs t s) {w' : World} (hf : Fr (fun _ => False) w w') : TRd B w' gt gr F A n cp xs t s :=
  { h with tab := h.tab.fr0 hf, rd := h.rd.quiet hf, et := h.et.fr hf (fun e => e), bw := Nat.le_trans h.bw hf.size }
theorem TRd.between (h : TRd B w gt gr F A n cp xs t s) (lo hi : Int) :
    Calls Tryz.prog 25 #[.pointer (some ⟨gr, 0, none⟩), .string tW, .int .i64 lo, .int .i64 hi] w fun e w' =>
      e = .returned (.int .i64 (stBetween xs tW lo hi s).1) ∧ TRd B w' gt gr F A n cp xs t (stBetween xs tW lo hi s).2 ∧ Fr (fun x => x = gr ∨ B ≤ x) w w' :=
  (rBetween_any h.rd h.et tW h.ge lo hi).mono fun _ _ ⟨e1, e2, e3⟩ => ⟨e1, { h with tab := h.tab.fr e3 (fun k hk e => by have := h.fb k hk; have := h.lr; omega), rd := e2, et := h.et.fr e3 (fun e => h.ge e.symm), bw := Nat.le_trans h.bw e3.size }, e3.mono (fun _ _ e => .inl e)⟩
theorem TRd.bytes (h : TRd B w gt gr F A n cp xs t s) (most : Int) :
    Calls Tryz.prog 73 #[.pointer (some ⟨gr, 0, none⟩), .string tW, .int .i64 most] w fun e w' =>
      ∃ A' c', e = .returned (.slice A' (stBytes xs tW most s).1.length c') ∧ Own8 w' 5 (.slice A' (stBytes xs tW most s).1.length c') (stBytes xs tW most s).1 ∧ (∀ k, (Value.slice A' (stBytes xs tW most s).1.length c').ownBlock = some k → B ≤ k) ∧ TRd B w' gt gr F A n cp xs t (stBytes xs tW most s).2 ∧ Fr (fun x => x = gr ∨ B ≤ x) w w' :=
  (rBytes_any h.rd h.et tW h.ge most).mono fun _ _ ⟨v, e1, ⟨A', c', ev, ho, hn⟩, e2, e3⟩ => by
    subst ev
    exact ⟨A', c', e1, ho, fun k hk => Nat.le_trans h.bw (hn k hk), { h with tab := h.tab.fr e3 (fun k hk e => by have := h.fb k hk; have := h.lr; omega), rd := e2, et := h.et.fr e3 (fun e => h.ge e.symm), bw := Nat.le_trans h.bw e3.size }, e3.mono (fun _ _ e => .inl e)⟩
theorem RdAt.fr {S : Nat → Prop} {w' : World} (h : RdAt w gr A n cp xs s) (hf : Fr S w w') (hg : ¬ S gr) (hA : ∀ ad, A = some ad → 0 < n → ¬ S ad.block) : RdAt w' gr A n cp xs s := by
  cases s with
  | at_ k => exact ⟨h.1, h.2.imp fun _ h => h.imp fun _ h => h.fr hf hg hA⟩
  | bad er a wh => exact ⟨h.1, h.2.imp fun _ h => h.fr hf hg hA⟩
theorem TRd.keep (h : TRd B w gt gr F A n cp xs t s) (ok : t.ok) {c q : Int} (hm : mayR c q = true) (hq : q ∉ t.row c) {A' : Option Addr} {c' : Nat} {a : List UInt8} (ho : Own8 w 5 (.slice A' a.length c') a) (hn : ∀ k, (Value.slice A' a.length c').ownBlock = some k → B ≤ k) :
    Calls Tryz.prog 19 #[.pointer (some ⟨gt, 0, none⟩), .agg #[.int .i64 c, .int .i64 q], .slice A' a.length c'] w fun e w' => e = .returned (.tuple #[]) ∧ (∃ F', TRd B w' gt gr F' A n cp xs (t.keep c q a) s) ∧ Fr (fun x => x = gr ∨ B ≤ x) w w' := by
  obtain ⟨ba, br, Da, Dr, hT⟩ := h.tab
  refine (keep_any (FN := fun k => (Value.slice A' a.length c').ownBlock = some k) hT ok hm hq rfl ho.rd (fun ad e _ => ?_) (fun k hk => ho.lt hk)).mono fun e w' ⟨e1, Da', Dr', e2, e3⟩ => ⟨e1, ⟨_, { h with tab := ⟨ba, br, Da', Dr', e2⟩, rd := h.rd.fr e3 (fun e => ?_) (fun ad e h0 hF => ?_), et := h.et.fr e3 (fun e => ?_), fb := fun k hk => ?_, bw := Nat.le_trans h.bw e3.size }⟩, e3.mono (fun x _ hx => .inr (h.fb x hx))⟩
  · exact ho.bk e
  · have := h.fb _ e; have := h.lr; omega
  · have := h.fb _ hF; have := h.la ad e h0; omega
  · have := h.fb _ e; have := h.le; omega
  · rcases hk with hk | hk | hk
    · exact h.fb k hk
    · exact hn k hk
    · have := h.bw; omega
end

/-- What holds where a row is begun. -/
def RowPre (t : DT) (c : Int) (s : St) : Prop := t.ok ∧ ((∃ er a w0, s = .bad er a w0) ∨ (0 ≤ c ∧ c ≤ 1048576 ∧ ∀ x ∈ t.cs, x < c))
theorem row_pre (xs : List UInt8) {t : DT} {c : Int} {s : St} (h : RowPre t c s) :
    0 ≤ (rowTop xs s).1 ∧ (rowTop xs s).1 ≤ 1099511627776 ∧ 0 ≤ (rowCnt xs t s).1 ∧ (rowCnt xs t s).1 ≤ 4096 ∧ (0 < (rowCnt xs t s).1 → Amid t c (rowTop xs s).1 (max 1 ((rowTop xs s).1 - t.win + 1)) ∧ max 1 ((rowTop xs s).1 - t.win + 1) ≤ (rowTop xs s).1) := by
  obtain ⟨ok, h⟩ := h
  have hw := ok.w1
  have hw2 := ok.w2
  have h1 := between_cases xs tW 1 1099511627776 s
  have h2 := between_cases xs tW 1 t.win (rowTop xs s).2
  have t1 : 0 ≤ (rowTop xs s).1 ∧ (rowTop xs s).1 ≤ 1099511627776 := by
    rcases h1 with ⟨_, _, _, _, l1, u1, _⟩ | ⟨e, _⟩
    · change 1 ≤ (rowTop xs s).1 at l1
      change (rowTop xs s).1 ≤ 1099511627776 at u1
      omega
    · change (rowTop xs s).1 = 0 at e
      omega
  rcases h2 with ⟨k2, _, e2, _, l2, u2, _⟩ | ⟨e, _⟩
  · change 1 ≤ (rowCnt xs t s).1 at l2
    change (rowCnt xs t s).1 ≤ t.win at u2
    refine ⟨t1.1, t1.2, by omega, by omega, fun _ => ?_⟩
    rcases h1 with ⟨k1, _, e1, _, l1, u1, _⟩ | ⟨_, er, a, w0, e⟩
    · change 1 ≤ (rowTop xs s).1 at l1
      rcases h with ⟨er, a, w0, e⟩ | ⟨c1, c2, hcs⟩
      · rw [e] at e1; cases e1
      have hr0 : t.row c = [] := by
        cases hr : t.row c with
        | nil => rfl
        | cons x r => have := hcs c ((ok.cl c).2 (by rw [hr]; simp)); omega
      exact ⟨⟨ok, ⟨c1, c2⟩, fun x hx => by rw [hr0] at hx; simp at hx, fun x hx => by rw [hr0] at hx; simp at hx, by omega, by omega, t1.2, fun x hx => by have := hcs x hx; omega⟩, by omega⟩
    · rw [show (rowTop xs s).2 = .bad er a w0 from e] at e2; cases e2
  · change (rowCnt xs t s).1 = 0 at e
    exact ⟨t1.1, t1.2, by omega, by omega, fun h => by omega⟩

/-- One round of a row: what is read, whether it ends. -/
theorem rowL_step (xs : List UInt8) {c top least : Int} {k : Nat} {t : DT} {s : St} (h : Amid t c top least) (hl : least ≤ top) (hne : (stBetween xs tW (if k = 0 then top else least) (top - k) s).1 ≠ 0) :
    least ≤ (stBetween xs tW (if k = 0 then top else least) (top - k) s).1 ∧ (stBetween xs tW (if k = 0 then top else least) (top - k) s).1 ≤ top ∧ (0 < k → (stBetween xs tW (if k = 0 then top else least) (top - k) s).1 + 1 ≤ top) := by
  have hb := between_cases xs tW (if k = 0 then top else least) (top - k) s
  generalize stBetween xs tW (if k = 0 then top else least) (top - k) s = Y at *
  rcases hb with ⟨_, _, _, _, l, u, _⟩ | ⟨e, _⟩
  · refine ⟨?_, by omega, fun hk => by omega⟩
    split at l <;> omega
  · exact absurd e hne

set_option maxRecDepth 100000 in
set_option maxHeartbeats 8000000 in
theorem readRow_any {B : Nat} {w : World} {gt gr : Nat} {F : Nat → Prop} {A : Option Addr} {n cp : Nat} {xs : List UInt8} {t : DT} {s : St} (h : TRd B w gt gr F A n cp xs t s) {c : Int} (hp : RowPre t c s) :
    Calls Tryz.prog 54 #[.pointer (some ⟨gt, 0, none⟩), .pointer (some ⟨gr, 0, none⟩), .int .i64 c] w fun e w' => e = .returned (.bool (rowT xs c t s).1) ∧ (∃ F', TRd B w' gt gr F' A n cp xs (rowT xs c t s).2.1 (rowT xs c t s).2.2) ∧ Fr (fun x => x = gr ∨ B ≤ x) w w' := by
  have hpre := row_pre xs hp
  have hR : rowT xs c t s = (((rowR xs c t s).1 && decide (0 < (rowCnt xs t s).1)), (rowR xs c t s).2) := rfl
  have hR2 : rowR xs c t s = rowL xs c (rowTop xs s).1 (rowCnt xs t s).1.toNat (max 1 ((rowTop xs s).1 - t.win + 1)) t (rowCnt xs t s).2 := rfl
  have C1 : Hid (Calls Tryz.prog 25 #[.pointer (some ⟨gr, 0, none⟩), .string tW, .int .i64 1, .int .i64 1099511627776] w fun e w' =>
      e = .returned (.int .i64 (rowTop xs s).1) ∧ TRd B w' gt gr F A n cp xs t (rowTop xs s).2 ∧ Fr (fun x => x = gr ∨ B ≤ x) w w') := Lib.hid (h.between 1 1099511627776)
  have C2 : Hid (∀ w', TRd B w' gt gr F A n cp xs t (rowTop xs s).2 → Calls Tryz.prog 25 #[.pointer (some ⟨gr, 0, none⟩), .string tW, .int .i64 1, .int .i64 t.win] w' fun e w2 =>
      e = .returned (.int .i64 (rowCnt xs t s).1) ∧ TRd B w2 gt gr F A n cp xs t (rowCnt xs t s).2 ∧ Fr (fun x => x = gr ∨ B ≤ x) w' w2) := Lib.hid (fun w' h' => h'.between 1 t.win)
  have HW : Hid (∀ w' s', TRd B w' gt gr F A n cp xs t s' → w'.cell? ⟨gt, 0, none⟩ = some (.int .i64 t.win)) := Lib.hid (fun w' s' h' => by
    obtain ⟨_, _, _, _, hM⟩ := h'.tab
    exact hM.blk.cell 0)
  have hwin : 1 ≤ t.win ∧ t.win ≤ 4096 := ⟨hp.1.w1, hp.1.w2⟩
  rw [hR]
  generalize rowR xs c t s = R at *
  have HR2 := Lib.hid hR2
  have HPRE := Lib.hid hpre
  clear hR hR2 hpre hp
  obtain ⟨win, hwn⟩ : ∃ win, t.win = win := ⟨_, rfl⟩
  rw [hwn] at HW C2 HR2 HPRE hwin
  obtain ⟨top, htop⟩ : ∃ top, (rowTop xs s).1 = top := ⟨_, rfl⟩
  obtain ⟨cnt, hcnt⟩ : ∃ cnt, (rowCnt xs t s).1 = cnt := ⟨_, rfl⟩
  rw [htop] at C1 HR2 HPRE
  rw [hcnt] at C2 HR2 HPRE ⊢
  obtain ⟨p1, p2, p3, p4, p5⟩ := HPRE.out
  clear HPRE htop hcnt
  have HAM := Lib.hid p5
  clear p5
  have w1 : IntKind.i64.wrap (top - win) = top - win := IntWalk.i64_in _ (by omega)
  have w2 : IntKind.i64.wrap (top - win + 1) = top - win + 1 := IntWalk.i64_in _ (by omega)
  have w3 : IntKind.i64.wrap (cnt - 1) = cnt - 1 := IntWalk.i64_in _ (by omega)
  go_enter Tryz.func54, Tryz.ntmps54
  go_wp2_with fail
  refine C1.out.mono ?_; rintro e wa ⟨rfl, hda, hfa⟩
  clear C1
  have HA := Lib.hid hda
  have HFA := Lib.hid hfa
  have q0 := HW.out _ _ hda
  clear hda hfa
  go_wp2_with fail
  clear q0
  refine (C2.out _ HA.out).mono ?_; rintro e wb ⟨rfl, hdb, hfb⟩
  clear C2
  have HB := Lib.hid hdb
  have HFB := Lib.hid (HFA.out.trans hfb (fun _ _ h => h))
  have q0 := HW.out _ _ hdb
  clear hdb hfb HA HFA HW
  go_wp2_with fail
  clear q0
  -- LOOP
  go_loopw [10, 9] (fun b l wr => ∃ (k : Nat) (least : Int) (t' : DT) (s' : St), b = .int .i64 ((k : Int) - 1) ∧ l = .int .i64 least ∧
      Hid (k ≤ 4096 ∧ (0 < k → Amid t' c top least ∧ least ≤ top) ∧ rowL xs c top k least t' s' = R) ∧ Hid ((∃ F', TRd B wr gt gr F' A n cp xs t' s') ∧ Fr (fun x => x = gr ∨ B ≤ x) w wr)) (fun b _ _ => (intOf b + 1).toNat)
  case atStart =>
    refine ⟨cnt.toNat, max 1 (top - win + 1), t, (rowCnt xs t s).2, ?_, ?_, ⟨by omega, fun hk => HAM.out (by omega), HR2.out.symm⟩, ⟨⟨F, HB.out⟩, HFB.out⟩⟩
    · rw [Int.toNat_of_nonneg p3]
    · go_num
  case round =>
    obtain ⟨k, least, t', s', rfl, rfl, HREL, HT⟩ := hrel
    clear HB HFB HAM HR2
    cases k with
    | zero =>
      have e0 : (((0 : Nat) : Int) - 1) = -1 := rfl
      rw [e0]
      clear e0
      go_wp2
      refine bodyPost_ret (results_tmp rfl _ _ _) rfl ⟨?_, ?_, HT.out.2⟩
      · rw [← HREL.out.2.2]; simp [rowL]
      · rw [← HREL.out.2.2]; exact HT.out.1
    | succ m =>
      obtain ⟨bi, hbi⟩ : ∃ bi : Int, bi = (m : Int) := ⟨_, rfl⟩
      have e0 : (((m + 1 : Nat) : Int) - 1) = bi := by omega
      rw [e0]
      have hm := HREL.out.1
      have w4 : IntKind.i64.wrap (top - bi) = top - bi := IntWalk.i64_in _ (by omega)
      have w5 : IntKind.i64.wrap (bi - 1) = bi - 1 := IntWalk.i64_in _ (by omega)
      have hb0 : 0 ≤ bi := by omega
      have HBI := Lib.hid hbi
      have HAM := Lib.hid (HREL.out.2.1 (by omega))
      obtain ⟨Y, hY⟩ : ∃ Y, stBetween xs tW (if m = 0 then top else least) (top - m) s' = Y := ⟨_, rfl⟩
      have hst := rowL_step xs (k := m) (s := s') HAM.out.1 HAM.out.2
      have hrl : rowL xs c top (m + 1) least t' s' = if Y.1 = 0 then (false, t', (stBytes xs tW 33554432 Y.2).2) else rowL xs c top m (Y.1 + 1) (t'.keep c Y.1 (stBytes xs tW 33554432 Y.2).1) (stBytes xs tW 33554432 Y.2).2 := by rw [← hY]; rfl
      rw [hY] at hst
      obtain ⟨q, s1⟩ := Y
      obtain ⟨Y2, hY2⟩ : ∃ Y2, stBytes xs tW 33554432 s1 = Y2 := ⟨_, rfl⟩
      simp only [hY2] at hrl hst
      obtain ⟨a, s2⟩ := Y2
      simp only at hrl hst
      have HY2 := Lib.hid hY2
      have HSTOP : Hid (q = 0 → rowL xs c top (m + 1) least t' s' = (false, t', s2)) := Lib.hid (fun hq => by rw [hrl, if_pos hq])
      have HGO : Hid (q ≠ 0 → least ≤ q ∧ q ≤ top ∧ q ∉ t'.row c ∧ mayR c q = true ∧ t'.ok ∧ (m ≤ 4096 ∧ (0 < m → Amid (t'.keep c q a) c top (q + 1) ∧ q + 1 ≤ top) ∧ rowL xs c top m (q + 1) (t'.keep c q a) s2 = R)) := Lib.hid (fun hq => by
        obtain ⟨g1, g2, g3⟩ := hst hq
        refine ⟨g1, g2, HAM.out.1.not g1, HAM.out.1.may g1 g2, HAM.out.1.ok, by omega, fun h0 => ⟨HAM.out.1.keep a g1 g2, g3 h0⟩, ?_⟩
        rw [← HREL.out.2.2, hrl, if_neg hq])
      have hlq : Hid (1 ≤ least) := Lib.hid HAM.out.1.l1
      clear hY2 hst hrl e0 hm
      by_cases hm0 : m = 0
      · rw [if_pos hm0] at hY
        have hb1 : bi = 0 := by omega
        clear hm0 hbi
        have CB : Hid (∀ w' F', TRd B w' gt gr F' A n cp xs t' s' → Calls Tryz.prog 25 #[.pointer (some ⟨gr, 0, none⟩), .string tW, .int .i64 top, .int .i64 top] w' fun e w2 =>
            e = .returned (.int .i64 q) ∧ TRd B w2 gt gr F' A n cp xs t' s1 ∧ Fr (fun x => x = gr ∨ B ≤ x) w' w2) := Lib.hid (fun w' F' h' => by
          have h2 := h'.between top top
          rw [show stBetween xs tW top top s' = (q, s1) by rw [← hY, show top - (m : Int) = top by rw [← HBI.out]; omega]] at h2
          exact h2)
        obtain ⟨F', hF'⟩ := HT.out.1
        have HF' := Lib.hid hF'
        clear hF' hY
        go_wp2_with fail
        refine (CB.out _ _ HF'.out).mono ?_; rintro e w1 ⟨rfl, hd1, hf1⟩
        clear CB
        have HD1 := Lib.hid hd1
        have HF1 := Lib.hid (HT.out.2.trans hf1 (fun _ _ h => h))
        clear hd1 hf1
        go_wp2_with fail
        refine (HD1.out.bytes 33554432).mono ?_; rintro e w2 ⟨A', c', rfl, ho2, hn2, hd2, hf2⟩
        rw [show stBytes xs tW 33554432 s1 = (a, s2) from HY2.out] at ho2 hn2 hd2 ⊢
        have HO2 := Lib.hid ho2
        have HN2 := Lib.hid hn2
        have HD2 := Lib.hid hd2
        have HF2 := Lib.hid (HF1.out.trans hf2 (fun _ _ h => h))
        clear ho2 hn2 hd2 hf2 HD1 HF1 HF'
        by_cases hq : q = 0
        · go_wp2
          refine bodyPost_ret (results_tmp rfl _ _ _) rfl ⟨?_, ⟨F', ?_⟩, HF2.out⟩
          · rw [← HREL.out.2.2, HSTOP.out hq]; rfl
          · rw [← HREL.out.2.2, HSTOP.out hq]; exact HD2.out
        · have HGO' := Lib.hid (HGO.out hq)
          have wq : IntKind.i64.wrap (q + 1) = q + 1 := IntWalk.i64_in _ (by have := HGO'.out.2.1; have := HGO'.out.1; have := hlq.out; omega)
          have CK := Lib.hid (HD2.out.keep HGO'.out.2.2.2.2.1 (c := c) (q := q) HGO'.out.2.2.2.1 HGO'.out.2.2.1 HO2.out HN2.out)
          clear HO2 HN2
          go_wp2_with fail
          refine CK.out.mono ?_; rintro e w3 ⟨rfl, ⟨F3, hd3⟩, hf3⟩
          clear CK
          have HD3 := Lib.hid hd3
          have HF3 := Lib.hid (HF2.out.trans hf3 (fun _ _ h => h))
          clear hd3 hf3 HD2 HF2
          go_wp2
          go_roundw
          case rel => exact ⟨m, q + 1, t'.keep c q a, s2, by first | (rw [HBI.out]; done) | (rw [← HBI.out, hb1]; rfl), rfl, HGO'.out.2.2.2.2.2, ⟨⟨F3, HD3.out⟩, HF3.out⟩⟩
          case measure => (simp [intOf, HBI.out]) <;> omega
      · rw [if_neg hm0] at hY
        have hb1 : ¬ bi = 0 := by omega
        clear hm0 hbi
        have CB : Hid (∀ w' F', TRd B w' gt gr F' A n cp xs t' s' → Calls Tryz.prog 25 #[.pointer (some ⟨gr, 0, none⟩), .string tW, .int .i64 least, .int .i64 (top - bi)] w' fun e w2 =>
            e = .returned (.int .i64 q) ∧ TRd B w2 gt gr F' A n cp xs t' s1 ∧ Fr (fun x => x = gr ∨ B ≤ x) w' w2) := Lib.hid (fun w' F' h' => by
          have h2 := h'.between least (top - bi)
          rw [show stBetween xs tW least (top - bi) s' = (q, s1) by rw [HBI.out]; exact hY] at h2
          exact h2)
        obtain ⟨F', hF'⟩ := HT.out.1
        have HF' := Lib.hid hF'
        clear hF' hY
        go_wp2_with fail
        refine (CB.out _ _ HF'.out).mono ?_; rintro e w1 ⟨rfl, hd1, hf1⟩
        clear CB
        have HD1 := Lib.hid hd1
        have HF1 := Lib.hid (HT.out.2.trans hf1 (fun _ _ h => h))
        clear hd1 hf1
        go_wp2_with fail
        refine (HD1.out.bytes 33554432).mono ?_; rintro e w2 ⟨A', c', rfl, ho2, hn2, hd2, hf2⟩
        rw [show stBytes xs tW 33554432 s1 = (a, s2) from HY2.out] at ho2 hn2 hd2 ⊢
        have HO2 := Lib.hid ho2
        have HN2 := Lib.hid hn2
        have HD2 := Lib.hid hd2
        have HF2 := Lib.hid (HF1.out.trans hf2 (fun _ _ h => h))
        clear ho2 hn2 hd2 hf2 HD1 HF1 HF'
        by_cases hq : q = 0
        · go_wp2
          refine bodyPost_ret (results_tmp rfl _ _ _) rfl ⟨?_, ⟨F', ?_⟩, HF2.out⟩
          · rw [← HREL.out.2.2, HSTOP.out hq]; rfl
          · rw [← HREL.out.2.2, HSTOP.out hq]; exact HD2.out
        · have HGO' := Lib.hid (HGO.out hq)
          have wq : IntKind.i64.wrap (q + 1) = q + 1 := IntWalk.i64_in _ (by have := HGO'.out.2.1; have := HGO'.out.1; have := hlq.out; omega)
          have CK := Lib.hid (HD2.out.keep HGO'.out.2.2.2.2.1 (c := c) (q := q) HGO'.out.2.2.2.1 HGO'.out.2.2.1 HO2.out HN2.out)
          clear HO2 HN2
          go_wp2_with fail
          refine CK.out.mono ?_; rintro e w3 ⟨rfl, ⟨F3, hd3⟩, hf3⟩
          clear CK
          have HD3 := Lib.hid hd3
          have HF3 := Lib.hid (HF2.out.trans hf3 (fun _ _ h => h))
          clear hd3 hf3 HD2 HF2
          go_wp2
          go_roundw
          case rel => exact ⟨m, q + 1, t'.keep c q a, s2, by first | (rw [HBI.out]; done) | (rw [← HBI.out, hb1]; rfl), rfl, HGO'.out.2.2.2.2.2, ⟨⟨F3, HD3.out⟩, HF3.out⟩⟩
          case measure => (simp [intOf, HBI.out]) <;> omega
end Go.Proofs.YtdfkoehcmgcoiaaGreatDoor

/- dedup: read, Decode. -/
namespace Go.Proofs.YtdfkoehcmgcoiaaGreatDoor
open Go.RowKit Go.Maps

/-- A client of a table that is read. -/
theorem readL_step (xs : List UInt8) {least : Int} {t : DT} {s : St} (ok : t.ok) (h0 : 0 ≤ least) (hcs : ∀ x ∈ t.cs, x < least) :
    0 ≤ (stBetween xs tW least 1048576 s).1 ∧ (stBetween xs tW least 1048576 s).1 ≤ 1048576 ∧ RowPre t (stBetween xs tW least 1048576 s).1 (stBetween xs tW least 1048576 s).2 ∧
    ((rowT xs (stBetween xs tW least 1048576 s).1 t (stBetween xs tW least 1048576 s).2).1 ≠ false → (rowT xs (stBetween xs tW least 1048576 s).1 t (stBetween xs tW least 1048576 s).2).2.1.ok ∧ ∀ x ∈ (rowT xs (stBetween xs tW least 1048576 s).1 t (stBetween xs tW least 1048576 s).2).2.1.cs, x < (stBetween xs tW least 1048576 s).1 + 1) := by
  have hb := between_cases xs tW least 1048576 s
  generalize stBetween xs tW least 1048576 s = Y at *
  rcases hb with ⟨k, k', e1, e2, l, u, _⟩ | ⟨e1, e2⟩
  · have hc : ∀ x ∈ t.cs, x < Y.1 := fun x hx => by have := hcs x hx; omega
    refine ⟨by omega, u, ⟨ok, .inr ⟨by omega, u, hc⟩⟩, fun _ => ?_⟩
    have h := (rowT_to xs (c := Y.1) Y.2 ok ⟨by omega, u⟩ hc).1
    exact ⟨h.1, fun x hx => by have := h.2 x hx; omega⟩
  · refine ⟨by omega, by omega, ⟨ok, .inl e2⟩, fun h => absurd (rowT_bad xs Y.1 t e2).1 h⟩

set_option maxRecDepth 100000 in
set_option maxHeartbeats 8000000 in
theorem read_any {B : Nat} {w : World} {gt gr : Nat} {F : Nat → Prop} {A : Option Addr} {n cp : Nat} {xs : List UInt8} {t : DT} {s : St} (h : TRd B w gt gr F A n cp xs t s) (hp : (t.ok ∧ t.cs = []) ∨ ∃ er a w0, s = .bad er a w0) :
    Calls Tryz.prog 26 #[.pointer (some ⟨gt, 0, none⟩), .pointer (some ⟨gr, 0, none⟩)] w fun e w' => e = .returned (.tuple #[]) ∧ (∃ F', TRd B w' gt gr F' A n cp xs (readL xs (decN xs s).1.toNat 0 t (decN xs s).2).1 (readL xs (decN xs s).1.toNat 0 t (decN xs s).2).2) ∧ Fr (fun x => x = gr ∨ B ≤ x) w w' := by
  have hb := between_cases xs tW 0 1048577 s
  have C1 : Hid (Calls Tryz.prog 25 #[.pointer (some ⟨gr, 0, none⟩), .string tW, .int .i64 0, .int .i64 1048577] w fun e w' =>
      e = .returned (.int .i64 (decN xs s).1) ∧ TRd B w' gt gr F A n cp xs t (decN xs s).2 ∧ Fr (fun x => x = gr ∨ B ≤ x) w w') := Lib.hid (h.between 0 1048577)
  change (∃ k k', s = .at_ k ∧ (decN xs s).2 = .at_ k' ∧ 0 ≤ (decN xs s).1 ∧ (decN xs s).1 ≤ 1048577 ∧ xs.drop k = eI (decN xs s).1 ++ xs.drop k') ∨ ((decN xs s).1 = 0 ∧ ∃ er a w0, (decN xs s).2 = .bad er a w0) at hb
  have hcnt : 0 ≤ (decN xs s).1 ∧ (decN xs s).1 ≤ 1048577 ∧ (0 < (decN xs s).1 → t.ok ∧ t.cs = []) := by
    rcases hb with ⟨k, k', e1, e2, l, u, _⟩ | ⟨e1, e2⟩
    · refine ⟨l, u, fun _ => hp.resolve_right ?_⟩
      rintro ⟨er, a, w0, e⟩
      rw [e] at e1; cases e1
    · exact ⟨by omega, by omega, fun h => by omega⟩
  generalize decN xs s = N at *
  obtain ⟨cnt, s0⟩ := N
  simp only at *
  obtain ⟨p1, p2, p3⟩ := hcnt
  have HP := Lib.hid p3
  obtain ⟨R, hR⟩ : ∃ R, readL xs cnt.toNat 0 t s0 = R := ⟨_, rfl⟩
  rw [hR]
  have HR := Lib.hid hR
  clear hR p3 hb hp h
  go_enter Tryz.func26, Tryz.ntmps26
  go_wp2_with fail
  refine C1.out.mono ?_; rintro e wa ⟨rfl, hda, hfa⟩
  clear C1
  have HA := Lib.hid hda
  have HFA := Lib.hid hfa
  clear hda hfa
  go_wp2_with fail
  go_loopw [8, 4] (fun i l wr => ∃ (j : Int) (k : Nat) (least : Int) (t' : DT) (s' : St), i = .int .i64 j ∧ l = .int .i64 least ∧
      Hid (0 ≤ j ∧ j + k = cnt ∧ (0 < k → t'.ok ∧ 0 ≤ least ∧ ∀ x ∈ t'.cs, x < least) ∧ readL xs k least t' s' = R) ∧ Hid ((∃ F', TRd B wr gt gr F' A n cp xs t' s') ∧ Fr (fun x => x = gr ∨ B ≤ x) w wr)) (fun i _ _ => (cnt - intOf i).toNat)
  case atStart =>
    refine ⟨0, cnt.toNat, 0, t, s0, rfl, rfl, ⟨by omega, by omega, fun hk => ⟨(HP.out (by omega)).1, by omega, fun x hx => by rw [(HP.out (by omega)).2] at hx; simp at hx⟩, HR.out⟩, ⟨⟨F, HA.out⟩, HFA.out⟩⟩
  case round =>
    obtain ⟨j, k, least, t', s', rfl, rfl, HREL, HT⟩ := hrel
    clear HP HR HA HFA
    by_cases hk : k = 0
    · have hj : ¬ j < cnt := by have := HREL.out.2.1; omega
      subst hk
      have hE := HREL.out.2.2.2
      have hj2 : cnt ≤ j := by omega
      clear hj
      go_wp2
      refine bodyPost_end (results_none rfl _ _ _) rfl ⟨rfl, ?_, HT.out.2⟩
      rw [← hE]; exact HT.out.1
    · obtain ⟨m, rfl⟩ : ∃ m, k = m + 1 := ⟨k - 1, by omega⟩
      have hj : j < cnt := by have := HREL.out.2.1; omega
      have hj0 : 0 ≤ j := HREL.out.1
      obtain ⟨ok, hl0, hcs⟩ := HREL.out.2.2.1 (by omega)
      have hst := readL_step xs (s := s') ok hl0 hcs
      have hrl : readL xs (m + 1) least t' s' = if (rowT xs (stBetween xs tW least 1048576 s').1 t' (stBetween xs tW least 1048576 s').2).1 = false then (rowT xs (stBetween xs tW least 1048576 s').1 t' (stBetween xs tW least 1048576 s').2).2
        else readL xs m ((stBetween xs tW least 1048576 s').1 + 1) (rowT xs (stBetween xs tW least 1048576 s').1 t' (stBetween xs tW least 1048576 s').2).2.1 (rowT xs (stBetween xs tW least 1048576 s').1 t' (stBetween xs tW least 1048576 s').2).2.2 := rfl
      obtain ⟨Y, hY⟩ : ∃ Y, stBetween xs tW least 1048576 s' = Y := ⟨_, rfl⟩
      simp only [hY] at hst hrl
      obtain ⟨c, s1⟩ := Y
      simp only at hst hrl
      obtain ⟨T, hT⟩ : ∃ T, rowT xs c t' s1 = T := ⟨_, rfl⟩
      simp only [hT] at hst hrl
      obtain ⟨b, t1, s2⟩ := T
      simp only at hst hrl
      obtain ⟨c0, c1, hpre, hgo⟩ := hst
      have HPRE := Lib.hid hpre
      have HGO := Lib.hid hgo
      have HRL := Lib.hid hrl
      have w1 : IntKind.i64.wrap (c + 1) = c + 1 := IntWalk.i64_in _ (by omega)
      have w2 : IntKind.i64.wrap (j + 1) = j + 1 := IntWalk.i64_in _ (by omega)
      have CB : Hid (∀ w' F', TRd B w' gt gr F' A n cp xs t' s' → Calls Tryz.prog 25 #[.pointer (some ⟨gr, 0, none⟩), .string tW, .int .i64 least, .int .i64 1048576] w' fun e w2 =>
          e = .returned (.int .i64 c) ∧ TRd B w2 gt gr F' A n cp xs t' s1 ∧ Fr (fun x => x = gr ∨ B ≤ x) w' w2) := Lib.hid (fun w' F' h' => by
        have h2 := h'.between least 1048576
        rw [hY] at h2
        exact h2)
      have CR : Hid (∀ w' F', TRd B w' gt gr F' A n cp xs t' s1 → Calls Tryz.prog 54 #[.pointer (some ⟨gt, 0, none⟩), .pointer (some ⟨gr, 0, none⟩), .int .i64 c] w' fun e w2 =>
          e = .returned (.bool b) ∧ (∃ F2, TRd B w2 gt gr F2 A n cp xs t1 s2) ∧ Fr (fun x => x = gr ∨ B ≤ x) w' w2) := Lib.hid (fun w' F' h' => by
        have h2 := readRow_any h' HPRE.out
        rw [hT] at h2
        exact h2)
      obtain ⟨F', hF'⟩ := HT.out.1
      have HF' := Lib.hid hF'
      clear hF' hY hT hrl hpre hgo ok hl0 hcs hk
      go_wp2_with fail
      refine (CB.out _ _ HF'.out).mono ?_; rintro e w1 ⟨rfl, hd1, hf1⟩
      have HD1 := Lib.hid hd1
      have HF1 := Lib.hid (HT.out.2.trans hf1 (fun _ _ h => h))
      clear hd1 hf1 CB
      go_wp2_with fail
      refine (CR.out _ _ HD1.out).mono ?_; rintro e w2 ⟨rfl, hd2, hf2⟩
      have HD2 := Lib.hid hd2
      have HF2 := Lib.hid (HF1.out.trans hf2 (fun _ _ h => h))
      clear hd2 hf2 CR HD1 HF1 HF'
      cases b with
      | false =>
        go_wp2
        refine bodyPost_ret (v := .tuple #[]) (results_none rfl _ _ _) rfl ⟨rfl, ?_, HF2.out⟩
        rw [← HREL.out.2.2.2, HRL.out]; first | rw [if_pos rfl] | rw [if_pos trivial]
        exact HD2.out
      | true =>
        go_wp2
        go_roundw
        case rel =>
          refine ⟨j + 1, m, c + 1, t1, s2, rfl, rfl, ⟨by omega, by have := HREL.out.2.1; omega, fun _ => ⟨(HGO.out (by simp)).1, by omega, (HGO.out (by simp)).2⟩, ?_⟩, ⟨HD2.out, HF2.out⟩⟩
          rw [← HREL.out.2.2.2, HRL.out, if_neg (by simp)]
        case measure => (simp [intOf]) <;> omega

/-- What Decode tells. -/
def DecR (xs : List UInt8) (w : World) (e : Ending) (w' : World) : Prop :=
  match stEnd xs (decS xs).2 with
  | some (er, a, wh) => ∃ fb, e = .returned (.tuple #[.pointer none, .iface 43 (.pointer (some ⟨fb, 0, none⟩))]) ∧ Bk w' fb 47 #[.int .i64 er, .int .i64 a, .string wh] ∧ w.heap.size ≤ fb ∧ er ≠ 0
  | none => ∃ g F, e = .returned (.tuple #[.pointer (some ⟨g, 0, none⟩), .nilIface]) ∧ Tab w' g F (decS xs).1 ∧ ∀ k, F k → w.heap.size ≤ k
theorem rdr_lt {w : World} {g : Nat} {A : Option Addr} {n c : Nat} {xs : List UInt8} {s : St} (h : RdAt w g A n c xs s) : g < w.heap.size ∧ ∀ ad, A = some ad → 0 < n → ad.block < w.heap.size := by
  have h2 : ∀ {p er fat : Int} {what : ByteArray}, Rdr w g A n c xs p er fat what → g < w.heap.size ∧ ∀ ad, A = some ad → 0 < n → ad.block < w.heap.size := fun h => ⟨h.bk.lt, fun ad e h0 => by
    obtain ⟨ad', e', _, hc⟩ := h.rd (by rw [h.len]; exact h0)
    rw [e] at e'; injection e' with e'; subst e'
    exact World.block_lt_of_cell? w ⟨ad.block, ad.off + 0, none⟩ (hc 0 (by rw [h.len]; exact h0))⟩
  cases s with
  | at_ k => obtain ⟨_, _, _, h⟩ := h; exact h2 h
  | bad er a wh => obtain ⟨_, _, h⟩ := h; exact h2 h

set_option maxRecDepth 100000 in
set_option maxHeartbeats 8000000 in
theorem decode_any (A : Option Addr) (n c : Nat) (xs : List UInt8) (w : World) (ht : ErrT w) (hr : Rd8 w A xs) (hn : xs.length = n) (hb : n ≤ 17592186044416) :
    Calls Tryz.prog 11 #[.slice A n c] w fun e w' => DecR xs w e w' ∧ Fr (fun _ => False) w w' := by
  have hel : 0 < w.heap.size := World.block_lt_of_cell? w _ ht
  have CN := Lib.hid (newReader_any A n c xs w hr hn hb)
  have hW := between_cases xs tW 1 4096 (.at_ 0)
  change (∃ k k', St.at_ 0 = .at_ k ∧ (decW xs).2 = .at_ k' ∧ 1 ≤ (decW xs).1 ∧ (decW xs).1 ≤ 4096 ∧ xs.drop k = eI (decW xs).1 ++ xs.drop k') ∨ ((decW xs).1 = 0 ∧ ∃ er a w0, (decW xs).2 = .bad er a w0) at hW
  have hp : ((newT (decW xs).1).ok ∧ (newT (decW xs).1).cs = []) ∨ ∃ er a w0, (decW xs).2 = .bad er a w0 := by
    rcases hW with ⟨_, _, _, _, l, u, _⟩ | ⟨_, e⟩
    · exact .inl ⟨newT_ok l u, rfl⟩
    · exact .inr e
  have HP := Lib.hid hp
  have HDS : Hid (decS xs = readL xs (decN xs (decW xs).2).1.toNat 0 (newT (decW xs).1) (decN xs (decW xs).2).2) := Lib.hid rfl
  have CB : Hid (∀ w' g A' c', Fr (fun _ => False) w w' → RdAt w' g A' n c' xs (.at_ 0) → w.heap.size ≤ g → Calls Tryz.prog 25 #[.pointer (some ⟨g, 0, none⟩), .string tW, .int .i64 1, .int .i64 4096] w' fun e w2 =>
      e = .returned (.int .i64 (decW xs).1) ∧ RdAt w2 g A' n c' xs (decW xs).2 ∧ Fr (fun x => x = g) w' w2) := Lib.hid (fun w' g A' c' hf h1 h2 => rBetween_any h1 (ht.fr hf (fun h => h)) tW (by omega) 1 4096)
  have HET := Lib.hid ht
  have HEL := Lib.hid hel
  generalize decW xs = Y at *
  obtain ⟨win, s0⟩ := Y
  simp only at *
  clear hr hn hb hW hp hel ht
  go_enter Tryz.func11, Tryz.ntmps11
  go_wp2_with fail
  refine CN.out.mono ?_; rintro e w1 ⟨g, A', c', rfl, hr1, hf1, hg1⟩
  have HR1 := Lib.hid hr1
  have HF1 := Lib.hid hf1
  have HG1 := Lib.hid hg1
  clear hr1 hf1 hg1 CN
  go_wp2_with fail
  refine (CB.out _ _ _ _ HF1.out HR1.out HG1.out).mono ?_; rintro e w2 ⟨rfl, hr2, hf2⟩
  have HR2 := Lib.hid hr2
  have HF2 := Lib.hid (HF1.out.trans hf2 (fun x hx e => by have := HG1.out; omega))
  clear hr2 hf2 CB HF1 HR1
  go_wp2_with fail
  refine (newT_any win w2).mono ?_; rintro e w3 ⟨gt, rfl, hf3, ht3⟩
  have HF3 := Lib.hid (HF2.out.trans hf3 (fun _ _ h => h))
  have HT3 : Hid (TRd w2.heap.size w3 gt g (fun k => w2.heap.size ≤ k ∧ k < w3.heap.size) A' n c' xs (newT win) s0) := Lib.hid
    { tab := ht3, rd := HR2.out.quiet hf3, et := HET.out.fr HF3.out (fun h => h), ge := by have := HG1.out; have := HEL.out; omega, lr := (rdr_lt HR2.out).1, le := by have := HF2.out.size; have := HEL.out; omega
      la := (rdr_lt HR2.out).2, fb := fun k hk => hk.1, bw := hf3.size }
  clear hf3 ht3
  have HS2 : Hid (w.heap.size ≤ w2.heap.size) := Lib.hid HF2.out.size
  clear HF2 HR2
  generalize w2.heap.size = B at *
  go_wp2_with fail
  refine (read_any HT3.out HP.out).mono ?_; rintro e w4 ⟨rfl, ⟨F4, hd4⟩, hf4⟩
  rw [← HDS.out] at hd4
  have HD4 := Lib.hid hd4
  have HF4 := Lib.hid (HF3.out.trans hf4 (fun x hx e => by
    have h1 := HG1.out; have h2 := HS2.out
    rcases e with e | e <;> omega))
  clear hd4 hf4 HT3 HF3
  go_wp2_with fail
  refine (rEnd_any HD4.out.rd).mono ?_; rintro e w5 ⟨v, rfl, hv, hf5⟩
  have HF5 := Lib.hid (HF4.out.trans hf5 (fun _ _ h => h))
  have HT5 : Hid (Tab w5 gt F4 (decS xs).1 ∧ ∀ k, F4 k → w.heap.size ≤ k) := Lib.hid ⟨HD4.out.tab.fr0 hf5, fun k hk => by have := HD4.out.fb k hk; have := HS2.out; omega⟩
  have hs4 := HF4.out.size
  have HER : Hid (∀ er a wh, stEnd xs (decS xs).2 = some (er, a, wh) → er ≠ 0) := Lib.hid (fun er a wh h => by
    have hrd := HD4.out.rd
    cases hs : (decS xs).2 with
    | at_ k =>
      rw [hs] at h
      unfold stEnd at h
      simp only at h
      split at h
      · injection h with h; injection h with h; omega
      · cases h
    | bad er' a' wh' =>
      rw [hs] at h hrd
      unfold stEnd at h
      simp only at h
      injection h with h; injection h with h _
      rw [← h]; exact hrd.1)
  clear hf5 HD4 HF4
  cases hE : stEnd xs (decS xs).2 with
  | none =>
    rw [hE] at hv
    obtain rfl : v = .nilIface := hv
    have HE := Lib.hid hE
    clear hE hs4
    go_wp2
    go_ret2
    refine ⟨?_, HF5.out⟩
    unfold DecR
    rw [HE.out]
    exact ⟨gt, F4, rfl, HT5.out.1, HT5.out.2⟩
  | some y =>
    obtain ⟨er, a, wh⟩ := y
    rw [hE] at hv
    obtain ⟨fb, rfl, hbk, hlf⟩ := hv
    have HB := Lib.hid hbk
    have HL : Hid (w.heap.size ≤ fb) := Lib.hid (by omega)
    have HE := Lib.hid hE
    clear hE hbk hlf hs4
    go_wp2
    go_ret2
    refine ⟨?_, HF5.out⟩
    unfold DecR
    rw [HE.out]
    exact ⟨fb, rfl, HB.out, HL.out, HER.out _ _ _ HE.out⟩
end Go.Proofs.YtdfkoehcmgcoiaaGreatDoor

/- dedup's acts in memory; few. -/
namespace Go.Proofs.YtdfkoehcmgcoiaaGreatDoor
open Go.RowKit

structure Dc where
  op : Int
  c : Int
  s : Int
  a : List UInt8
instance : Inhabited Dc := ⟨⟨0, 0, 0, []⟩⟩
/-- An act at a place; its bytes lie below F. -/
structure DcAt (w : World) (F b o : Nat) (q : Dc) (A : Option Addr) (m : Nat) : Prop where
  c0 : w.cell? ⟨b, o, none⟩ = some (.int .i64 q.op)
  c1 : w.cell? ⟨b, o + 1, none⟩ = some (.int .i64 q.c)
  c2 : w.cell? ⟨b, o + 2, none⟩ = some (.int .i64 q.s)
  c3 : w.cell? ⟨b, o + 3, none⟩ = some (.slice A q.a.length m)
  rd : Rd8 w A q.a
  lo : ∀ ad, A = some ad → 0 < q.a.length → ad.block < F
  bl : b < F
  i0 : I64 q.op
  i1 : I64 q.c
  i2 : I64 q.s
  ln : q.a.length ≤ 140737488355328
theorem DcAt.fr {S : Nat → Prop} {w w' : World} {F b o : Nat} {q : Dc} {A : Option Addr} {m : Nat} (h : DcAt w F b o q A m) (hf : Fr S w w') (hS : ∀ k, k < F → ¬ S k) : DcAt w' F b o q A m :=
  ⟨(hf.cell (World.block_lt_of_cell? w _ h.c0) (hS _ h.bl)).trans h.c0, (hf.cell (World.block_lt_of_cell? w _ h.c1) (hS _ h.bl)).trans h.c1, (hf.cell (World.block_lt_of_cell? w _ h.c2) (hS _ h.bl)).trans h.c2, (hf.cell (World.block_lt_of_cell? w _ h.c3) (hS _ h.bl)).trans h.c3,
    h.rd.fr hf (fun ad e h0 => hS _ (h.lo ad e h0)), h.lo, h.bl, h.i0, h.i1, h.i2, h.ln⟩
def Dcs (w : World) (F : Nat) (A : Option Addr) (n : Nat) (f : Nat → Dc) : Prop := ∀ j, j < n → ∃ b o B m, A = some ⟨b, o, none⟩ ∧ DcAt w F b (o + j * 4) (f j) B m
theorem Dcs.fr {S : Nat → Prop} {w w' : World} {F : Nat} {A : Option Addr} {n : Nat} {f : Nat → Dc} (h : Dcs w F A n f) (hf : Fr S w w') (hS : ∀ k, k < F → ¬ S k) : Dcs w' F A n f := fun j hj => by
  obtain ⟨b, o, B, m, e, hc⟩ := h j hj
  exact ⟨b, o, B, m, e, hc.fr hf hS⟩
def fsum (f : Nat → Dc) : Nat → Nat
  | 0 => 0
  | j + 1 => fsum f j + (f j).a.length
theorem fsum_le (f : Nat → Dc) (h : ∀ j, (f j).a.length ≤ 140737488355328) : ∀ j, fsum f j ≤ j * 140737488355328
  | 0 => by simp [fsum]
  | j + 1 => by have := fsum_le f h j; have := h j; unfold fsum; omega
/-- Are acts few? -/
def fewB (n : Nat) (f : Nat → Dc) : Bool := decide (n ≤ 200) && decide (fsum f n ≤ 8192)
theorem i64_wrap_in (x : Int) : I64 (IntKind.i64.wrap x) := by rw [IntKind.wrap_i64]; constructor <;> omega

set_option maxRecDepth 100000 in
set_option maxHeartbeats 4000000 in
theorem few_any {A : Option Addr} {n cap : Nat} {f : Nat → Dc} {F : Nat} {w : World} (h : Dcs w F A n f) (hl : ∀ j, (f j).a.length ≤ 140737488355328) (hn : (n : Int) ≤ 9223372036854775807) :
    Calls Tryz.prog 6 #[.slice A n cap] w fun e w' => e = .returned (.bool (fewB n f)) ∧ Fr (fun _ => False) w w' := by
  have H := Lib.hid h
  have HL := Lib.hid (fsum_le f hl)
  have HL1 := Lib.hid hl
  clear h hl
  go_enter Tryz.func6, Tryz.ntmps6
  go_wp2_with fail
  go_loopw [3, 4] (fun z i wr => ∃ (j : Nat) (y : Int), j ≤ n ∧ z = .int .i64 y ∧ i = .int .i64 (j : Int) ∧ Hid (I64 y ∧ (j ≤ 200 → y = (fsum f j : Int))) ∧ Fr (fun _ => False) w wr) (fun _ i _ => n - (intOf i).toNat)
  case atStart => exact ⟨0, 0, Nat.zero_le _, rfl, rfl, ⟨⟨by omega, by omega⟩, fun _ => rfl⟩, Fr.refl _ _⟩
  case round =>
    obtain ⟨j, y, hj, rfl, rfl, hy, hf⟩ := hrel
    have HF := Lib.hid hf
    have hj0 : (0 : Int) ≤ (j : Int) := by omega
    by_cases hlt : j < n
    · have hj1 : (j : Int) < (n : Int) := by omega
      obtain ⟨b, o, B, m, rfl, hc⟩ := (H.out.fr HF.out (fun _ _ h => h)) j hlt
      have q3 := hc.c3
      clear hc
      have hw1 : IntKind.i64.wrap ((j : Int) + 1) = (j : Int) + 1 := IntWalk.i64_in _ (by omega)
      obtain ⟨x, hx⟩ : ∃ x, (f j).a.length = x := ⟨_, rfl⟩
      rw [hx] at q3
      obtain ⟨z, hz⟩ : ∃ z, IntKind.i64.wrap (y + (x : Int)) = z := ⟨_, rfl⟩
      have HY : Hid (I64 z ∧ (j + 1 ≤ 200 → z = (fsum f (j + 1) : Int))) := Lib.hid ⟨hz ▸ i64_wrap_in _, fun h200 => by
        have h1 := hy.out.2 (by omega)
        have h2 := HL.out (j + 1)
        have h3 : fsum f (j + 1) = fsum f j + x := by rw [← hx]; rfl
        rw [← hz, h1, h3, IntWalk.i64_in _ (by omega)]
        push_cast; rfl⟩
      clear hx hy hf
      go_wp2
      go_roundw
      case rel => exact ⟨j + 1, z, by omega, rfl, by go_num, HY, HF.out⟩
      case measure => simp [intOf]; omega
    · obtain rfl : j = n := by omega
      clear hf
      by_cases h200 : j ≤ 200
      · have d1 : decide (j ≤ 200) = true := decide_eq_true h200
        have d1i : decide ((j : Int) ≤ 200) = true := decide_eq_true (by omega)
        have e := hy.out.2 h200
        have HE : Hid (fewB j f = decide (y ≤ 8192)) := Lib.hid (by
          unfold fewB
          rw [d1, Bool.true_and, e]
          simp only [decide_eq_decide]; omega)
        clear e hy hlt hj
        go_wp2
        go_ret
        exact ⟨by rw [HE.out]; rfl, HF.out⟩
      · have d1 : decide (j ≤ 200) = false := decide_eq_false h200
        have d1i : decide ((j : Int) ≤ 200) = false := decide_eq_false (by omega)
        have HE : Hid (fewB j f = false) := Lib.hid (by unfold fewB; rw [d1, Bool.false_and])
        clear hy hlt hj
        go_wp2
        go_ret
        exact ⟨by rw [HE.out]; rfl, HF.out⟩
end Go.Proofs.YtdfkoehcmgcoiaaGreatDoor
