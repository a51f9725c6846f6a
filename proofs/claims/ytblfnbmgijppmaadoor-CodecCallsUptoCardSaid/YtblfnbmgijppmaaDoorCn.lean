/- The reader's Between, Bytes, End, and a new one. -/
import Derived.Test.YtblfnbmgijppmaaDoorCm
namespace Go.Proofs.YtblfnbmgijppmaaDoor
open Go.RowKit

def stBetween (xs : List UInt8) (wh : ByteArray) (lo hi : Int) : St → Int × St
  | .bad er a w0 => (0, .bad er a w0)
  | .at_ k => match (srWithin xs k lo hi).1 with
    | .bad b => (0, .bad b k wh)
    | .ok k' => ((srWithin xs k lo hi).2, .at_ k')
def stBytes (xs : List UInt8) (wh : ByteArray) (most : Int) : St → List UInt8 × St
  | .bad er a w0 => ([], .bad er a w0)
  | .at_ k => match (srRun xs k most).1 with
    | .bad b => ([], .bad b k wh)
    | .ok k' => ((srRun xs k most).2, .at_ k')

theorem srWithin_bad {xs : List UInt8} {k : Nat} {lo hi b : Int} (h : (srWithin xs k lo hi).1 = .bad b) : b ≠ 0 := by
  unfold srWithin at h
  cases hN : rdNum (xs.drop k) with
  | bad b' => rw [hN] at h; injection h with h; subst h; exact num_bad hN
  | ok u m =>
    rw [hN] at h
    simp only at h
    split at h
    · injection h with h; omega
    · cases h
theorem srRun_bad {xs : List UInt8} {k : Nat} {most b : Int} (h : (srRun xs k most).1 = .bad b) : b ≠ 0 := by
  unfold srRun at h
  cases hN : rdNum (xs.drop k) with
  | bad b' => rw [hN] at h; injection h with h; subst h; exact num_bad hN
  | ok u m =>
    rw [hN] at h
    simp only at h
    repeat' split at h
    all_goals first | (injection h with h; omega) | cases h

set_option maxRecDepth 100000 in
set_option maxHeartbeats 1000000 in
theorem between1_any {w : World} {g : Nat} {A : Option Addr} {n c : Nat} {xs : List UInt8} {k : Nat} {fat : Int} {what : ByteArray} (h : Rdr w g A n c xs k 0 fat what) (hk : k ≤ n) (lo hi : Int) (a1 a2 a3 : Addr)
    (h1 : w.cell? a1 = some (.pointer (some ⟨g, 0, none⟩))) (h2 : w.cell? a2 = some (.int .i64 lo)) (h3 : w.cell? a3 = some (.int .i64 hi)) :
    Calls Tryd.prog 63 #[.pointer (some a1), .pointer (some a2), .pointer (some a3)] w (StepPost w g A n c xs (srWithin xs k lo hi).1 (fun _ v _ => v = .int .i64 (srWithin xs k lo hi).2)) := by
  generalize hR : (srWithin xs k lo hi).1 = r
  generalize hV : (srWithin xs k lo hi).2 = v0
  have HR := Lib.hid hR
  have HV := Lib.hid hV
  clear hR hV
  go_enter Tryd.func63, Tryd.ntmps63
  go_wp2_with fail
  refine (within_any h hk lo hi).mono ?_
  rw [HR.out, HV.out]
  cases r with
  | bad b =>
    rintro e w1 ⟨rfl, hr1, hf1⟩
    exact ⟨rfl, rfl, hr1, hf1⟩
  | ok k' =>
    rintro e w1 ⟨v, rfl, hk', hr1, hf1, rfl⟩
    go_wp2
    go_ret
    exact ⟨_, rfl, hk', hr1, hf1, rfl⟩

set_option maxRecDepth 100000 in
set_option maxHeartbeats 1000000 in
theorem bytes1_any {w : World} {g : Nat} {A : Option Addr} {n c : Nat} {xs : List UInt8} {k : Nat} {fat : Int} {what : ByteArray} (h : Rdr w g A n c xs k 0 fat what) (hk : k ≤ n) (most : Int) (a1 a2 : Addr)
    (h1 : w.cell? a1 = some (.pointer (some ⟨g, 0, none⟩))) (h2 : w.cell? a2 = some (.int .i64 most)) :
    Calls Tryd.prog 40 #[.pointer (some a1), .pointer (some a2)] w (StepPost w g A n c xs (srRun xs k most).1 (runQ (srRun xs k most).2)) := by
  generalize hR : (srRun xs k most).1 = r
  generalize hV : (srRun xs k most).2 = v0
  have HR := Lib.hid hR
  have HV := Lib.hid hV
  clear hR hV
  go_enter Tryd.func40, Tryd.ntmps40
  go_wp2_with fail
  refine (run_any h hk most).mono ?_
  rw [HR.out, HV.out]
  cases r with
  | bad b =>
    rintro e w1 ⟨rfl, hr1, hf1⟩
    exact ⟨rfl, rfl, hr1, hf1⟩
  | ok k' =>
    rintro e w1 ⟨v, rfl, hk', hr1, hf1, hq⟩
    go_wp2
    go_ret
    exact ⟨_, rfl, hk', hr1, hf1, hq⟩

set_option maxRecDepth 100000 in
set_option maxHeartbeats 1000000 in
theorem rBetween_any {w : World} {g : Nat} {A : Option Addr} {n c : Nat} {xs : List UInt8} {s : St} (h : RdAt w g A n c xs s) (ht : ErrT w) (wh : ByteArray) (hg : g ≠ 1) (lo hi : Int) :
    Calls Tryd.prog 46 #[.pointer (some ⟨g, 0, none⟩), .string wh, .int .i64 lo, .int .i64 hi] w fun e w' =>
      e = .returned (.int .i64 (stBetween xs wh lo hi s).1) ∧ RdAt w' g A n c xs (stBetween xs wh lo hi s).2 ∧ Fr (fun x => x = g) w w' := by
  have hmf : ∀ (fn : Fn) (first cap : Array Value) (w : World), (Instr.makeFunc fn first cap).run Tryd.prog w = .ok (.func fn first cap) w := fun _ _ _ _ => rfl
  have hf0 : Fr (fun _ => False) w (((w.alloc (.cells #[.pointer (some ⟨g, 0, none⟩)] 48)).alloc (.cells #[.int .i64 lo] 3)).alloc (.cells #[.int .i64 hi] 3)) := (((Fr.refl _ _).alloc _).alloc _).alloc _
  have hcells : (((w.alloc (.cells #[.pointer (some ⟨g, 0, none⟩)] 48)).alloc (.cells #[.int .i64 lo] 3)).alloc (.cells #[.int .i64 hi] 3)).cell? ⟨w.heap.size, 0, none⟩ = some (.pointer (some ⟨g, 0, none⟩)) ∧
      (((w.alloc (.cells #[.pointer (some ⟨g, 0, none⟩)] 48)).alloc (.cells #[.int .i64 lo] 3)).alloc (.cells #[.int .i64 hi] 3)).cell? ⟨w.heap.size + 1, 0, none⟩ = some (.int .i64 lo) ∧
      (((w.alloc (.cells #[.pointer (some ⟨g, 0, none⟩)] 48)).alloc (.cells #[.int .i64 lo] 3)).alloc (.cells #[.int .i64 hi] 3)).cell? ⟨w.heap.size + 1 + 1, 0, none⟩ = some (.int .i64 hi) ∧
      (((w.alloc (.cells #[.pointer (some ⟨g, 0, none⟩)] 48)).alloc (.cells #[.int .i64 lo] 3)).alloc (.cells #[.int .i64 hi] 3)).heap.size = w.heap.size + 1 + 1 + 1 := by simp [go_sem]
  have HC := Lib.hid hcells
  clear hcells
  cases s with
  | bad er a w0 =>
    obtain ⟨he, p, hr⟩ := h
    have he' : (er == 0) = false := by rw [beq_eq_false_iff_ne]; exact he
    go_enter Tryd.func46, Tryd.ntmps46
    go_wp2_with (go_at_call 62; refine (tryInt_bad (hr.quiet hf0) he' wh _).mono ?_; rintro e w1 ⟨rfl, h1⟩)
    go_ret
    have h2 := hf0.trans h1 (fun _ _ h => h)
    exact ⟨rfl, ⟨he, p, hr.quiet h2⟩, h2.mono (fun _ _ h => h.elim)⟩
  | at_ k =>
    obtain ⟨hk, fat, what, hr⟩ := h
    have hs : stBetween xs wh lo hi (.at_ k) = (match (srWithin xs k lo hi).1 with | .bad b => (0, .bad b k wh) | .ok k' => ((srWithin xs k lo hi).2, .at_ k')) := rfl
    have hbad : ∀ b, (srWithin xs k lo hi).1 = .bad b → b ≠ 0 := fun b => srWithin_bad
    have hstep : ∀ W, Fr (fun _ => False) (((w.alloc (.cells #[.pointer (some ⟨g, 0, none⟩)] 48)).alloc (.cells #[.int .i64 lo] 3)).alloc (.cells #[.int .i64 hi] 3)) W →
        Calls Tryd.prog 63 #[.pointer (some ⟨w.heap.size, 0, none⟩), .pointer (some ⟨w.heap.size + 1, 0, none⟩), .pointer (some ⟨w.heap.size + 1 + 1, 0, none⟩)] W (StepPost W g A n c xs (srWithin xs k lo hi).1 (fun _ v _ => v = .int .i64 (srWithin xs k lo hi).2)) := by
      intro W hW
      obtain ⟨e1, e2, e3, e4⟩ := HC.out
      exact between1_any (hr.quiet (hf0.trans hW (fun _ _ h => h))) hk lo hi _ _ _ ((hW.cell (p := ⟨w.heap.size, 0, none⟩) (by rw [e4]; show w.heap.size < _; omega) (fun h => h)).trans e1) ((hW.cell (p := ⟨w.heap.size + 1, 0, none⟩) (by rw [e4]; show w.heap.size + 1 < _; omega) (fun h => h)).trans e2) ((hW.cell (p := ⟨w.heap.size + 1 + 1, 0, none⟩) (by rw [e4]; show w.heap.size + 1 + 1 < _; omega) (fun h => h)).trans e3)
    rw [hs]
    clear hs
    generalize (srWithin xs k lo hi).1 = r at *
    generalize (srWithin xs k lo hi).2 = v0 at *
    have HS := Lib.hid hstep
    have HB := Lib.hid hbad
    clear hstep hbad
    go_enter Tryd.func46, Tryd.ntmps46
    go_wp2_with fail
    refine (tryInt_step (hr.quiet hf0) (ht.fr hf0 (fun h => h)) wh hg _ _ r _ HS.out HB.out (fun _ => by kernel_rfl)).mono ?_
    cases r with
    | bad b =>
      rintro e w1 ⟨rfl, h1, h2⟩
      go_wp2
      go_ret
      exact ⟨rfl, h1, (hf0.mono (fun _ _ h => h.elim)).trans h2 (fun _ _ h => h)⟩
    | ok k' =>
      rintro e w1 ⟨v, W, rfl, h1, h2, _, rfl⟩
      go_wp2
      go_ret
      exact ⟨rfl, h1, (hf0.mono (fun _ _ h => h.elim)).trans h2 (fun _ _ h => h)⟩
end Go.Proofs.YtblfnbmgijppmaaDoor
