/- A reader's other steps, whatever they are: by their contract. -/
import Derived.Test.YtblfnbmgijppmaaDoorCk
namespace Go.Proofs.YtblfnbmgijppmaaDoor
open Go.RowKit

/-- What a step comes to: a panic with an Errno, or a value, the reader being at k'. -/
inductive SR where
  | bad (b : Int)
  | ok (k' : Nat)

def StepPost (w : World) (g : Nat) (A : Option Addr) (n c : Nat) (xs : List UInt8) (r : SR) (Q : World → Value → World → Prop) (e : Ending) (w' : World) : Prop :=
  match r with
  | .bad b => e = pan b ∧ (∃ p fat what, Rdr w' g A n c xs p 0 fat what) ∧ Fr (fun x => x = g) w w'
  | .ok k' => ∃ v, e = .returned v ∧ k' ≤ n ∧ (∃ fat what, Rdr w' g A n c xs k' 0 fat what) ∧ Fr (fun x => x = g) w w' ∧ Q w v w'

/-- What a try of a step comes to. -/
def TryPost (w : World) (g : Nat) (A : Option Addr) (n c : Nat) (xs : List UInt8) (k : Nat) (wh : ByteArray) (Q : World → Value → World → Prop) (z : Value) (r : SR) (e : Ending) (w' : World) : Prop :=
  match r with
  | .bad b => e = .returned z ∧ RdAt w' g A n c xs (.bad b k wh) ∧ Fr (fun x => x = g) w w'
  | .ok k' => ∃ v W, e = .returned v ∧ RdAt w' g A n c xs (.at_ k') ∧ Fr (fun x => x = g) w w' ∧ Fr (fun _ => False) w W ∧ Q W v w'

set_option maxRecDepth 100000 in
set_option maxHeartbeats 4000000 in
theorem tryInt_bad {w : World} {g : Nat} {A : Option Addr} {n c : Nat} {xs : List UInt8} {p er fat : Int} {what : ByteArray} (h : Rdr w g A n c xs p er fat what) (he : (er == 0) = false) (wh : ByteArray) (f : Value) :
    Calls Tryd.prog 62 #[.pointer (some ⟨g, 0, none⟩), .string wh, f] w fun e w' => e = .returned (.int .i64 0) ∧ Fr (fun _ => False) w w' := by
  have hf1 : Fr (fun _ => False) w ((w.alloc (.cells #[.pointer (some ⟨g, 0, none⟩)] 48)).alloc (.cells #[.string wh] 9)) := ((Fr.refl _ _).alloc _).alloc _
  go_enter_defers Tryd.func62, Tryd.ntmps62
  go_wp2_with (go_at_call 42; refine (failed_any (h.quiet hf1) _ he).mono ?_; rintro e w' ⟨rfl, rfl⟩)
  exact ⟨_, results_tmp rfl _ _ _, rfl, hf1⟩

set_option maxRecDepth 100000 in
set_option maxHeartbeats 4000000 in
theorem tryInt_step {w : World} {g : Nat} {A : Option Addr} {n c : Nat} {xs : List UInt8} {k : Nat} {fat : Int} {what : ByteArray} (h : Rdr w g A n c xs k 0 fat what) (ht : ErrT w) (wh : ByteArray) (hg : g ≠ 1)
    (F : FuncId) (caps : Array Value) (r : SR) (Q : World → Value → World → Prop) (hstep : ∀ W, Fr (fun _ => False) w W → Calls Tryd.prog F caps W (StepPost W g A n c xs r Q)) (hb : ∀ b, r = .bad b → b ≠ 0) (hcf : ∀ W : World, (callFunc F caps).run Tryd.prog W = .ok (.enter F caps) W) :
    Calls Tryd.prog 62 #[.pointer (some ⟨g, 0, none⟩), .string wh, .func (.func F) #[] caps] w (TryPost w g A n c xs k wh Q (.int .i64 0) r) := by
  have hf1 : Fr (fun _ => False) w ((w.alloc (.cells #[.pointer (some ⟨g, 0, none⟩)] 48)).alloc (.cells #[.string wh] 9)) := ((Fr.refl _ _).alloc _).alloc _
  have hf2 : Fr (fun _ => False) w (((w.alloc (.cells #[.pointer (some ⟨g, 0, none⟩)] 48)).alloc (.cells #[.string wh] 9)).alloc (.cells #[.int .i64 k] 3)) := hf1.alloc _
  have hmf : ∀ (fn : Fn) (first cap : Array Value) (w : World), (Instr.makeFunc fn first cap).run Tryd.prog w = .ok (.func fn first cap) w := fun _ _ _ _ => rfl
  have hat : ((w.alloc (.cells #[.pointer (some ⟨g, 0, none⟩)] 48)).alloc (.cells #[.string wh] 9)).cell? ⟨g, 1, none⟩ = some (.int .i64 k) := (h.quiet hf1).bk.cell 1
  have HS := Lib.hid hstep
  clear hstep
  have hlg := h.bk.lt
  go_enter_defers Tryd.func62, Tryd.ntmps62
  go_wp2_with (first
    | (go_at_call 42; refine (failed_any (h.quiet hf1) true rfl).mono ?_; rintro e w' ⟨rfl, rfl⟩))
  refine (HS.out _ hf2).mono ?_
  cases r with
  | bad b =>
    rintro e w1 ⟨rfl, ⟨p, _, _, hr1⟩, hf3⟩
    refine leaves_cons (f := 68) (args := #[.pointer (some ⟨w.heap.size + 1 + 1, 0, none⟩), .pointer (some ⟨w.heap.size + 1, 0, none⟩), .pointer (some ⟨w.heap.size, 0, none⟩)]) (by simp) (by simp [go_sem]) ?_
    have hF := (hf2.mono (T := fun x => x = g) (fun _ _ h => h.elim)).trans hf3 (fun _ _ h => h)
    refine (catchInt hr1 (ht.fr hF (fun e => hg e.symm)) ⟨w.heap.size + 1 + 1, 0, none⟩ ⟨w.heap.size + 1, 0, none⟩ ⟨w.heap.size, 0, none⟩ b k wh ?_ ?_ ?_ (by show w.heap.size + 1 + 1 ≠ g; omega) (by show w.heap.size + 1 ≠ g; omega) (by show w.heap.size ≠ g; omega)).mono ?_
    · exact (hf3.cell (p := ⟨w.heap.size + 1 + 1, 0, none⟩) (by simp) (by show ¬ w.heap.size + 1 + 1 = g; omega)).trans (by simp [go_sem])
    · exact (hf3.cell (p := ⟨w.heap.size + 1, 0, none⟩) (by simp) (by show ¬ w.heap.size + 1 = g; omega)).trans (by simp [go_sem])
    · exact (hf3.cell (p := ⟨w.heap.size, 0, none⟩) (by simp; omega) (by show ¬ w.heap.size = g; omega)).trans (by simp [go_sem])
    rintro e u' w'' ⟨rfl, rfl, hr2, hf4⟩
    exact ⟨_, results_tmp rfl _ _ _, rfl, ⟨hb b rfl, _, hr2⟩, hF.trans hf4 (fun _ _ h => h)⟩
  | ok k' =>
    rintro e w1 ⟨v, rfl, hk', ⟨fat1, what1, hr1⟩, hf3, hq⟩
    go_wp2
    refine leaves_cons (f := 68) (args := #[.pointer (some ⟨w.heap.size + 1 + 1, 0, none⟩), .pointer (some ⟨w.heap.size + 1, 0, none⟩), .pointer (some ⟨w.heap.size, 0, none⟩)]) (by simp) (by simp [go_sem]) ?_
    have hF := (hf2.mono (T := fun x => x = g) (fun _ _ h => h.elim)).trans hf3 (fun _ _ h => h)
    refine (idleInt _ _ _ _).mono ?_
    rintro e u' w'' ⟨rfl, rfl, rfl⟩
    exact ⟨_, results_tmp rfl _ _ _, v, _, rfl, ⟨hk', _, _, hr1⟩, hF, hf2, hq⟩
set_option maxRecDepth 100000 in
set_option maxHeartbeats 4000000 in
theorem tryB_bad {w : World} {g : Nat} {A : Option Addr} {n c : Nat} {xs : List UInt8} {p er fat : Int} {what : ByteArray} (h : Rdr w g A n c xs p er fat what) (he : (er == 0) = false) (wh : ByteArray) (f : Value) :
    Calls Tryd.prog 39 #[.pointer (some ⟨g, 0, none⟩), .string wh, f] w fun e w' => e = .returned (.slice none 0 0) ∧ Fr (fun _ => False) w w' := by
  have hf1 : Fr (fun _ => False) w ((w.alloc (.cells #[.pointer (some ⟨g, 0, none⟩)] 48)).alloc (.cells #[.string wh] 9)) := ((Fr.refl _ _).alloc _).alloc _
  go_enter_defers Tryd.func39, Tryd.ntmps39
  go_wp2_with (go_at_call 42; refine (failed_any (h.quiet hf1) _ he).mono ?_; rintro e w' ⟨rfl, rfl⟩)
  exact ⟨_, results_tmp rfl _ _ _, rfl, hf1⟩

set_option maxRecDepth 100000 in
set_option maxHeartbeats 4000000 in
theorem tryB_step {w : World} {g : Nat} {A : Option Addr} {n c : Nat} {xs : List UInt8} {k : Nat} {fat : Int} {what : ByteArray} (h : Rdr w g A n c xs k 0 fat what) (ht : ErrT w) (wh : ByteArray) (hg : g ≠ 1)
    (F : FuncId) (caps : Array Value) (r : SR) (Q : World → Value → World → Prop) (hstep : ∀ W, Fr (fun _ => False) w W → Calls Tryd.prog F caps W (StepPost W g A n c xs r Q)) (hb : ∀ b, r = .bad b → b ≠ 0) (hcf : ∀ W : World, (callFunc F caps).run Tryd.prog W = .ok (.enter F caps) W) :
    Calls Tryd.prog 39 #[.pointer (some ⟨g, 0, none⟩), .string wh, .func (.func F) #[] caps] w (TryPost w g A n c xs k wh Q (.slice none 0 0) r) := by
  have hf1 : Fr (fun _ => False) w ((w.alloc (.cells #[.pointer (some ⟨g, 0, none⟩)] 48)).alloc (.cells #[.string wh] 9)) := ((Fr.refl _ _).alloc _).alloc _
  have hf2 : Fr (fun _ => False) w (((w.alloc (.cells #[.pointer (some ⟨g, 0, none⟩)] 48)).alloc (.cells #[.string wh] 9)).alloc (.cells #[.int .i64 k] 3)) := hf1.alloc _
  have hmf : ∀ (fn : Fn) (first cap : Array Value) (w : World), (Instr.makeFunc fn first cap).run Tryd.prog w = .ok (.func fn first cap) w := fun _ _ _ _ => rfl
  have hat : ((w.alloc (.cells #[.pointer (some ⟨g, 0, none⟩)] 48)).alloc (.cells #[.string wh] 9)).cell? ⟨g, 1, none⟩ = some (.int .i64 k) := (h.quiet hf1).bk.cell 1
  have HS := Lib.hid hstep
  clear hstep
  have hlg := h.bk.lt
  go_enter_defers Tryd.func39, Tryd.ntmps39
  go_wp2_with (first
    | (go_at_call 42; refine (failed_any (h.quiet hf1) true rfl).mono ?_; rintro e w' ⟨rfl, rfl⟩))
  refine (HS.out _ hf2).mono ?_
  cases r with
  | bad b =>
    rintro e w1 ⟨rfl, ⟨p, _, _, hr1⟩, hf3⟩
    refine leaves_cons (f := 61) (args := #[.pointer (some ⟨w.heap.size + 1 + 1, 0, none⟩), .pointer (some ⟨w.heap.size + 1, 0, none⟩), .pointer (some ⟨w.heap.size, 0, none⟩)]) (by simp) (by simp [go_sem]) ?_
    have hF := (hf2.mono (T := fun x => x = g) (fun _ _ h => h.elim)).trans hf3 (fun _ _ h => h)
    refine (catchB hr1 (ht.fr hF (fun e => hg e.symm)) ⟨w.heap.size + 1 + 1, 0, none⟩ ⟨w.heap.size + 1, 0, none⟩ ⟨w.heap.size, 0, none⟩ b k wh ?_ ?_ ?_ (by show w.heap.size + 1 + 1 ≠ g; omega) (by show w.heap.size + 1 ≠ g; omega) (by show w.heap.size ≠ g; omega)).mono ?_
    · exact (hf3.cell (p := ⟨w.heap.size + 1 + 1, 0, none⟩) (by simp) (by show ¬ w.heap.size + 1 + 1 = g; omega)).trans (by simp [go_sem])
    · exact (hf3.cell (p := ⟨w.heap.size + 1, 0, none⟩) (by simp) (by show ¬ w.heap.size + 1 = g; omega)).trans (by simp [go_sem])
    · exact (hf3.cell (p := ⟨w.heap.size, 0, none⟩) (by simp; omega) (by show ¬ w.heap.size = g; omega)).trans (by simp [go_sem])
    rintro e u' w'' ⟨rfl, rfl, hr2, hf4⟩
    exact ⟨_, results_tmp rfl _ _ _, rfl, ⟨hb b rfl, _, hr2⟩, hF.trans hf4 (fun _ _ h => h)⟩
  | ok k' =>
    rintro e w1 ⟨v, rfl, hk', ⟨fat1, what1, hr1⟩, hf3, hq⟩
    go_wp2
    refine leaves_cons (f := 61) (args := #[.pointer (some ⟨w.heap.size + 1 + 1, 0, none⟩), .pointer (some ⟨w.heap.size + 1, 0, none⟩), .pointer (some ⟨w.heap.size, 0, none⟩)]) (by simp) (by simp [go_sem]) ?_
    have hF := (hf2.mono (T := fun x => x = g) (fun _ _ h => h.elim)).trans hf3 (fun _ _ h => h)
    refine (idleB _ _ _ _).mono ?_
    rintro e u' w'' ⟨rfl, rfl, rfl⟩
    exact ⟨_, results_tmp rfl _ _ _, v, _, rfl, ⟨hk', _, _, hr1⟩, hF, hf2, hq⟩
end Go.Proofs.YtblfnbmgijppmaaDoor
