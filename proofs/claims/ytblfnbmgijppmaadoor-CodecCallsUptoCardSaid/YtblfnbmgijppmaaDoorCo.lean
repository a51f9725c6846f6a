/- The reader's Bytes, End, and a new one. -/
import Derived.Test.YtblfnbmgijppmaaDoorCn
namespace Go.Proofs.YtblfnbmgijppmaaDoor
open Go.RowKit

def SliceNew (w w' : World) (v : Value) (bs : List UInt8) : Prop := ∃ A' c', v = .slice A' bs.length c' ∧ Own8 w' 5 (.slice A' bs.length c') bs ∧ ∀ k, v.ownBlock = some k → w.heap.size ≤ k

set_option maxRecDepth 100000 in
set_option maxHeartbeats 1000000 in
theorem rBytes_any {w : World} {g : Nat} {A : Option Addr} {n c : Nat} {xs : List UInt8} {s : St} (h : RdAt w g A n c xs s) (ht : ErrT w) (wh : ByteArray) (hg : g ≠ 1) (most : Int) :
    Calls Tryd.prog 17 #[.pointer (some ⟨g, 0, none⟩), .string wh, .int .i64 most] w fun e w' =>
      ∃ v, e = .returned v ∧ SliceNew w w' v (stBytes xs wh most s).1 ∧ RdAt w' g A n c xs (stBytes xs wh most s).2 ∧ Fr (fun x => x = g) w w' := by
  have hmf : ∀ (fn : Fn) (first cap : Array Value) (w : World), (Instr.makeFunc fn first cap).run Tryd.prog w = .ok (.func fn first cap) w := fun _ _ _ _ => rfl
  have hf0 : Fr (fun _ => False) w ((w.alloc (.cells #[.pointer (some ⟨g, 0, none⟩)] 48)).alloc (.cells #[.int .i64 most] 3)) := ((Fr.refl _ _).alloc _).alloc _
  have hcells : ((w.alloc (.cells #[.pointer (some ⟨g, 0, none⟩)] 48)).alloc (.cells #[.int .i64 most] 3)).cell? ⟨w.heap.size, 0, none⟩ = some (.pointer (some ⟨g, 0, none⟩)) ∧
      ((w.alloc (.cells #[.pointer (some ⟨g, 0, none⟩)] 48)).alloc (.cells #[.int .i64 most] 3)).cell? ⟨w.heap.size + 1, 0, none⟩ = some (.int .i64 most) ∧
      ((w.alloc (.cells #[.pointer (some ⟨g, 0, none⟩)] 48)).alloc (.cells #[.int .i64 most] 3)).heap.size = w.heap.size + 1 + 1 := by simp [go_sem]
  have HC := Lib.hid hcells
  clear hcells
  cases s with
  | bad er a w0 =>
    obtain ⟨he, p, hr⟩ := h
    have he' : (er == 0) = false := by rw [beq_eq_false_iff_ne]; exact he
    go_enter Tryd.func17, Tryd.ntmps17
    go_wp2_with (go_at_call 39; refine (tryB_bad (hr.quiet hf0) he' wh _).mono ?_; rintro e w1 ⟨rfl, h1⟩)
    go_ret
    have h2 := hf0.trans h1 (fun _ _ h => h)
    exact ⟨_, rfl, ⟨none, 0, rfl, Own8.nil _ _, fun k hk => by simp [Value.ownBlock] at hk⟩, ⟨he, p, hr.quiet h2⟩, h2.mono (fun _ _ h => h.elim)⟩
  | at_ k =>
    obtain ⟨hk, fat, what, hr⟩ := h
    have hs : stBytes xs wh most (.at_ k) = (match (srRun xs k most).1 with | .bad b => ([], .bad b k wh) | .ok k' => ((srRun xs k most).2, .at_ k')) := rfl
    have hbad : ∀ b, (srRun xs k most).1 = .bad b → b ≠ 0 := fun b => srRun_bad
    have hstep : ∀ W, Fr (fun _ => False) ((w.alloc (.cells #[.pointer (some ⟨g, 0, none⟩)] 48)).alloc (.cells #[.int .i64 most] 3)) W →
        Calls Tryd.prog 40 #[.pointer (some ⟨w.heap.size, 0, none⟩), .pointer (some ⟨w.heap.size + 1, 0, none⟩)] W (StepPost W g A n c xs (srRun xs k most).1 (runQ (srRun xs k most).2)) := by
      intro W hW
      obtain ⟨e1, e2, e4⟩ := HC.out
      exact bytes1_any (hr.quiet (hf0.trans hW (fun _ _ h => h))) hk most _ _ ((hW.cell (p := ⟨w.heap.size, 0, none⟩) (by rw [e4]; show w.heap.size < _; omega) (fun h => h)).trans e1) ((hW.cell (p := ⟨w.heap.size + 1, 0, none⟩) (by rw [e4]; show w.heap.size + 1 < _; omega) (fun h => h)).trans e2)
    rw [hs]
    clear hs
    generalize (srRun xs k most).1 = r at *
    generalize (srRun xs k most).2 = v0 at *
    have HS := Lib.hid hstep
    have HB := Lib.hid hbad
    clear hstep hbad
    go_enter Tryd.func17, Tryd.ntmps17
    go_wp2_with fail
    refine (tryB_step (hr.quiet hf0) (ht.fr hf0 (fun h => h)) wh hg _ _ r _ HS.out HB.out (fun _ => by kernel_rfl)).mono ?_
    cases r with
    | bad b =>
      rintro e w1 ⟨rfl, h1, h2⟩
      go_wp2
      go_ret
      exact ⟨_, rfl, ⟨none, 0, rfl, Own8.nil _ _, fun k hk => by simp [Value.ownBlock] at hk⟩, h1, (hf0.mono (fun _ _ h => h.elim)).trans h2 (fun _ _ h => h)⟩
    | ok k' =>
      rintro e w1 ⟨v, W, rfl, h1, h2, hW, ⟨A', c', rfl, ho, hown⟩⟩
      go_wp2
      go_ret
      exact ⟨_, rfl, ⟨A', c', rfl, ho, fun k hk => Nat.le_trans (Nat.le_trans hf0.size hW.size) (hown k hk)⟩, h1, (hf0.mono (fun _ _ h => h.elim)).trans h2 (fun _ _ h => h)⟩

def sEnd : ByteArray := ⟨#[101, 110, 100]⟩
/-- What a reader tells in the end. -/
def stEnd (xs : List UInt8) : St → Option (Int × Int × ByteArray)
  | .bad er a wh => some (er, a, wh)
  | .at_ k => if k < xs.length then some (8, k, sEnd) else none

/-- An error: none, or a Fault in a new block. -/
def ErrIs (w w' : World) (v : Value) : Option (Int × Int × ByteArray) → Prop
  | none => v = .nilIface
  | some (er, a, wh) => ∃ fb, v = .iface 73 (.pointer (some ⟨fb, 0, none⟩)) ∧ Bk w' fb 61 #[.int .i64 er, .int .i64 a, .string wh] ∧ w.heap.size ≤ fb

set_option maxRecDepth 100000 in
set_option maxHeartbeats 1000000 in
theorem rEnd_any {w : World} {g : Nat} {A : Option Addr} {n c : Nat} {xs : List UInt8} {s : St} (h : RdAt w g A n c xs s) :
    Calls Tryd.prog 18 #[.pointer (some ⟨g, 0, none⟩)] w fun e w' => ∃ v, e = .returned v ∧ ErrIs w w' v (stEnd xs s) ∧ Fr (fun _ => False) w w' := by
  cases s with
  | bad er a w0 =>
    obtain ⟨he, p, hr⟩ := h
    have he' : (er == 0) = false := by rw [beq_eq_false_iff_ne]; exact he
    have c2 : w.cell? ⟨g, 2, none⟩ = some (.int .i64 er) := hr.bk.cell 2
    have c3 : w.cell? ⟨g, 3, none⟩ = some (.int .i64 a) := hr.bk.cell 3
    have c4 : w.cell? ⟨g, 4, none⟩ = some (.string w0) := hr.bk.cell 4
    go_enter Tryd.func18, Tryd.ntmps18
    go_wp2_with (go_at_call 42; refine (failed_any hr _ he').mono ?_; rintro e w' ⟨rfl, rfl⟩)
    go_ret
    exact ⟨_, rfl, ⟨_, rfl, Bk.new _ _ _, Nat.le_refl _⟩, (Fr.refl _ _).alloc _⟩
  | at_ k =>
    obtain ⟨hk, fat, what, hr⟩ := h
    have hl := hr.len
    have c0 : w.cell? ⟨g, 0, none⟩ = some (.slice A n c) := hr.bk.cell 0
    have c1 : w.cell? ⟨g, 1, none⟩ = some (.int .i64 k) := hr.bk.cell 1
    by_cases hlt : k < n
    · have hs : stEnd xs (.at_ k) = some ((8 : Int), (k : Int), sEnd) := by simp only [stEnd]; rw [if_pos (by omega)]
      rw [hs]
      clear hs
      go_enter Tryd.func18, Tryd.ntmps18
      go_wp2_with (go_at_call 42; refine (failed_any hr true rfl).mono ?_; rintro e w' ⟨rfl, rfl⟩)
      go_quiet (fail)
      go_wp2
      go_ret
      exact ⟨_, rfl, ⟨_, rfl, Bk.new _ _ _, Nat.le_refl _⟩, ((Fr.refl _ _).drewN _).alloc _⟩
    · have hs : stEnd xs (.at_ k) = none := by simp only [stEnd]; rw [if_neg (by omega)]
      rw [hs]
      clear hs
      have hge : (n : Int) ≤ k := by omega
      go_enter Tryd.func18, Tryd.ntmps18
      go_wp2_with (go_at_call 42; refine (failed_any hr true rfl).mono ?_; rintro e w' ⟨rfl, rfl⟩)
      go_quiet (fail)
      go_wp2
      go_ret
      exact ⟨_, rfl, rfl, (Fr.refl _ _).drewN _⟩

set_option maxRecDepth 100000 in
set_option maxHeartbeats 1000000 in
theorem newReader_any (A : Option Addr) (n c : Nat) (xs : List UInt8) (w : World) (hr : Rd8 w A xs) (hn : xs.length = n) (hb : n ≤ 17592186044416) :
    Calls Tryd.prog 15 #[.slice A n c] w fun e w' => ∃ g A' c', e = .returned (.pointer (some ⟨g, 0, none⟩)) ∧ RdAt w' g A' n c' xs (.at_ 0) ∧ Fr (fun _ => False) w w' ∧ w.heap.size ≤ g := by
  go_enter Tryd.func15, Tryd.ntmps15
  go_wp2_with (go_at_call 36; refine (clone_any A n c xs w hr hn (by omega)).mono ?_; rintro e w1 ⟨A1, c1, rfl, ho1, hf1⟩)
  go_ret
  have hbk := Bk.new w1 63 #[.slice A1 n c1, .int .i64 0, .int .i64 0, .int .i64 0, .string ByteArray.empty]
  have hq : Fr (fun _ => False) w1 (w1.alloc (.cells #[.slice A1 n c1, .int .i64 0, .int .i64 0, .int .i64 0, .string ByteArray.empty] 63)) := (Fr.refl _ _).alloc _
  refine ⟨_, A1, c1, rfl, ⟨Nat.zero_le _, 0, ByteArray.empty, ?_⟩, hf1.1.trans hq (fun _ _ h => h), hf1.1.size⟩
  exact
    { bk := hbk
      rd := (ho1.fr hq (fun _ _ h => h)).rd
      len := hn
      cap := by
        rcases ho1.form with ⟨e, h0⟩ | ⟨g, cap, e, h1, _⟩
        · subst h0; simp at hn; omega
        · injection e with _ _ e; subst e; omega
      big := by omega
      apart := fun ad e _ => by
        subst e
        have := ho1.lt (k := ad.block) rfl
        omega
      spot := fun ad e _ => by
        subst e
        rcases ho1.form with ⟨e, h0⟩ | ⟨g, cap, e, h1, _⟩
        · cases e
        · injection e with e _ _; injection e with e; subst e; rfl }
end Go.Proofs.YtblfnbmgijppmaaDoor
