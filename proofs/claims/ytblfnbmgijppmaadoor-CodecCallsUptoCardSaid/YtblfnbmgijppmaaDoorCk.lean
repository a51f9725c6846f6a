/- The reader's Int. -/
import Derived.Test.YtblfnbmgijppmaaDoorCj
namespace Go.Proofs.YtblfnbmgijppmaaDoor
open Go.RowKit

/-- Where a reader stands: at a place, or at its fault. -/
inductive St where
  | at_ (k : Nat)
  | bad (er a : Int) (wh : ByteArray)

def RdAt (w : World) (g : Nat) (A : Option Addr) (n c : Nat) (xs : List UInt8) : St → Prop
  | .at_ k => k ≤ n ∧ ∃ fat what, Rdr w g A n c xs k 0 fat what
  | .bad er a wh => er ≠ 0 ∧ ∃ p, Rdr w g A n c xs p er a wh

def stInt (xs : List UInt8) (wh : ByteArray) : St → Int × St
  | .bad er a w0 => (0, .bad er a w0)
  | .at_ k => match rdNum (xs.drop k) with
    | .bad b => (0, .bad b k wh)
    | .ok u m => (unfN u, .at_ (k + m))

theorem num_bad_or : ∀ (f i acc : Nat) (l : List UInt8) (b : Int), num f i acc l = .bad b → b = 7 ∨ b = 8
  | 0, _, _, _, _, h => by unfold num at h; injection h with h; exact .inr h.symm
  | _ + 1, _, _, [], _, h => by unfold num at h; injection h with h; exact .inl h.symm
  | f + 1, i, acc, c :: l, b, h => by
    unfold num at h
    split at h
    · exact num_bad_or f _ _ _ _ h
    · split at h
      · injection h with h; exact .inr h.symm
      · cases h
theorem num_bad {l : List UInt8} {b : Int} (h : rdNum l = .bad b) : b ≠ 0 := by
  rcases num_bad_or _ _ _ _ _ h with h | h <;> omega
theorem num_ok : ∀ (f i acc : Nat) (l : List UInt8) (u m : Nat), num f i acc l = .ok u m → i < m ∧ m ≤ i + l.length
  | 0, _, _, _, _, _, h => by unfold num at h; cases h
  | _ + 1, _, _, [], _, _, h => by unfold num at h; cases h
  | f + 1, i, acc, c :: l, u, m, h => by
    unfold num at h
    split at h
    · have := num_ok f _ _ _ _ _ h
      rw [List.length_cons]; omega
    · split at h
      · cases h
      · injection h with _ h
        rw [List.length_cons]; omega

theorem RdAt.quiet {w w' : World} {g : Nat} {A : Option Addr} {n c : Nat} {xs : List UInt8} {s : St} (h : RdAt w g A n c xs s) (hf : Fr (fun _ => False) w w') : RdAt w' g A n c xs s := by
  cases s with
  | at_ k => exact ⟨h.1, h.2.imp fun _ h => h.imp fun _ h => h.quiet hf⟩
  | bad er a wh => exact ⟨h.1, h.2.imp fun _ h => h.quiet hf⟩

set_option maxRecDepth 100000 in
set_option maxHeartbeats 4000000 in
theorem try64_bad {w : World} {g : Nat} {A : Option Addr} {n c : Nat} {xs : List UInt8} {p er fat : Int} {what : ByteArray} (h : Rdr w g A n c xs p er fat what) (he : (er == 0) = false) (wh : ByteArray) (f : Value) :
    Calls Tryd.prog 37 #[.pointer (some ⟨g, 0, none⟩), .string wh, f] w fun e w' => e = .returned (.int .i64 0) ∧ Fr (fun _ => False) w w' := by
  have hf1 : Fr (fun _ => False) w ((w.alloc (.cells #[.pointer (some ⟨g, 0, none⟩)] 48)).alloc (.cells #[.string wh] 9)) := ((Fr.refl _ _).alloc _).alloc _
  go_enter_defers Tryd.func37, Tryd.ntmps37
  go_wp2_with (go_at_call 42; refine (failed_any (h.quiet hf1) _ he).mono ?_; rintro e w' ⟨rfl, rfl⟩)
  exact ⟨_, results_tmp rfl _ _ _, rfl, hf1⟩

set_option maxRecDepth 100000 in
set_option maxHeartbeats 4000000 in
theorem try64_num {w : World} {g : Nat} {A : Option Addr} {n c : Nat} {xs : List UInt8} {k : Nat} {fat : Int} {what : ByteArray} (h : Rdr w g A n c xs k 0 fat what) (hk : k ≤ n) (ht : ErrT w) (wh : ByteArray) (hg : g ≠ 1) :
    Calls Tryd.prog 37 #[.pointer (some ⟨g, 0, none⟩), .string wh, .func (.func 38) #[.pointer (some ⟨g, 0, none⟩)] #[]] w fun e w' =>
      e = .returned (.int .i64 (stInt xs wh (.at_ k)).1) ∧ RdAt w' g A n c xs (stInt xs wh (.at_ k)).2 ∧ Fr (fun x => x = g) w w' := by
  have hf1 : Fr (fun _ => False) w ((w.alloc (.cells #[.pointer (some ⟨g, 0, none⟩)] 48)).alloc (.cells #[.string wh] 9)) := ((Fr.refl _ _).alloc _).alloc _
  have hf2 : Fr (fun _ => False) w (((w.alloc (.cells #[.pointer (some ⟨g, 0, none⟩)] 48)).alloc (.cells #[.string wh] 9)).alloc (.cells #[.int .i64 k] 3)) := hf1.alloc _
  have hmf : ∀ (fn : Fn) (first cap : Array Value) (w : World), (Instr.makeFunc fn first cap).run Tryd.prog w = .ok (.func fn first cap) w := fun _ _ _ _ => rfl
  have hat : ((w.alloc (.cells #[.pointer (some ⟨g, 0, none⟩)] 48)).alloc (.cells #[.string wh] 9)).cell? ⟨g, 1, none⟩ = some (.int .i64 k) := (h.quiet hf1).bk.cell 1
  cases hN : rdNum (xs.drop k) with
  | bad b =>
    have hs : stInt xs wh (.at_ k) = (0, .bad b k wh) := by simp [stInt, hN]
    rw [hs]
    clear hs
    have HN := Lib.hid hN
    clear hN
    go_enter_defers Tryd.func37, Tryd.ntmps37
    go_wp2_with (first
      | (go_at_call 42; refine (failed_any (h.quiet hf1) true rfl).mono ?_; rintro e w' ⟨rfl, rfl⟩)
      | (go_at_call 38; refine (number_any k (h.quiet hf2) hk).mono ?_; rw [HN.out]; rintro e w1 ⟨rfl, ⟨p, hr1⟩, hf3⟩))
    refine leaves_cons (f := 57) (args := #[.pointer (some ⟨w.heap.size + 1 + 1, 0, none⟩), .pointer (some ⟨w.heap.size + 1, 0, none⟩), .pointer (some ⟨w.heap.size, 0, none⟩)]) (by simp) (by simp [go_sem]) ?_
    have hlg := h.bk.lt
    have hF := (hf2.mono (T := fun x => x = g) (fun _ _ h => h.elim)).trans hf3 (fun _ _ h => h)
    refine (catch64 hr1 (ht.fr hF (fun e => hg e.symm)) ⟨w.heap.size + 1 + 1, 0, none⟩ ⟨w.heap.size + 1, 0, none⟩ ⟨w.heap.size, 0, none⟩ b k wh ?_ ?_ ?_ (by show w.heap.size + 1 + 1 ≠ g; omega) (by show w.heap.size + 1 ≠ g; omega) (by show w.heap.size ≠ g; omega)).mono ?_
    · exact (hf3.cell (p := ⟨w.heap.size + 1 + 1, 0, none⟩) (by simp) (by show ¬ w.heap.size + 1 + 1 = g; omega)).trans (by simp [go_sem])
    · exact (hf3.cell (p := ⟨w.heap.size + 1, 0, none⟩) (by simp) (by show ¬ w.heap.size + 1 = g; omega)).trans (by simp [go_sem])
    · exact (hf3.cell (p := ⟨w.heap.size, 0, none⟩) (by simp; omega) (by show ¬ w.heap.size = g; omega)).trans (by simp [go_sem])
    rintro e u' w'' ⟨rfl, rfl, hr2, hf4⟩
    exact ⟨_, results_tmp rfl _ _ _, rfl, ⟨num_bad HN.out, _, hr2⟩, hF.trans hf4 (fun _ _ h => h)⟩
  | ok u m =>
    have hs : stInt xs wh (.at_ k) = (unfN u, .at_ (k + m)) := by simp [stInt, hN]
    rw [hs]
    clear hs
    have HN := Lib.hid hN
    clear hN
    go_enter_defers Tryd.func37, Tryd.ntmps37
    go_wp2_with (first
      | (go_at_call 42; refine (failed_any (h.quiet hf1) true rfl).mono ?_; rintro e w' ⟨rfl, rfl⟩)
      | (go_at_call 38; refine (number_any k (h.quiet hf2) hk).mono ?_; rw [HN.out]; rintro e w1 ⟨rfl, hkm, hr1, hf3⟩))
    refine leaves_cons (f := 57) (args := #[.pointer (some ⟨w.heap.size + 1 + 1, 0, none⟩), .pointer (some ⟨w.heap.size + 1, 0, none⟩), .pointer (some ⟨w.heap.size, 0, none⟩)]) (by simp) (by simp [go_sem]) ?_
    have hF := (hf2.mono (T := fun x => x = g) (fun _ _ h => h.elim)).trans hf3 (fun _ _ h => h)
    refine (idle64 _ _ _ _).mono ?_
    rintro e u' w'' ⟨rfl, rfl, rfl⟩
    exact ⟨_, results_tmp rfl _ _ _, rfl, ⟨hkm, _, _, hr1⟩, hF⟩

set_option maxRecDepth 100000 in
set_option maxHeartbeats 1000000 in
theorem rInt_any {w : World} {g : Nat} {A : Option Addr} {n c : Nat} {xs : List UInt8} {s : St} (h : RdAt w g A n c xs s) (ht : ErrT w) (wh : ByteArray) (hg : g ≠ 1) :
    Calls Tryd.prog 16 #[.pointer (some ⟨g, 0, none⟩), .string wh] w fun e w' =>
      e = .returned (.int .i64 (stInt xs wh s).1) ∧ RdAt w' g A n c xs (stInt xs wh s).2 ∧ Fr (fun x => x = g) w w' := by
  have hmf : ∀ (fn : Fn) (first cap : Array Value) (w : World), (Instr.makeFunc fn first cap).run Tryd.prog w = .ok (.func fn first cap) w := fun _ _ _ _ => rfl
  cases s with
  | at_ k =>
    obtain ⟨hk, fat, what, hr⟩ := h
    go_enter Tryd.func16, Tryd.ntmps16
    go_wp2_with (go_at_call 37; refine (try64_num hr hk ht wh hg).mono ?_; rintro e w1 ⟨rfl, h1, h2⟩)
    go_ret
    exact ⟨rfl, h1, h2⟩
  | bad er a w0 =>
    obtain ⟨he, p, hr⟩ := h
    have he' : (er == 0) = false := by rw [beq_eq_false_iff_ne]; exact he
    go_enter Tryd.func16, Tryd.ntmps16
    go_wp2_with (go_at_call 37; refine (try64_bad hr he' wh _).mono ?_; rintro e w1 ⟨rfl, h1⟩)
    go_ret
    exact ⟨rfl, ⟨he, p, hr.quiet h1⟩, h1.mono (fun _ _ h => h.elim)⟩
end Go.Proofs.YtblfnbmgijppmaaDoor
