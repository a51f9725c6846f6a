/- A reader at its fault; the reference's end. -/
import Derived.Test.YtblfnbmgijppmaaDoorEb
import Derived.Test.YtblfnbmgijppmaaDoorFd
namespace Go.Proofs.YtblfnbmgijppmaaDoor
open Go.RowKit

set_option maxRecDepth 100000 in
theorem rInt_bad {w : World} {g : Nat} {A : Option Addr} {n c : Nat} {xs : List UInt8} {p er fat : Int} {what : ByteArray} (hr : Rdr w g A n c xs p er fat what) (he' : (er == 0) = false) (wh : ByteArray) :
    Calls Tryd.prog 16 #[.pointer (some ⟨g, 0, none⟩), .string wh] w fun e w' => e = .returned (.int .i64 0) ∧ Fr (fun _ => False) w w' := by
  have hmf : ∀ (fn : Fn) (first cap : Array Value) (w : World), (Instr.makeFunc fn first cap).run Tryd.prog w = .ok (.func fn first cap) w := fun _ _ _ _ => rfl
  go_enter Tryd.func16, Tryd.ntmps16
  go_wp2_with (go_at_call 37; refine (try64_bad hr he' wh _).mono ?_; rintro e w1 ⟨rfl, h1⟩)
  go_ret
  exact ⟨rfl, h1⟩
set_option maxRecDepth 100000 in
theorem rBetween_bad {w : World} {g : Nat} {A : Option Addr} {n c : Nat} {xs : List UInt8} {p er fat : Int} {what : ByteArray} (hr : Rdr w g A n c xs p er fat what) (he' : (er == 0) = false) (wh : ByteArray) (lo hi : Int) :
    Calls Tryd.prog 46 #[.pointer (some ⟨g, 0, none⟩), .string wh, .int .i64 lo, .int .i64 hi] w fun e w' => e = .returned (.int .i64 0) ∧ Fr (fun _ => False) w w' := by
  have hmf : ∀ (fn : Fn) (first cap : Array Value) (w : World), (Instr.makeFunc fn first cap).run Tryd.prog w = .ok (.func fn first cap) w := fun _ _ _ _ => rfl
  have hf0 : Fr (fun _ => False) w (((w.alloc (.cells #[.pointer (some ⟨g, 0, none⟩)] 48)).alloc (.cells #[.int .i64 lo] 3)).alloc (.cells #[.int .i64 hi] 3)) := (((Fr.refl _ _).alloc _).alloc _).alloc _
  go_enter Tryd.func46, Tryd.ntmps46
  go_wp2_with (go_at_call 62; refine (tryInt_bad (hr.quiet hf0) he' wh _).mono ?_; rintro e w1 ⟨rfl, h1⟩)
  go_ret
  exact ⟨rfl, hf0.trans h1 (fun _ _ h => h)⟩
set_option maxRecDepth 100000 in
theorem rBytes_bad {w : World} {g : Nat} {A : Option Addr} {n c : Nat} {xs : List UInt8} {p er fat : Int} {what : ByteArray} (hr : Rdr w g A n c xs p er fat what) (he' : (er == 0) = false) (wh : ByteArray) (most : Int) :
    Calls Tryd.prog 17 #[.pointer (some ⟨g, 0, none⟩), .string wh, .int .i64 most] w fun e w' => e = .returned (.slice none 0 0) ∧ Fr (fun _ => False) w w' := by
  have hmf : ∀ (fn : Fn) (first cap : Array Value) (w : World), (Instr.makeFunc fn first cap).run Tryd.prog w = .ok (.func fn first cap) w := fun _ _ _ _ => rfl
  have hf0 : Fr (fun _ => False) w ((w.alloc (.cells #[.pointer (some ⟨g, 0, none⟩)] 48)).alloc (.cells #[.int .i64 most] 3)) := ((Fr.refl _ _).alloc _).alloc _
  go_enter Tryd.func17, Tryd.ntmps17
  go_wp2_with (go_at_call 39; refine (tryB_bad (hr.quiet hf0) he' wh _).mono ?_; rintro e w1 ⟨rfl, h1⟩)
  go_ret
  exact ⟨rfl, hf0.trans h1 (fun _ _ h => h)⟩

/-- The reference's reader, told its end at a fault. -/
theorem refEnd_bad {w : World} {g : Nat} {A : Option Addr} {n c : Nat} {xs : List UInt8} {p er a : Int} {what : ByteArray} (h : RR w g A n c xs p er a what) (he : (er == 0) = false) :
    Calls Tryd.prog 27 #[.pointer (some ⟨g, 0, none⟩)] w fun e w' => e = .returned (.agg #[.int .i64 er, .int .i64 a, .string what]) ∧ Fr (fun _ => False) w w' := by
  have c2 : w.cell? ⟨g, 2, none⟩ = some (.int .i64 er) := h.bk.cell 2
  have c3 : w.cell? ⟨g, 3, none⟩ = some (.int .i64 a) := h.bk.cell 3
  have c4 : w.cell? ⟨g, 4, none⟩ = some (.string what) := h.bk.cell 4
  have hlt := h.bk.lt
  go_enter Tryd.func27, Tryd.ntmps27
  go_wp2
  go_quiet (fail)
  go_wp2
  refine bodyPost_ret (v := .agg #[.int .i64 er, .int .i64 a, .string what]) (by simp [results, Tryd.results27, go_sem]) rfl ⟨rfl, ?_⟩
  exact (((((Fr.refl _ _).alloc _).drewN _).setCell (fun h => absurd h (Nat.lt_irrefl _)) _).setCell (fun h => absurd h (Nat.lt_irrefl _)) _).setCell (fun h => absurd h (Nat.lt_irrefl _)) _
theorem refEnd_over {w : World} {g : Nat} {A : Option Addr} {n c : Nat} {xs : List UInt8} {a : Int} {what : ByteArray} (h : RR w g A n c xs n 0 a what) :
    Calls Tryd.prog 27 #[.pointer (some ⟨g, 0, none⟩)] w fun e w' => e = .returned (.agg #[.int .i64 0, .int .i64 a, .string what]) ∧ Fr (fun _ => False) w w' := by
  have c0 : w.cell? ⟨g, 0, none⟩ = some (.slice A n c) := h.bk.cell 0
  have c1 : w.cell? ⟨g, 1, none⟩ = some (.int .i64 n) := h.bk.cell 1
  have c2 : w.cell? ⟨g, 2, none⟩ = some (.int .i64 0) := h.bk.cell 2
  have c3 : w.cell? ⟨g, 3, none⟩ = some (.int .i64 a) := h.bk.cell 3
  have c4 : w.cell? ⟨g, 4, none⟩ = some (.string what) := h.bk.cell 4
  have hlt := h.bk.lt
  have hb : decide ((n : Int) < (n : Int)) = false := by simp
  go_enter Tryd.func27, Tryd.ntmps27
  go_wp2
  go_quiet (fail)
  go_wp2
  refine bodyPost_ret (v := .agg #[.int .i64 0, .int .i64 a, .string what]) (by simp [results, Tryd.results27, go_sem]) rfl ⟨rfl, ?_⟩
  exact (((((Fr.refl _ _).alloc _).drewN _).setCell (fun h => absurd h (Nat.lt_irrefl _)) _).setCell (fun h => absurd h (Nat.lt_irrefl _)) _).setCell (fun h => absurd h (Nat.lt_irrefl _)) _
theorem refEnd_left {w : World} {g : Nat} {A : Option Addr} {n c : Nat} {xs : List UInt8} {k : Nat} {a : Int} {what : ByteArray} (h : RR w g A n c xs k 0 a what) (hk : k < n) :
    Calls Tryd.prog 27 #[.pointer (some ⟨g, 0, none⟩)] w fun e w' => e = .returned (.agg #[.int .i64 8, .int .i64 k, .string sEnd]) ∧ Fr (fun _ => False) w w' := by
  have c0 : w.cell? ⟨g, 0, none⟩ = some (.slice A n c) := h.bk.cell 0
  have c1 : w.cell? ⟨g, 1, none⟩ = some (.int .i64 k) := h.bk.cell 1
  have c2 : w.cell? ⟨g, 2, none⟩ = some (.int .i64 0) := h.bk.cell 2
  have hlt := h.bk.lt
  have hb : (k : Int) < (n : Int) := by omega
  go_enter Tryd.func27, Tryd.ntmps27
  go_wp2
  go_quiet (fail)
  go_wp2
  refine bodyPost_ret (v := .agg #[.int .i64 8, .int .i64 k, .string sEnd]) (by simp [results, Tryd.results27, go_sem, sEnd]) rfl ⟨rfl, ?_⟩
  exact (((((Fr.refl _ _).alloc _).drewN _).setCell (fun h => absurd h (Nat.lt_irrefl _)) _).setCell (fun h => absurd h (Nat.lt_irrefl _)) _).setCell (fun h => absurd h (Nat.lt_irrefl _)) _

/-- The reference's Int, wherever its reader stands. -/
theorem refInt_any {w : World} {g : Nat} {A : Option Addr} {n c : Nat} {xs : List UInt8} {s : St} (h : RRAt w g A n c xs s) (wh : ByteArray) :
    Calls Tryd.prog 24 #[.pointer (some ⟨g, 0, none⟩), .string wh] w fun e w' =>
      e = .returned (.int .i64 (stInt xs wh s).1) ∧ RRAt w' g A n c xs (stInt xs wh s).2 ∧ Fr (fun x => x = g) w w' := by
  cases s with
  | at_ k =>
    obtain ⟨hk, fat, what, hr⟩ := h
    exact refInt_at hr hk wh
  | bad er a w0 =>
    obtain ⟨he, p, hr⟩ := h
    exact (refInt_bad hr (by rw [beq_eq_false_iff_ne]; exact he) wh).mono fun e w' ⟨h1, h2⟩ => ⟨h1, h2 ▸ ⟨he, p, hr⟩, h2 ▸ Fr.refl _ _⟩

/-- Behind k reads: at a place no nearer than k, or at a fault. -/
def Along (n k : Nat) : St → Prop
  | .at_ j => k ≤ j ∧ j ≤ n
  | .bad er a wh => (er = 7 ∨ er = 8) ∧ (∃ p : Nat, a = p ∧ p ≤ n) ∧ wh = ⟨#[105]⟩
theorem along_step {n k : Nat} {xs : List UInt8} {s : St} (hn : xs.length = n) (h : Along n k s) : Along n (k + 1) (stInt xs ⟨#[105]⟩ s).2 := by
  cases s with
  | at_ j =>
    obtain ⟨h1, h2⟩ := h
    cases hN : rdNum (xs.drop j) with
    | bad b =>
      simp only [stInt, hN]
      exact ⟨num_bad_or _ _ _ _ _ hN, ⟨j, rfl, h2⟩, rfl⟩
    | ok u m =>
      have := num_ok _ _ _ _ _ _ hN
      rw [List.length_drop] at this
      simp only [stInt, hN]
      exact ⟨by omega, by omega⟩
  | bad er a wh => exact h
theorem RdAt.fr {S : Nat → Prop} {w w' : World} {g : Nat} {A : Option Addr} {n c : Nat} {xs : List UInt8} {s : St} (h : RdAt w g A n c xs s) (hf : Fr S w w') (hg : ¬ S g) (hA : ∀ ad, A = some ad → 0 < n → ¬ S ad.block) : RdAt w' g A n c xs s := by
  cases s with
  | at_ k => exact ⟨h.1, h.2.imp fun _ h => h.imp fun _ h => h.fr hf hg hA⟩
  | bad er a wh => exact ⟨h.1, h.2.imp fun _ h => h.fr hf hg hA⟩
theorem RRAt.fr {S : Nat → Prop} {w w' : World} {g : Nat} {A : Option Addr} {n c : Nat} {xs : List UInt8} {s : St} (h : RRAt w g A n c xs s) (hf : Fr S w w') (hg : ¬ S g) (hA : ∀ ad, A = some ad → 0 < n → ¬ S ad.block) : RRAt w' g A n c xs s := by
  cases s with
  | at_ k => exact ⟨h.1, h.2.imp fun _ h => h.imp fun _ h => h.fr hf hg hA⟩
  | bad er a wh => exact ⟨h.1, h.2.imp fun _ h => h.fr hf hg hA⟩
/-- A reader's bytes lie in a block that there is. -/
theorem RdAt.src {w : World} {g : Nat} {A : Option Addr} {n c : Nat} {xs : List UInt8} {s : St} (h : RdAt w g A n c xs s) : ∀ ad, A = some ad → 0 < n → ad.block < w.heap.size := by
  have go : Rd8 w A xs → xs.length = n → ∀ ad, A = some ad → 0 < n → ad.block < w.heap.size := fun hr hn ad ha h0 => by
    obtain ⟨ad', e, _, hc⟩ := hr (by omega)
    rw [ha] at e
    injection e with e
    subst e
    exact World.block_lt_of_cell? w ⟨ad.block, ad.off + 0, none⟩ (hc 0 (by omega))
  cases s with
  | at_ k => obtain ⟨_, _, _, h⟩ := h; exact go h.rd h.len
  | bad er a wh => obtain ⟨_, _, h⟩ := h; exact go h.rd h.len
end Go.Proofs.YtblfnbmgijppmaaDoor
