/- What any reads may leave; a list of asks that came in. -/
import Derived.Test.YtblfnbmgijppmaaDoorHc
namespace Go.Proofs.YtblfnbmgijppmaaDoor
open Go.RowKit

/-- A reader's state that any reads may leave: within its bytes, or at one of four faults, told within them. -/
def Sound (n : Nat) : St → Prop
  | .at_ j => j ≤ n
  | .bad er a wh => (∃ k : Nat, er = k ∧ Bad4 k) ∧ (∃ p : Nat, a = p ∧ p ≤ n) ∧ wh.size ≤ 1000000
theorem bad4_nat {b : Int} (h : b = 7 ∨ b = 8 ∨ b = 10) : ∃ k : Nat, b = k ∧ Bad4 k := by
  rcases h with rfl | rfl | rfl
  · exact ⟨7, rfl, .inl rfl⟩
  · exact ⟨8, rfl, .inr (.inl rfl)⟩
  · exact ⟨10, rfl, .inr (.inr (.inr rfl))⟩
theorem srWithin_at {xs : List UInt8} {j k' : Nat} {lo hi : Int} (hj : j ≤ xs.length) (h : (srWithin xs j lo hi).1 = .ok k') : k' ≤ xs.length := by
  unfold srWithin at h
  cases hN : rdNum (xs.drop j) with
  | bad b' => rw [hN] at h; cases h
  | ok u m =>
    have h1 := num_ok _ _ _ _ _ _ hN
    rw [List.length_drop] at h1
    rw [hN] at h
    simp only at h
    repeat' split at h
    all_goals first | cases h; done | (injection h with h; omega)
theorem srWithin_which {xs : List UInt8} {j : Nat} {lo hi b : Int} (h : (srWithin xs j lo hi).1 = .bad b) : b = 7 ∨ b = 8 ∨ b = 10 := by
  unfold srWithin at h
  cases hN : rdNum (xs.drop j) with
  | bad b' => rw [hN] at h; injection h with h; subst h; exact (num_bad_or _ _ _ _ _ hN).elim .inl (fun h => .inr (.inl h))
  | ok u m =>
    rw [hN] at h
    simp only at h
    repeat' split at h
    all_goals first | (injection h with h; omega) | cases h
theorem srRun_at {xs : List UInt8} {j k' : Nat} {most : Int} (hj : j ≤ xs.length) (h : (srRun xs j most).1 = .ok k') : k' ≤ xs.length := by
  unfold srRun at h
  cases hN : rdNum (xs.drop j) with
  | bad b' => rw [hN] at h; cases h
  | ok u m =>
    have h1 := num_ok _ _ _ _ _ _ hN
    rw [List.length_drop] at h1
    rw [hN] at h
    simp only at h
    repeat' split at h
    all_goals first | cases h; done | (injection h with h; omega)
theorem srRun_which {xs : List UInt8} {j : Nat} {most b : Int} (h : (srRun xs j most).1 = .bad b) : b = 7 ∨ b = 8 ∨ b = 10 := by
  unfold srRun at h
  cases hN : rdNum (xs.drop j) with
  | bad b' => rw [hN] at h; injection h with h; subst h; exact (num_bad_or _ _ _ _ _ hN).elim .inl (fun h => .inr (.inl h))
  | ok u m =>
    rw [hN] at h
    simp only at h
    repeat' split at h
    all_goals first | (injection h with h; omega) | cases h
theorem sound_int {n : Nat} {xs : List UInt8} {wh : ByteArray} {s : St} (hn : xs.length = n) (hw : wh.size ≤ 1000000) (h : Sound n s) : Sound n (stInt xs wh s).2 := by
  cases s with
  | bad er a w0 => exact h
  | at_ j =>
    have h2 : j ≤ n := h
    cases hN : rdNum (xs.drop j) with
    | bad b =>
      simp only [stInt, hN]
      exact ⟨bad4_nat ((num_bad_or _ _ _ _ _ hN).elim .inl (fun h => .inr (.inl h))), ⟨j, rfl, h2⟩, hw⟩
    | ok u m =>
      have := num_ok _ _ _ _ _ _ hN
      rw [List.length_drop] at this
      simp only [stInt, hN]
      show j + m ≤ n
      omega
theorem sound_between {n : Nat} {xs : List UInt8} {wh : ByteArray} {lo hi : Int} {s : St} (hn : xs.length = n) (hw : wh.size ≤ 1000000) (h : Sound n s) : Sound n (stBetween xs wh lo hi s).2 := by
  cases s with
  | bad er a w0 => exact h
  | at_ j =>
    have h2 : j ≤ n := h
    rw [srW]
    cases hR : (srWithin xs j lo hi).1 with
    | bad b => exact ⟨bad4_nat (srWithin_which hR), ⟨j, rfl, h2⟩, hw⟩
    | ok k' => exact hn ▸ srWithin_at (hn ▸ h2) hR
theorem sound_bytes {n : Nat} {xs : List UInt8} {wh : ByteArray} {most : Int} {s : St} (hn : xs.length = n) (hw : wh.size ≤ 1000000) (h : Sound n s) : Sound n (stBytes xs wh most s).2 := by
  cases s with
  | bad er a w0 => exact h
  | at_ j =>
    have h2 : j ≤ n := h
    rw [srR]
    cases hR : (srRun xs j most).1 with
    | bad b => exact ⟨bad4_nat (srRun_which hR), ⟨j, rfl, h2⟩, hw⟩
    | ok k' => exact hn ▸ srRun_at (hn ▸ h2) hR

structure Ak where
  kind : Int
  lo : Int
  hi : Int
structure AkAt (w : World) (g o : Nat) (x : Ak) : Prop where
  c0 : w.cell? ⟨g, o, none⟩ = some (.int .i64 x.kind)
  c1 : w.cell? ⟨g, o + 1, none⟩ = some (.int .i64 x.lo)
  c2 : w.cell? ⟨g, o + 2, none⟩ = some (.int .i64 x.hi)
def Asks (w : World) (A : Option Addr) (l : List Ak) : Prop := 0 < l.length → ∃ g o, A = some ⟨g, o, none⟩ ∧ ∀ i (h : i < l.length), AkAt w g (o + i * 3) l[i]
theorem AkAt.fr {S : Nat → Prop} {w w' : World} {g o : Nat} {x : Ak} (h : AkAt w g o x) (hf : Fr S w w') (hS : ∀ k, k < w.heap.size → ¬ S k) : AkAt w' g o x :=
  { c0 := (hf.cell (World.block_lt_of_cell? w _ h.c0) (hS _ (World.block_lt_of_cell? w _ h.c0))).trans h.c0
    c1 := (hf.cell (World.block_lt_of_cell? w _ h.c1) (hS _ (World.block_lt_of_cell? w _ h.c1))).trans h.c1
    c2 := (hf.cell (World.block_lt_of_cell? w _ h.c2) (hS _ (World.block_lt_of_cell? w _ h.c2))).trans h.c2 }
theorem Asks.fr {S : Nat → Prop} {w w' : World} {A : Option Addr} {l : List Ak} (h : Asks w A l) (hf : Fr S w w') (hS : ∀ k, k < w.heap.size → ¬ S k) : Asks w' A l := fun h0 => by
  obtain ⟨g, o, e, hx⟩ := h h0
  exact ⟨g, o, e, fun i hi => (hx i hi).fr hf hS⟩

set_option maxRecDepth 100000 in
theorem same_none (p : Int) (what : ByteArray) (w : World) :
    Calls Tryd.prog 10 #[.nilIface, .agg #[.int .i64 0, .int .i64 p, .string what]] w fun e w' => e = .returned (.bool true) ∧ Fr (fun _ => False) w w' := by
  go_enter Tryd.func10, Tryd.ntmps10
  go_wp2
  go_ret
  exact ⟨rfl, (Fr.refl _ _).alloc _⟩
end Go.Proofs.YtblfnbmgijppmaaDoor
