/- Slices that read as functions; reached, haveReached. -/
import Derived.Test.YtiinkjplhihdaaaOd
import Derived.Lib.QuietBelow
namespace Go.Proofs.Ytiinkjplhihdaaa
open Go.RowKit Go.Shelf

attribute [local go_sem] Oper.semAt_some

/-- A slice value's n elements read as f. -/
def RdF (w : World) (A : Option Addr) (n : Nat) (f : Nat → Value) : Prop := 0 < n → ∃ b o, A = some ⟨b, o, none⟩ ∧ ∀ j, j < n → w.cell? ⟨b, o + j, none⟩ = some (f j)
theorem RdF.fr {S : Nat → Prop} {w w' : World} {A : Option Addr} {n : Nat} {f : Nat → Value} (h : RdF w A n f) (hf : Fr S w w') (hs : ∀ b o, A = some ⟨b, o, none⟩ → ¬ S b) : RdF w' A n f := fun h0 => by
  obtain ⟨b, o, e, hc⟩ := h h0
  refine ⟨b, o, e, fun j hj => ?_⟩
  rw [← hc j hj]
  exact hf.cell (p := ⟨b, o + j, none⟩) (World.block_lt_of_cell? w _ (hc j hj)) (hs b o e)
theorem RdF.fr0 {w w' : World} {A : Option Addr} {n : Nat} {f : Nat → Value} (h : RdF w A n f) (hf : Fr (fun _ => False) w w') : RdF w' A n f := h.fr hf (fun _ _ _ h => h)
theorem RdF.lt {w : World} {A : Option Addr} {n : Nat} {f : Nat → Value} (h : RdF w A n f) (h0 : 0 < n) {b o : Nat} (e : A = some ⟨b, o, none⟩) : b < w.heap.size := by
  obtain ⟨b', o', e', hc⟩ := h h0
  rw [e] at e'; cases e'
  exact World.block_lt_of_cell? w _ (hc 0 h0)
theorem RdF.zero {w : World} {A : Option Addr} (f : Nat → Value) : RdF w A 0 f := fun h => absurd h (Nat.lt_irrefl _)
/-- Where only blocks that are new since w0 are written, what could be read in w0 can be read. -/
theorem RdF.since {S : Nat → Prop} {w w' : World} {A : Option Addr} {n : Nat} {f : Nat → Value} (h : RdF w A n f) (hf : Fr S w w') (hs : ∀ k, k < w.heap.size → ¬ S k) : RdF w' A n f := fun h0 => by
  obtain ⟨b, o, e, hc⟩ := h h0
  refine ⟨b, o, e, fun j hj => ?_⟩
  have hb := World.block_lt_of_cell? w _ (hc j hj)
  rw [← hc j hj]
  exact hf.cell (p := ⟨b, o + j, none⟩) hb (hs b hb)

def reach (n : Nat) (t : Nat → Int) (k : Nat) : Int := if k < n then t k else 0

set_option maxHeartbeats 4000000 in
theorem reached_any (A : Option Addr) (n c : Nat) (t : Nat → Int) (k : Nat) (w : World) (h : RdF w A n (fun j => .int .i64 (t j))) :
    Calls Try.prog 30 #[.slice A n c, .int .i64 (k : Int)] w fun e w' => e = .returned (.int .i64 (reach n t k)) ∧ w = w' := by
  unfold reach
  by_cases hlt : k < n
  · obtain ⟨b, o, rfl, hc⟩ := h (by omega)
    have hk := hc k hlt
    have hI : (k : Int) < n := by omega
    rw [if_pos hlt]
    clear hc
    go_enter Try.func30, Try.ntmps30
    go_wp2
    go_ret
    exact ⟨rfl, rfl⟩
  · rw [if_neg hlt]
    have hd : decide ((k : Int) < n) = false := decide_eq_false (by omega)
    have hd2 : decide (k < n) = false := decide_eq_false hlt
    go_enter Try.func30, Try.ntmps30
    go_wp2
    go_ret
    exact ⟨rfl, rfl⟩

/-- How many of these have reached z. -/
def hr (n : Nat) (t : Nat → Int) (z : Int) (l : List Nat) : Nat := (l.filter fun k => decide (z ≤ reach n t k)).length
theorem hr_le (n : Nat) (t : Nat → Int) (z : Int) (l : List Nat) : hr n t z l ≤ l.length := List.length_filter_le _ _
theorem hr_yes {n : Nat} {t : Nat → Int} {z : Int} {l : List Nat} {k : Nat} (h : z ≤ reach n t k) : hr n t z (l ++ [k]) = hr n t z l + 1 := by unfold hr; simp [h]
theorem hr_no {n : Nat} {t : Nat → Int} {z : Int} {l : List Nat} {k : Nat} (h : ¬ z ≤ reach n t k) : hr n t z (l ++ [k]) = hr n t z l := by unfold hr; simp [h]
theorem ks_snoc (pre : List K9) (x : K9) : ks (pre ++ [x]) = ks pre ++ [x.val] := by simp [ks]
theorem ks_len (pre : List K9) : (ks pre).length = pre.length := by simp [ks]
theorem own_fr {β : Type} {B : Nat} {S : Nat → Prop} {w0 : World} (hB : w0.heap.size ≤ B) : OwnFrom B (fun (_ : β) W => Fr S w0 W) := fun _ W W' row h hg hr =>
  h.trans (Fr.of_grown hg) (fun x hx e => by have := (hr x e).1; omega)
/-- The mark of a loop's deferred calls is taken up: nothing old turns. -/
theorem Fr.mark {S : Nat → Prop} {w W : World} (h : Fr S w W) {D : Nat} (hD : w.heap.size ≤ D) (o : Obj) : Fr S w (W.putObj D o) :=
  h.trans (Fr.of_grown (grownBy_putObj' W D o)) (fun x hx e => by cases e; omega)
theorem mark_fr {S : Nat → Prop} {W W' : World} {D : Nat} {o : Obj} (h : W.heap[D]? = some o) (hf : Fr S W W') (hs : ¬ S D) : W'.heap[D]? = some o := (hf.block D (Array.getElem?_eq_some_iff.1 h).1 hs).trans h
theorem Fr.of_regrown (w : World) (d : Nat) (os : Array Obj) : Fr (fun _ => False) w (Sort.grow (redrawn w d) os) :=
  ⟨(below_regrown w d os).os, (below_regrown w d os).tape, (below_regrown w d os).output, (below_regrown w d os).size, fun k hk _ => (below_regrown w d os).block k hk⟩
end Go.Proofs.Ytiinkjplhihdaaa
