/- match: the sequence over a row as one that a body never leaves; what All hands back. -/
import Derived.Test.YtkinbcmnfpkncaaSa
import Derived.Test.YtkinbcmnfpkncaaRw
namespace Go.Proofs.Ytkinbcmnfpkncaa
open Go.RowKit Go.Maps Go.Shelf

attribute [local go_sem] Oper.semAt_some

/-- Each block of cells from B on stays. -/
def Kc (B : Nat) (W W' : World) : Prop := ∀ k o, B ≤ k → W.heap[k]? = some o → o.isCells = true → W'.heap[k]? = some o
theorem Kc.refl (B : Nat) (W : World) : Kc B W W := fun _ _ _ h _ => h
theorem Kc.t {B : Nat} {X Y Z : World} (h : Kc B X Y) (k : Kc B Y Z) : Kc B X Z := fun i o hB hi ho => k i o hB (h i o hB hi ho) ho
theorem Kc.b (B : Nat) (W : World) (l : Nat) (o o' : Obj) (h : W.heap[l]? = some o) (ho : o.isCells = false) : Kc B W (W.putObj l o') := fun k u _ hk hu => by
  by_cases e : k = l
  · subst e; rw [h] at hk; cases hk; rw [ho] at hu; cases hu
  · rw [World.putObj_heap_other (fun e2 => e e2)]; exact hk
theorem Kc.fr {S : Nat → Prop} {B : Nat} {W W' : World} (hf : Fr S W W') (hS : ∀ k, S k → k < B) : Kc B W W' := fun k o hB hk _ => by
  rw [hf.block k (Array.getElem?_eq_some_iff.1 hk).1 (fun e => by have := hS k e; omega)]; exact hk
theorem Kc.grown {B : Nat} {W W' : World} {row : Option Nat} (hg : W.grownBy W' row) (hr : ∀ r, row = some r → ∃ o : Obj, W.heap[r]? = some o ∧ o.isCells = false) : Kc B W W' := fun k o _ hk ho =>
  (grownBy_keeps_cells hg hr hk ho).trans hk
theorem Kc.cell {B : Nat} {W W' : World} (h : Kc B W W') {p : Addr} {u : Value} (hB : B ≤ p.block) (hp : W.cell? p = some u) : W'.cell? p = some u := by
  obtain ⟨o, ho, hc⟩ := cells_of_cell hp
  exact (World.cell?_of_block ((h _ o hB ho hc).trans ho.symm)).trans hp
theorem Kc.sl {B : Nat} {W W' : World} (h : Kc B W W') {k n : Nat} {x : Value} {cs : List Value} (hx : ∀ g, x.ownBlock = some g → B ≤ g) (hs : Sl W k x n cs) : Sl W' k x n cs := by
  obtain ⟨hl, A, c, rfl, hA⟩ := hs
  refine ⟨hl, A, c, rfl, fun h0 => ?_⟩
  obtain ⟨b, off, rfl, h1⟩ := hA h0
  exact ⟨b, off, rfl, fun j u hu => h.cell (hx b rfl) (h1 j u hu)⟩

set_option maxRecDepth 100000 in
set_option maxHeartbeats 4000000 in
theorem vals_gives (n : Nat) (hn : 1 ≤ n) (k : Nat) (v : Value) (r : List (Nat × Int)) (hr : r.length ≤ 1048576) (B : Nat) (hB : ∀ g, v.ownBlock = some g → B ≤ g) (w : World) (hb : w.cell? ⟨k, 0, none⟩ = some v) (hs : Sl w 2 v r.length (pcs IV r)) :
    Gives n 51 #[.pointer (some ⟨k, 0, none⟩)] (fun x : Fin r.length => #[PV (r.get x)]) (Kc B) (fun xs => xs = List.finRange r.length) (fun pre x => x.val = pre.length) w := fun l J W hW hJ hY h0 => by
  have hb' := (hW.cell (p := ⟨k, 0, none⟩) (World.block_lt_of_cell? w _ hb)).trans hb
  have hs' : Sl W 2 v r.length (pcs IV r) := hs.kept (fun p u hp => (hW.cell (p := p) (World.block_lt_of_cell? w _ hp)).trans hp)
  clear hb hs hW
  obtain ⟨hl, A, c, rfl, hA⟩ := hs'
  have HS0 : Hid (Sl W 2 (.slice A r.length c) r.length (pcs IV r)) := Lib.hid ⟨hl, A, c, rfl, hA⟩
  have HA : Hid (0 < r.length → ∃ b off, A = some ⟨b, off, none⟩) := Lib.hid (fun h => by obtain ⟨b, off, e, _⟩ := hA h; exact ⟨b, off, e⟩)
  have HR := Lib.hid hr
  have HJ := Lib.hid hJ
  have HY := Lib.hid hY
  have HB := Lib.hid hB
  clear hl hA hr hJ hY hB
  refine callsIn_of_wp Try.func51 rfl trivial ?_ rfl
  simp only [Try.ntmps51, List.size_toArray, List.length_cons, List.length_nil, Nat.reduceAdd, Nat.reduceSub, Array.replicate_succ, Array.replicate_zero, List.push_toArray, List.append_toArray, List.nil_append, List.cons_append]
  gi_wp2
  gi_loopw [7] (fun i wr => ∃ k : Nat, k ≤ r.length ∧ i = .int .i64 k ∧ J (upF r.length k) wr ∧ Hid (Sl wr 2 (.slice A r.length c) r.length (pcs IV r)))
    (fun i _ => r.length - (intOf i).toNat)
  case atStart => exact ⟨0, Nat.zero_le _, rfl, h0, HS0⟩
  case round =>
    clear h0 hb' HS0
    obtain ⟨k, hk, rfl, hJs, HSL⟩ := hrel
    by_cases hlt : k < r.length
    · obtain ⟨b, off, rfl⟩ := HA.out (by omega)
      obtain ⟨p, hp⟩ : ∃ p, r.get ⟨k, hlt⟩ = p := ⟨_, rfl⟩
      obtain ⟨hl, A', c', e, hA'⟩ := HSL.out
      obtain ⟨b', off', e', hcs⟩ := hA' (by omega)
      injection e with e1 e2 e3
      rw [e'] at e1
      injection e1 with e1
      injection e1 with e1 e4
      subst e1 e4
      have hat := pcs_at IV r k hlt
      have hp' : r[k] = p := hp
      rw [hp'] at hat
      have hc0 : wr.cell? ⟨b, off + k * 2, none⟩ = some (.int .i64 p.1) := hcs _ _ hat.1
      have hc1 : wr.cell? ⟨b, off + k * 2 + 1, none⟩ = some (.int .i64 p.2) := by have := hcs _ _ hat.2; rwa [← Nat.add_assoc] at this
      have hJ2 : ∀ o, J (upF r.length k) (wr.alloc o) := fun o => HJ.out _ wr _ none hJs (World.grownBy_alloc _ _ _) (fun r e => by cases e)
      have HS2 : ∀ o, Hid (Sl (wr.alloc o) 2 (.slice (some ⟨b, off, none⟩) r.length c) r.length (pcs IV r)) := fun o => Lib.hid (HSL.out.fr (by omega) ((Fr.refl (fun _ => False) wr).alloc o) (fun _ _ h => h))
      obtain ⟨fn, tmps, assign, body, hy, hR⟩ := HY.out (upF r.length k) ⟨k, hlt⟩ (wr.alloc (.cells #[.int .i64 p.1, .int .i64 p.2] 61)) (hJ2 _) (upF_len hk).symm
      rw [hp] at hy
      unfold PV at hy
      clear hl hA' e' hcs hat hp' hp hJs e3 e2
      have HLT := Lib.hid hlt
      gi_wp2
      refine hR.mono ?_
      rintro e W3 ⟨rfl, hJ3, hk3, -⟩
      have HS3 := Lib.hid (hk3.sl HB.out (HS2 _).out)
      have hwk := wrap_succ (Nat.lt_of_le_of_lt (Nat.le_of_lt (Nat.lt_of_lt_of_le HLT.out HR.out)) (by omega : 1048576 < 1048577))
      clear hk3 HS2 HSL hJ2 hR hc0 hc1
      gi_wp2
      go_roundw
      case rel => exact ⟨k + 1, HLT.out, by simp, by rw [upF_succ HLT.out]; exact hJ3, HS3⟩
      case measure =>
        show r.length - ((k : Int) + 1).toNat < r.length - ((k : Int)).toNat
        exact meas_up HLT.out
    · obtain rfl : k = r.length := by omega
      gi_wp2
      go_end0
      exact ⟨⟨_, rfl⟩, _, upF_all _, hJs⟩
end Go.Proofs.Ytkinbcmnfpkncaa
