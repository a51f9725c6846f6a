/- match: the sequence over a row: each of its tasks, by its place. -/
import Derived.Test.YtkinbcmnfpkncaaRh
namespace Go.Proofs.Ytkinbcmnfpkncaa
open Go.RowKit Go.Maps Go.Shelf

attribute [local go_sem] Oper.semAt_some

theorem wrap_succ {k : Nat} (h : k < 1048577) : IntKind.wrap .i64 ((k : Int) + 1) = (k : Int) + 1 := by simp only [IntKind.wrap_i64]; omega
theorem meas_up {k n : Nat} (h : k < n) : n - ((k : Int) + 1).toNat < n - ((k : Int)).toNat := by omega
/-- The first k places of n. -/
def upF (n k : Nat) : List (Fin n) := (List.finRange n).take k
theorem upF_zero (n : Nat) : upF n 0 = [] := rfl
theorem upF_succ {n k : Nat} (h : k < n) : upF n (k + 1) = upF n k ++ [⟨k, h⟩] := by
  unfold upF
  rw [List.take_add_one]
  congr 1
  simp [h]
theorem upF_len {n k : Nat} (h : k ≤ n) : (upF n k).length = k := by unfold upF; simp [h]
theorem upF_all (n : Nat) : upF n n = List.finRange n := by unfold upF; exact List.take_of_length_le (by simp)
/-- A task as a value. -/
def PV (p : Nat × Int) : Value := .agg #[.int .i64 p.1, .int .i64 p.2]
/-- A round keeps the row. -/
def KRow (v : Value) (r : List (Nat × Int)) (W W' : World) : Prop := Sl W 2 v r.length (pcs IV r) → Sl W' 2 v r.length (pcs IV r)
theorem KRow.t {v : Value} {r : List (Nat × Int)} {A B C : World} (h : KRow v r A B) (k : KRow v r B C) : KRow v r A C := fun x => k (h x)
theorem Sl.kept {W W' : World} {k n : Nat} {x : Value} {cs : List Value} (h : Sl W k x n cs) (hc : ∀ p u, W.cell? p = some u → W'.cell? p = some u) : Sl W' k x n cs := by
  obtain ⟨hl, A, c, rfl, hA⟩ := h
  refine ⟨hl, A, c, rfl, fun h0 => ?_⟩
  obtain ⟨b, off, rfl, h1⟩ := hA h0
  exact ⟨b, off, rfl, fun j u hu => hc _ _ (h1 j u hu)⟩
theorem KRow.b (v : Value) (r : List (Nat × Int)) (W : World) (l : Nat) (o o' : Obj) (h : W.heap[l]? = some o) (ho : o.isCells = false) : KRow v r W (W.putObj l o') := fun hs =>
  hs.kept (fun p u hp => cell_kept hp (grownBy_putObj' W l o') (fun r e => by cases e; exact ⟨_, h, ho⟩))
theorem KRow.fr {v : Value} {r : List (Nat × Int)} {W W' : World} {S : Nat → Prop} (h : Fr S W W') (hv : ∀ g, v.ownBlock = some g → ¬ S g) : KRow v r W W' := fun hs => hs.fr (by omega) h hv

set_option maxRecDepth 100000 in
set_option maxHeartbeats 4000000 in
theorem vals1_in (n : Nat) (hn : 1 ≤ n) (l k : Nat) (v : Value) (r : List (Nat × Int)) (hr : r.length ≤ 1048576) (J Jx : List (Fin r.length) → World → Prop) (W : World) (hJ : AbidesFrom W.heap.size J)
    (hY : ∀ pre x W, J pre W → pre.length < r.length → YieldAt Fence.wide (n - 1) Try.prog l #[PV (r.get x)] W fun e W' =>
      (e = .returned (.bool true) ∧ J (pre ++ [x]) W' ∧ KRow v r W W') ∨ (e = .returned (.bool false) ∧ Jx (pre ++ [x]) W'))
    (hb : W.cell? ⟨k, 0, none⟩ = some v) (hs : Sl W 2 v r.length (pcs IV r)) (h0 : J [] W) :
    CallsIn Fence.wide n Try.prog 51 #[.func (.yield l) #[] #[], .pointer (some ⟨k, 0, none⟩)] W fun e W' => (∃ v, e = .returned v) ∧
      ((∃ xs, xs = List.finRange r.length ∧ J xs W') ∨ (∃ pre, (∃ k, k ≤ r.length ∧ pre = upF r.length k) ∧ Jx pre W')) := by
  obtain ⟨hl, A, c, rfl, hA⟩ := hs
  have HS0 : Hid (Sl W 2 (.slice A r.length c) r.length (pcs IV r)) := Lib.hid ⟨hl, A, c, rfl, hA⟩
  have HA : Hid (0 < r.length → ∃ b off, A = some ⟨b, off, none⟩) := Lib.hid (fun h => by obtain ⟨b, off, e, _⟩ := hA h; exact ⟨b, off, e⟩)
  have HR := Lib.hid hr
  have HJ := Lib.hid hJ
  have HY := Lib.hid hY
  clear hl hA hr hJ hY
  refine callsIn_of_wp Try.func51 rfl trivial ?_ rfl
  simp only [Try.ntmps51, List.size_toArray, List.length_cons, List.length_nil, Nat.reduceAdd, Nat.reduceSub, Array.replicate_succ, Array.replicate_zero, List.push_toArray, List.append_toArray, List.nil_append, List.cons_append]
  gi_wp2
  gi_loopw [7] (fun i wr => ∃ k : Nat, k ≤ r.length ∧ i = .int .i64 k ∧ J (upF r.length k) wr ∧ Hid (Sl wr 2 (.slice A r.length c) r.length (pcs IV r)))
    (fun i _ => r.length - (intOf i).toNat)
  case atStart => exact ⟨0, Nat.zero_le _, rfl, h0, HS0⟩
  case round =>
    clear h0 hb HS0
    obtain ⟨k, hk, rfl, hJs, HSL⟩ := hrel
    by_cases hlt : k < r.length
    · obtain ⟨b, off, rfl⟩ := HA.out (by omega)
      obtain ⟨p, hp⟩ : ∃ p, r.get ⟨k, hlt⟩ = p := ⟨_, rfl⟩
      obtain ⟨hl, A', c', e, hA'⟩ := HSL.out
      obtain ⟨b', off', e', hcs⟩ := hA' (by omega)
      injection e with e1 e2 e3
      rw [e'] at e1
      injection e1 with e1
      injection e1 with e1 e4
      subst e1 e4
      have hat := pcs_at IV r k hlt
      have hp' : r[k] = p := hp
      rw [hp'] at hat
      have hc0 : wr.cell? ⟨b, off + k * 2, none⟩ = some (.int .i64 p.1) := hcs _ _ hat.1
      have hc1 : wr.cell? ⟨b, off + k * 2 + 1, none⟩ = some (.int .i64 p.2) := by have := hcs _ _ hat.2; rwa [← Nat.add_assoc] at this
      have hJ2 : ∀ o, J (upF r.length k) (wr.alloc o) := fun o => HJ.out _ wr _ none hJs (World.grownBy_alloc _ _ _) (fun r e => by cases e)
      have HS2 : ∀ o, Hid (Sl (wr.alloc o) 2 (.slice (some ⟨b, off, none⟩) r.length c) r.length (pcs IV r)) := fun o => Lib.hid (HSL.out.fr (by omega) ((Fr.refl (fun _ => False) wr).alloc o) (fun _ _ h => h))
      obtain ⟨fn, tmps, assign, body, hy, hR⟩ := HY.out (upF r.length k) ⟨k, hlt⟩ (wr.alloc (.cells #[.int .i64 p.1, .int .i64 p.2] 61)) (hJ2 _) (by rw [upF_len hk]; exact hlt)
      rw [hp] at hy
      unfold PV at hy
      clear hl hA' e' hcs hat hp' hp hJs e3 e2
      have HLT := Lib.hid hlt
      gi_wp2
      refine hR.mono ?_
      rintro e W3 (⟨rfl, hJ3, hk3⟩ | ⟨rfl, hJx3⟩)
      · have HS3 := Lib.hid (hk3 (HS2 _).out)
        have hwk := wrap_succ (Nat.lt_of_le_of_lt (Nat.le_of_lt (Nat.lt_of_lt_of_le HLT.out HR.out)) (by omega : 1048576 < 1048577))
        clear hk3 HS2 HSL hJ2 hR hc0 hc1
        gi_wp2
        go_roundw
        case rel => exact ⟨k + 1, HLT.out, by simp, by rw [upF_succ HLT.out]; exact hJ3, HS3⟩
        case measure =>
          show r.length - ((k : Int) + 1).toNat < r.length - ((k : Int)).toNat
          exact meas_up HLT.out
      · gi_wp2
        refine bodyPost_ret (results_none rfl _ _ _) rfl ?_
        exact ⟨⟨_, rfl⟩, .inr ⟨_, ⟨k + 1, by omega, (upF_succ HLT.out).symm⟩, hJx3⟩⟩
    · obtain rfl : k = r.length := by omega
      gi_wp2
      go_end0
      exact ⟨⟨_, rfl⟩, .inl ⟨_, upF_all _, hJs⟩⟩

/-- What row hands back is a sequence: each place of the row; or a front of them. -/
theorem vals_stops (n : Nat) (hn : 1 ≤ n) (k : Nat) (v : Value) (r : List (Nat × Int)) (hr : r.length ≤ 1048576) (w : World) (hb : w.cell? ⟨k, 0, none⟩ = some v) (hs : Sl w 2 v r.length (pcs IV r)) :
    SeqStopsK Fence.wide n Try.prog 51 #[.pointer (some ⟨k, 0, none⟩)] (fun x : Fin r.length => #[PV (r.get x)]) (KRow v r) (fun xs => xs = List.finRange r.length)
      (fun pre => ∃ k, k ≤ r.length ∧ pre = upF r.length k) r.length w := fun l J Jx W hW hJ _ hY h0 => by
  have hb' := (hW.cell (p := ⟨k, 0, none⟩) (World.block_lt_of_cell? w _ hb)).trans hb
  have hs' : Sl W 2 v r.length (pcs IV r) := hs.kept (fun p u hp => (hW.cell (p := p) (World.block_lt_of_cell? w _ hp)).trans hp)
  exact vals1_in n hn l k v r hr J Jx W hJ hY hb' hs' h0
end Go.Proofs.Ytkinbcmnfpkncaa
