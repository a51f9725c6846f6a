/- All: the nodes that have a role, rising: what it hands back, as a sequence. -/
import Derived.Test.YtiinkjplhihdaaaOa
import Derived.IntWalk
namespace Go.Proofs.Ytiinkjplhihdaaa
open Go.RowKit Go.Shelf

attribute [local go_sem] Oper.semAt_some

/-- The nodes below n that have role r. -/
def hav (m : Nat → Int) (r : Int) (n : Nat) : List Nat := (List.range n).filter fun k => decide (m k = r)
theorem hav_zero (m : Nat → Int) (r : Int) : hav m r 0 = [] := rfl
theorem hav_yes {m : Nat → Int} {r : Int} {k : Nat} (h : m k = r) : hav m r (k + 1) = hav m r k ++ [k] := by
  unfold hav; rw [List.range_succ, List.filter_append]; simp [h]
theorem hav_no {m : Nat → Int} {r : Int} {k : Nat} (h : ¬ m k = r) : hav m r (k + 1) = hav m r k := by
  unfold hav; rw [List.range_succ, List.filter_append]; simp [h]
theorem hav_len (m : Nat → Int) (r : Int) (k : Nat) : (hav m r k).length ≤ k := by
  unfold hav
  exact Nat.le_trans (List.length_filter_le _ _) (by simp)
theorem hav_lt {m : Nat → Int} {r : Int} {n x : Nat} (h : x ∈ hav m r n) : x < n := by
  unfold hav at h; simp at h; exact h.1

theorem wrap64_of {x : Int} (h : 0 ≤ x ∧ x < 256) : wrap64 x = x := by unfold wrap64; omega
/-- A round keeps this cell. -/
def KC (b : Nat) (W W' : World) : Prop := ∀ v, W.cell? ⟨b, 0, none⟩ = some v → W'.cell? ⟨b, 0, none⟩ = some v
theorem KC.t {b : Nat} {A B C : World} (h : KC b A B) (k : KC b B C) : KC b A C := fun v hv => k v (h v hv)
theorem KC.b (b : Nat) (W : World) (l : Nat) (o o' : Obj) (h : W.heap[l]? = some o) (ho : o.isCells = false) : KC b W (W.putObj l o') := fun _ hv =>
  cell_kept hv (grownBy_putObj' W l o') (fun r e => by cases e; exact ⟨_, h, ho⟩)
theorem KC.fr {b : Nat} {W W' : World} {S : Nat → Prop} (h : Fr S W W') (hb : ¬ S b) : KC b W W' := fun v hv => by
  rw [← hv]; exact h.cell (p := ⟨b, 0, none⟩) (World.block_lt_of_cell? W _ hv) hb

theorem Bk.grown {W W' : World} {row : Option Nat} {g : Nat} {t : TypeId} {cs : Array Value} (h : Bk W g t cs) (hg : W.grownBy W' row) (hr : ∀ r, row = some r → ∃ o : Obj, W.heap[r]? = some o ∧ o.isCells = false) : Bk W' g t cs := by
  unfold Bk at h ⊢
  rw [hg.block g (Array.getElem?_eq_some_iff.1 h).1 (fun e => by
    obtain ⟨o, ho, hc⟩ := hr g e.symm
    rw [h] at ho
    injection ho with ho
    subst ho
    simp [Obj.isCells] at hc)]
  exact h
theorem own_bk {β : Type} (B g : Nat) (t : TypeId) (f : β → Array Value) : OwnFrom B (fun s W => Bk W g t (f s)) := fun _ _ _ _ h hg hr => Bk.grown h hg (fun r e => (hr r e).2)
theorem own_pure {β : Type} (B : Nat) (p : β → Prop) : OwnFrom B (fun s _ => p s) := fun _ _ _ _ h _ _ => h
/-- A node's number. -/
abbrev K9 := Fin 9
def ks (l : List K9) : List Nat := l.map Fin.val

set_option maxRecDepth 100000 in
set_option maxHeartbeats 4000000 in
/-- All's closure, for every loop body that keeps the cell of the role. -/
theorem all1_in (n : Nat) (hn : 1 ≤ n) (l b c : Nat) (m : Nat → Int) (hm : ∀ k, 0 ≤ m k ∧ m k < 256) (r : Int) (J Jx : List K9 → World → Prop)
    (hY : ∀ pre x W, J pre W → pre.length < 9 → YieldAt Fence.wide (n - 1) Try.prog l #[.int .i64 ((x : K9).val : Int)] W fun e W' =>
      (e = .returned (.bool true) ∧ J (pre ++ [x]) W' ∧ KC c W W') ∨ (e = .returned (.bool false) ∧ Jx (pre ++ [x]) W'))
    (W : World) (hb : Bx W b 0 m) (hc : W.cell? ⟨c, 0, none⟩ = some (.int .i64 r)) (h0 : J [] W) :
    CallsIn Fence.wide n Try.prog 32 #[.func (.yield l) #[] #[], .pointer (some ⟨b, 0, none⟩), .pointer (some ⟨c, 0, none⟩)] W fun e W' => (∃ v, e = .returned v) ∧
      ((∃ xs, ks xs = hav m r 9 ∧ J xs W') ∨ (∃ pre, (∃ k, k ≤ 9 ∧ ks pre = hav m r k) ∧ Jx pre W')) := by
  have HI := Lib.hid (fun w => run_index23 w m)
  refine callsIn_of_wp Try.func32 rfl trivial ?_ rfl
  simp only [Try.ntmps32, List.size_toArray, List.length_cons, List.length_nil, Nat.reduceAdd, Nat.reduceSub, Array.replicate_succ, Array.replicate_zero, List.push_toArray, List.append_toArray, List.nil_append, List.cons_append]
  have hB0 : ∀ k, k < 9 → W.cell? ⟨b, k, none⟩ = some (.int .u8 (m k)) := fun k hk => hb.at0 hk
  gi_wp2
  clear hB0 hb
  gi_loopw [7] (fun i wr => ∃ (k : Nat) (pre : List K9), k ≤ 9 ∧ i = .int .i64 k ∧ ks pre = hav m r k ∧ J pre wr ∧ wr.cell? ⟨c, 0, none⟩ = some (.int .i64 r))
    (fun i _ => 9 - (intOf i).toNat)
  case atStart => exact ⟨0, [], Nat.zero_le _, rfl, rfl, h0, hc⟩
  case round =>
    clear hc
    obtain ⟨k, pre, hk, rfl, hpre, hJs, hc⟩ := hrel
    by_cases hlt : k < 9
    · have hi := HI.out wr k hlt
      unfold mv at hi
      have hcv : wrap64 (m k) = m k := wrap64_of (hm k)
      by_cases he : m k = r
      · have hlen : pre.length < 9 := by
          have := congrArg List.length hpre
          have h2 := hav_len m r k
          simp [ks] at this
          omega
        obtain ⟨fn, tmps, assign, body, hy, hR⟩ := hY pre ⟨k, hlt⟩ wr hJs hlen
        dsimp only at hy
        have hne : (m k == r) = true := by simp [he]
        have HE := Lib.hid he
        clear he
        gi_wp2
        refine hR.mono ?_
        rintro e W3 (⟨rfl, hJ3, hk3⟩ | ⟨rfl, hJx3⟩)
        · have hc3 := hk3 _ hc
          gi_wp2
          go_roundw
          case rel => exact ⟨k + 1, pre ++ [⟨k, hlt⟩], by omega, by simp, by rw [hav_yes HE.out, ← hpre]; simp [ks], hJ3, hc3⟩
          case measure => simp [intOf]; omega
        · gi_wp2
          refine bodyPost_ret (results_none rfl _ _ _) rfl ?_
          exact ⟨⟨_, rfl⟩, .inr ⟨_, ⟨k + 1, by omega, by rw [hav_yes HE.out, ← hpre]; simp [ks]⟩, hJx3⟩⟩
      · have hne : (m k == r) = false := by simp [he]
        have HE := Lib.hid he
        clear he
        gi_wp2
        refine ⟨fun _ h => (by cases h), ?_⟩
        gi_wp2
        go_roundw
        case rel => exact ⟨k + 1, pre, by omega, by simp, by rw [hav_no HE.out]; exact hpre, hJs, hc⟩
        case measure => simp [intOf]; omega
    · obtain rfl : k = 9 := by omega
      gi_wp2
      go_end0
      exact ⟨⟨_, rfl⟩, .inl ⟨_, hpre, hJs⟩⟩

/-- What All hands back is a sequence: all that have the role, rising; or a front of them. -/
theorem all_stops (n : Nat) (hn : 1 ≤ n) (b c : Nat) (m : Nat → Int) (hm : ∀ k, 0 ≤ m k ∧ m k < 256) (r : Int) (w : World) (hb : Bx w b 0 m) (hc : w.cell? ⟨c, 0, none⟩ = some (.int .i64 r)) :
    SeqStopsK Fence.wide n Try.prog 32 #[.pointer (some ⟨b, 0, none⟩), .pointer (some ⟨c, 0, none⟩)] (fun x : K9 => #[Value.int .i64 (x.val : Int)]) (KC c) (fun xs => ks xs = hav m r 9)
      (fun pre => ∃ k, k ≤ 9 ∧ ks pre = hav m r k) 9 w := fun l J Jx W hW _ _ hY h0 => by
  have hb' : Bx W b 0 m := fun k hk => (hW.cell (p := ⟨b, 0 + k, none⟩) hb.lt).trans (hb k hk)
  have hc' := (hW.cell (p := ⟨c, 0, none⟩) (World.block_lt_of_cell? w _ hc)).trans hc
  exact all1_in n hn l b c m hm r J Jx hY W hb' hc' h0

set_option maxHeartbeats 1000000 in
/-- All(m, role): both are boxed; the function value captures the boxes. -/
theorem all_in (n : Nat) (m : Nat → Int) (r : Int) (w : World) :
    CallsIn Fence.wide n Try.prog 24 #[mv m, .int .i64 r] w fun e w' => e = .returned (.func (.func 32) #[] #[.pointer (some ⟨w.heap.size, 0, none⟩), .pointer (some ⟨w.heap.size + 1, 0, none⟩)]) ∧
      w' = (w.alloc (.cells (mcs m) 23)).alloc (.cells #[.int .i64 r] 3) := by
  unfold mv mcs
  refine callsIn_of_wp Try.func24 rfl trivial ?_ rfl
  simp only [Try.ntmps24, List.size_toArray, List.length_cons, List.length_nil, Nat.reduceAdd, Nat.reduceSub, Array.replicate_succ, Array.replicate_zero, List.push_toArray, List.append_toArray, List.nil_append, List.cons_append]
  gi_wp2
  go_ret
  exact ⟨rfl, rfl⟩
end Go.Proofs.Ytiinkjplhihdaaa
