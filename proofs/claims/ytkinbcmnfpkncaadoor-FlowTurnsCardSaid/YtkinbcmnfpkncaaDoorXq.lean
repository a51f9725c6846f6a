/- flow: Decide where late; a run on which signals came. -/
import Derived.Test.YtkinbcmnfpkncaaDoorXl
import Derived.Test.YtkinbcmnfpkncaaDoorXp
namespace Go.Proofs.YtkinbcmnfpkncaaDoor
open Go.RowKit Go.Maps

set_option maxRecDepth 100000 in
set_option maxHeartbeats 4000000 in
theorem Decide_late {w : World} {g bm : Nat} {A : Option Addr} {n c : Nat} {ps : List VL} {D : DV} {s : FS} (h : FlM w g A n c ps (some bm) D s) (h0 : 0 < n) (hM : MadeT w) (ref turn now t : Int) (ht : s.taskAt ref turn = (t, s.beg)) (hb0 : s.beg ≠ 0) (hlate : s.late = true) (hnow : 0 ≤ now ∧ now ≤ 1099511627776) (hll : (s.L.getD (n - 1) default).a ≤ now) (hst : statL s.L = 1) (hn : n + 2 ≤ 4096) {G : Nat → Prop} (x : DL) (d : List UInt8) (hk : x.k = 5 ∨ x.k = 6 ∨ x.k = 8 ∨ (x.k = 7 ∧ w.cell? ⟨g, 8, none⟩ = some (.bool true))) (hmay : x.may = true) (hr : Rd8 w x.A d) (hd : d.length = x.dl) (hd2 : x.dl ≤ 140737488355328) (hG : ∀ ad, x.A = some ad → 0 < x.dl → G ad.block) (hi : I64 x.i) (hl : I64 x.l) (hx : I64 x.n) (hx0 : 0 ≤ x.n ∧ x.n ≤ 1099511627776) (hGA : ∀ k, G k → ¬ AF g bm (.slice A n c) k) (hGl : ∀ k, G k → k < w.heap.size) (bx ox lc : Nat) (hc : ∀ j u, x.cells[j]? = some u → w.cell? ⟨bx, ox + j, none⟩ = some u) :
    Calls Tryd.prog 24 #[.pointer (some ⟨g, 0, none⟩), .int .i64 ref, .int .i64 turn, .slice (some ⟨bx, ox, none⟩) 1 lc, .int .i64 now] w (CallPost w g bm A n c ps (n + 2) (s.lay now (s.vain 6 2)).1 (s.lay now (s.vain 6 2)).2 23) := by
  have hmf : ∀ (fn : Fn) (first cap : Array Value) (w : World), (Instr.makeFunc fn first cap).run Tryd.prog w = .ok (.func fn first cap) w := fun _ _ _ _ => rfl
  have C := Lib.hid (do_ok h h0 69 ⟨ref, turn, 0, 0, none, 0, 0, some ⟨bx, ox, none⟩, 1, lc, now⟩ (by unfold Hd.fits; simp only [Bool.and_eq_true, decide_eq_true_eq]; omega) hll hst (fun _ _ => by kernel_rfl) (Q := CallPost w g bm A n c ps (n + 2) (s.lay now (s.vain 6 2)).1 (s.lay now (s.vain 6 2)).2 23) (fun w' hf => by
    have hk' : x.k = 5 ∨ x.k = 6 ∨ x.k = 8 ∨ (x.k = 7 ∧ w'.cell? ⟨g, 8, none⟩ = some (.bool true)) := by
      rcases hk with h | h | h | ⟨h, h9⟩
      · exact .inl h
      · exact .inr (.inl h)
      · exact .inr (.inr (.inl h))
      · exact .inr (.inr (.inr ⟨h, (hf.cell (World.block_lt_of_cell? w _ h9) (fun h => h)).trans h9⟩))
    refine (decide_late (h.fr hf (fun _ _ h => h)) (hM.fr hf (fun h => h)) ⟨ref, turn, 0, 0, none, 0, 0, some ⟨bx, ox, none⟩, 1, lc, now⟩ t ht hb0 h0 hlate hnow hn x d hk' hmay (hr.fr hf (fun _ _ _ h => h)) hd hd2 hG hi hl hx hx0 hGA (fun k hk => Nat.lt_of_lt_of_le (hGl k hk) hf.size) bx ox ⟨rfl, rfl⟩ (fun j u hu => (hf.cell (World.block_lt_of_cell? w _ (hc j u hu)) (fun h => h)).trans (hc j u hu))).mono ?_
    intro e w9 hp
    exact ⟨hp.two, hp.back hf⟩))
  unfold Hd.cells at C
  simp only at C
  clear h h0 hM ht hb0 hlate hnow hll hst hn hk hmay hr hd hd2 hG hi hl hx hx0 hGA hGl hc
  go_enter Tryd.func24, Tryd.ntmps24
  go_wp2_with fail
  refine C.out.mono ?_; rintro e w9 hp
  obtain ⟨v, u, rfl⟩ := hp.two
  go_wp2
  go_ret2
  exact hp

/-! ### in plain words -/
/-- k came since the task was begun, at 1 or elder. -/
structure Came (k : Nat) (s : FS) : Prop where
  len : s.L.length = 3 + k
  tat : s.tat = 2
  beg : s.beg = 3
  trn : s.turn = 0
  late : s.late = decide (0 < k)
  st : statL s.L = 1
  fst : (s.L.getD 0 default).l = 0 ∧ (s.L.getD 0 default).n = 7
  last : (s.L.getD (2 + k) default).a ≤ 1
theorem getD_snoc_lt {l : List Ev} {e : Ev} {i : Nat} (h : i < l.length) : (l ++ [e]).getD i default = l.getD i default := by simp [List.getElem?_append_left h]
theorem getD_snoc_eq {l : List Ev} {e : Ev} {i : Nat} (h : i = l.length) : (l ++ [e]).getD i default = e := by subst h; simp
theorem statL_snoc (l : List Ev) (e : Ev) : statL (l ++ [e]) = statB e.k := by unfold statL; simp
theorem lay_come (s : FS) (now : Int) (e : Ev) (hk : e.k = 15 ∨ e.k = 16) : (s.lay now [e]).1.L = s.L ++ [e.at now] ∧ (s.lay now [e]).1.tat = s.tat ∧ (s.lay now [e]).1.beg = s.beg ∧ (s.lay now [e]).1.turn = s.turn ∧ (s.lay now [e]).1.asked = (s.asked || decide (e.k = 16)) ∧ (s.lay now [e]).2 = [] := by
  obtain ⟨k, a, r, i, l, n, d⟩ := e
  simp only at hk
  rcases hk with rfl | rfl <;> simp [FS.lay, FS.lay1, FS.add, FS.out, Ev.at]
theorem Came.more {k : Nat} {s : FS} (h : Came k s) (e : Ev) (hk : e.k = 15 ∨ e.k = 16) : Came (k + 1) { (s.lay 1 [e]).1 with late := (s.lay 1 [e]).1.beg != 0 } := by
  obtain ⟨h1, h2, h3, h4, -, -⟩ := lay_come s 1 e hk
  refine ⟨?_, ?_, ?_, ?_, ?_, ?_, ?_, ?_⟩
  · show (s.lay 1 [e]).1.L.length = _; rw [h1]; simp [h.len]; omega
  · exact h2.trans h.tat
  · exact h3.trans h.beg
  · exact h4.trans h.trn
  · show ((s.lay 1 [e]).1.beg != 0) = _; rw [h3, h.beg]; simp
  · show statL (s.lay 1 [e]).1.L = 1
    rw [h1, statL_snoc]
    show statB e.k = 1
    rcases hk with e | e <;> rw [e] <;> rfl
  · show ((s.lay 1 [e]).1.L.getD 0 default).l = 0 ∧ ((s.lay 1 [e]).1.L.getD 0 default).n = 7
    rw [h1, getD_snoc_lt (by rw [h.len]; omega)]; exact h.fst
  · show ((s.lay 1 [e]).1.L.getD (2 + (k + 1)) default).a ≤ 1
    rw [h1, getD_snoc_eq (by have := h.len; omega)]; exact Int.le_refl _
/-- It is refused, and begun again. -/
structure Again (k : Nat) (s : FS) : Prop where
  len : s.L.length = 5 + k
  tat : s.tat = 5 + k
  beg : s.beg = 0
  trn : s.turn = 1
  late : s.late = false
  st : statL s.L = 1
  fst : (s.L.getD 0 default).l = 0 ∧ (s.L.getD 0 default).n = 7
  last : (s.L.getD (4 + k) default).a ≤ 2
theorem Came.vain {k : Nat} {s : FS} (h : Came k s) : Again k (s.lay 2 (s.vain 6 2)).1 ∧ (s.lay 2 (s.vain 6 2)).1.asked = s.asked ∧ (s.lay 2 (s.vain 6 2)).2 = [⟨1, 0, 5 + k, 1, 0, 0, 0, []⟩] := by
  have hs : s.vain 6 2 = [⟨6, 0, 3, 0, 0, 2, []⟩, ⟨2, 0, 0, 0, 0, 1, []⟩] := by unfold FS.vain evN evS; rw [h.beg, h.fst.1, h.trn]; rfl
  rw [hs]
  have hL : (s.lay 2 [⟨6, 0, 3, 0, 0, 2, []⟩, ⟨2, 0, 0, 0, 0, 1, []⟩]).1.L = (s.L ++ [⟨6, 2, 3, 0, 0, 2, []⟩]) ++ [⟨2, 2, 0, 0, 0, 1, []⟩] := by simp [FS.lay, FS.lay1, FS.add, FS.out, Ev.at]
  refine ⟨⟨?_, ?_, ?_, ?_, ?_, ?_, ?_, ?_⟩, ?_, ?_⟩
  · rw [hL]; simp [h.len]; omega
  · simp [FS.lay, FS.lay1, FS.add, FS.out, Ev.at, h.len]; try omega
  · simp [FS.lay, FS.lay1, FS.add, FS.out, Ev.at]
  · simp [FS.lay, FS.lay1, FS.add, FS.out, Ev.at, h.trn]
  · simp [FS.lay, FS.lay1, FS.add, FS.out, Ev.at]
  · rw [hL, statL_snoc]; rfl
  · rw [hL, getD_snoc_lt (by simp [h.len]), getD_snoc_lt (by rw [h.len]; omega)]; exact h.fst
  · rw [hL, getD_snoc_eq (by simp [h.len]; omega)]; exact Int.le_refl _
  · simp [FS.lay, FS.lay1, FS.add, FS.out, Ev.at]
  · simp [FS.lay, FS.lay1, FS.add, FS.out, Ev.at, h.len]; try omega
/-- It was begun again. -/
structure Begun (k : Nat) (s : FS) : Prop where
  len : s.L.length = 6 + k
  tat : s.tat = 5 + k
  beg : s.beg = 6 + k
  trn : s.turn = 1
  late : s.late = false
  st : statL s.L = 1
  last : (s.L.getD (5 + k) default).a ≤ 3
theorem Again.begun {k : Nat} {s : FS} (h : Again k s) : Begun k (s.lay 3 [evN 3 (5 + k) 0 0]).1 ∧ (s.lay 3 [evN 3 (5 + k) 0 0]).1.asked = s.asked := by
  have hL : (s.lay 3 [evN 3 (5 + k) 0 0]).1.L = s.L ++ [⟨3, 3, 5 + k, 0, 0, 0, []⟩] := by simp [FS.lay, FS.lay1, FS.add, FS.out, Ev.at, evN]
  refine ⟨⟨?_, ?_, ?_, ?_, ?_, ?_, ?_⟩, ?_⟩
  · rw [hL]; simp [h.len]; omega
  · simp [FS.lay, FS.lay1, FS.add, FS.out, Ev.at, evN, h.tat]
  · simp [FS.lay, FS.lay1, FS.add, FS.out, Ev.at, evN, h.len]; try omega
  · simp [FS.lay, FS.lay1, FS.add, FS.out, Ev.at, evN, h.trn]
  · simp [FS.lay, FS.lay1, FS.add, FS.out, Ev.at, evN, h.late]
  · rw [hL, statL_snoc]; rfl
  · rw [hL, getD_snoc_eq (by have := h.len; omega)]; exact Int.le_refl _
  · simp [FS.lay, FS.lay1, FS.add, FS.out, Ev.at, evN]
/-- What closes it. -/
theorem lay_closes (s : FS) (now : Int) (k : Int) (hk : 5 ≤ k ∧ k ≤ 8) : statL (s.lay now [evN 4 s.beg 0 0, closeE ⟨k, 0, 0, 0, none, 0, 0⟩ []]).1.L ≠ 1 ∧ (s.lay now [evN 4 s.beg 0 0, closeE ⟨k, 0, 0, 0, none, 0, 0⟩ []]).2.length = 1 := by
  obtain rfl | rfl | rfl | rfl : k = 5 ∨ k = 6 ∨ k = 7 ∨ k = 8 := by omega
  all_goals (constructor <;> simp [FS.lay, FS.lay1, FS.add, FS.out, Ev.at, evN, closeE, closeK, statL, statB])
/-- The run, begun. -/
def sL1 : FS := ⟨3, 1, [⟨1, 0, 0, 0, 0, 7, []⟩, ⟨2, 0, 0, 0, 0, 0, []⟩], 2, 0, 0, false, false, fun _ _ => (0, 0)⟩
def sL2 : FS := ⟨3, 1, [⟨1, 0, 0, 0, 0, 7, []⟩, ⟨2, 0, 0, 0, 0, 0, []⟩, ⟨3, 0, 2, 0, 0, 0, []⟩], 2, 3, 0, false, false, fun _ _ => (0, 0)⟩
theorem stL1 : (FS.new 3 1).lay 0 [⟨1, 0, 0, 0, 0, 7, []⟩, evS 0 0] = (sL1, [⟨1, 0, 2, 0, 0, 0, 0, []⟩]) := rfl
theorem stL2 : (sL1.lay 0 [evN 3 2 0 0]).1 = sL2 := rfl
theorem cameL2 : Came 0 sL2 := ⟨rfl, rfl, rfl, rfl, rfl, rfl, ⟨rfl, rfl⟩, by decide⟩
end Go.Proofs.YtkinbcmnfpkncaaDoor
