/- flow: beginTask, Decides, New. -/
import Derived.Test.YtkinbcmnfpkncaaDoorXe
import Derived.Test.YtkinbcmnfpkncaaDoorXf
namespace Go.Proofs.YtkinbcmnfpkncaaDoor
open Go.RowKit Go.Maps

/-- What a call that lays these events answers. -/
def LayPost (w : World) (g bm : Nat) (A : Option Addr) (n c : Nat) (ps : List VL) (s : FS) (now : Int) (es : List Ev) (e : Ending) (w' : World) : Prop :=
  ∃ A' c' ps' mo' D' Ao mo co os, e = .returned (.tuple #[.slice Ao mo co, .int .i64 0]) ∧ os.length = mo ∧ os.map OL.o = (s.lay now es).2 ∧ LayR w w' g bm A n c ps A' (n + es.length) c' ps' mo' D' (s.lay now es).1 (.slice Ao mo co) os ∧ ((∀ e ∈ es, closesK e.k = false) → mo' = some bm)
theorem LayPost.back {w w1 w' : World} {g bm : Nat} {A : Option Addr} {n c : Nat} {ps : List VL} {s : FS} {now : Int} {es : List Ev} {e : Ending} (hf : Fr (fun _ => False) w w1) (h : LayPost w1 g bm A n c ps s now es e w') : LayPost w g bm A n c ps s now es e w' := by
  obtain ⟨A', c', ps', mo', D', Ao, mo, co, os, h1, h2, h3, h4, h5⟩ := h
  refine ⟨A', c', ps', mo', D', Ao, mo, co, os, h1, h2, h3, ⟨h4.fl, (hf.mono (fun _ _ h => h.elim)).trans h4.fr (fun _ _ h => h), ?_, fun k hk => (h4.nb k hk).imp id (fun h => Nat.le_trans hf.size h), h4.ou, fun k hk => Nat.le_trans hf.size (h4.on k hk), h4.mo⟩, h5⟩
  exact h4.mv.elim .inl (fun ⟨x, e, hx⟩ => .inr ⟨x, e, Nat.le_trans hf.size hx⟩)
theorem LayPost.two {w : World} {g bm : Nat} {A : Option Addr} {n c : Nat} {ps : List VL} {s : FS} {now : Int} {es : List Ev} {e : Ending} {w' : World} (h : LayPost w g bm A n c ps s now es e w') : ∃ v u, e = .returned (.tuple #[v, u]) := by
  obtain ⟨A', c', ps', mo', D', Ao, mo, co, os, h1, _⟩ := h
  exact ⟨_, _, h1⟩
theorem layOne_any {w : World} {g bm : Nat} {A : Option Addr} {n c : Nat} {ps : List VL} {D : DV} {s : FS} (h : FlM w g A n c ps (some bm) D s) (now : Int) (hnow : 0 ≤ now ∧ now ≤ 1099511627776) (gB : Nat) (p : VL) (hk : Bk w gB 75 p.cells.toArray) {F : Nat → Prop} (hp : RdV w F p) (hF : ∀ k, F k → ¬ AF g bm (.slice A n c) k) (hgB : ¬ AF g bm (.slice A n c) gB) (hn : n + 1 ≤ 4096) (hok : layOk n [p.e]) :
    Calls Tryd.prog 29 #[.pointer (some ⟨g, 0, none⟩), .int .i64 now, .slice (some ⟨gB, 0, none⟩) 1 1] w (LayPost w g bm A n c ps s now [p.e]) := by
  refine (layF_any h now hnow _ 1 1 [p] (vs_one' hk hp) (fun k hk => hk.elim (fun e => by rw [e]; exact hgB) (hF k)) hn hok).mono ?_
  rintro e w' ⟨A', c', ps', mo', D', Ao, mo, co, os, h1, h2, h3, h4, h5⟩
  exact ⟨A', c', ps', mo', D', Ao, mo, co, os, h1, h2, h3, h4, h5⟩
theorem AF.lt {w : World} {g bm : Nat} {A : Option Addr} {n c : Nat} {ps : List VL} {D : DV} {s : FS} (h : FlM w g A n c ps (some bm) D s) {k : Nat} (hk : AF g bm (.slice A n c) k) : k < w.heap.size := by
  rcases hk with rfl | rfl | e
  · exact h.blk.lt
  · exact (h.map _ rfl).1.lt
  · exact h.own.row.lt e
theorem okE (k r i n : Int) (hk : I64 k) (hr : I64 r) (hi : I64 i) (hn : I64 n) : VL.ok ⟨evN k r i n, none, 0⟩ := ⟨hk, i64z, hr, hi, i64z, hn, by simp [evN]⟩
theorem rdN (w : World) (k r i n : Int) (hk : I64 k) (hr : I64 r) (hi : I64 i) (hn : I64 n) : RdV w (fun _ => False) ⟨evN k r i n, none, 0⟩ := ⟨Rd8.nil _ _, okE k r i n hk hr hi hn, fun ad e => by cases e⟩

set_option maxRecDepth 100000 in
set_option maxHeartbeats 4000000 in
theorem beginTask_any {w : World} {g bm : Nat} {A : Option Addr} {n c : Nat} {ps : List VL} {D : DV} {s : FS} (h : FlM w g A n c ps (some bm) D s) (hd : Hd) (t : Int) (ht : s.taskAt hd.ref hd.turn = (t, 0)) (ht0 : t ≠ 0) (hr64 : I64 hd.ref) (hnow : 0 ≤ hd.now ∧ hd.now ≤ 1099511627776) (hn : n + 1 ≤ 4096) :
    Calls Tryd.prog 50 #[.pointer (some ⟨g, 0, none⟩), .agg hd.cells] w (LayPost w g bm A n c ps s hd.now [evN 3 hd.ref 0 0]) := by
  obtain ⟨g2, hg2⟩ : ∃ g2, w.heap.size = g2 := ⟨_, rfl⟩
  obtain ⟨W, hW⟩ : ∃ W, w.alloc (.cells hd.cells 67) = W := ⟨_, rfl⟩
  have HF : Hid (Fr (fun _ => False) w W) := Lib.hid (by rw [← hW]; exact (Fr.refl _ _).alloc _)
  have HB : Hid (Bk W g2 67 hd.cells) := Lib.hid (by rw [← hW, ← hg2]; exact Bk.new _ _ _)
  have HFL := Lib.hid (fun w' (hf : Fr (fun _ => False) W w') => h.fr (HF.out.trans hf (fun _ _ h => h)) (fun _ _ h => h))
  have HAF := Lib.hid (fun k (hk : AF g bm (.slice A n c) k) => AF.lt h hk)
  have CT := Lib.hid (fun w' (hf : Fr (fun _ => False) W w') => taskAt_any (HFL.out w' hf) hd.ref hd.turn)
  rw [ht] at CT
  have CW := Lib.hid (fun w' => waits_any t 0 w')
  have ht1 : (t != 0) = true := by rw [bne_iff_ne]; exact ht0
  rw [ht1] at CW
  have CL : Hid (∀ w', Fr (fun _ => False) W w' → Calls Tryd.prog 29 #[.pointer (some ⟨g, 0, none⟩), .int .i64 hd.now, .slice (some ⟨w'.heap.size, 0, none⟩) 1 1] (w'.alloc (.cells #[.int .i64 3, .int .i64 0, .int .i64 hd.ref, .int .i64 0, .int .i64 0, .int .i64 0, .slice none 0 0] 75)) (LayPost w g bm A n c ps s hd.now [evN 3 hd.ref 0 0])) := Lib.hid (fun w' hf => by
    have hf2 : Fr (fun _ => False) W (w'.alloc (.cells #[.int .i64 3, .int .i64 0, .int .i64 hd.ref, .int .i64 0, .int .i64 0, .int .i64 0, .slice none 0 0] 75)) := hf.alloc _
    refine (layOne_any (HFL.out _ hf2) hd.now hnow w'.heap.size ⟨evN 3 hd.ref 0 0, none, 0⟩ (Bk.new _ _ _) (rdN _ 3 hd.ref 0 0 ⟨by decide, by decide⟩ hr64 i64z i64z) (fun _ h => h.elim) (fun e => by have := HAF.out _ e; have := HF.out.size; have := hf.size; omega) hn ⟨⟨by simp [evN], by simp [evN]⟩, fun h => by simp [evN] at h, fun h => absurd rfl h, trivial⟩).mono ?_
    intro e w9 hp
    exact hp.back (HF.out.trans hf2 (fun _ _ h => h)))
  clear h ht ht0 hr64 hnow hn ht1 HFL HAF
  obtain ⟨ref, turn, id, st, dA, dn, dc, lA, ln, lc, now⟩ := hd
  unfold Hd.cells at *
  simp only at *
  have HC : Hid (∀ w', Fr (fun _ => False) W w' → w'.cell? ⟨g2, 0, none⟩ = some (.int .i64 ref) ∧ w'.cell? ⟨g2, 1, none⟩ = some (.int .i64 turn) ∧ w'.cell? ⟨g2, 6, none⟩ = some (.int .i64 now)) := Lib.hid (fun w' hf => by
    have hb := HB.out.fr hf (fun h => h)
    exact ⟨hb.cell 0, hb.cell 1, hb.cell 6⟩)
  obtain ⟨q0, q1, q6⟩ := HC.out W (Fr.refl _ _)
  go_enter Tryd.func50, Tryd.ntmps50
  go_wp2_with fail
  clear hW hg2 q0 q1 q6
  refine (CT.out _ (Fr.refl _ _)).mono ?_; rintro e w1 ⟨rfl, hf1⟩
  go_wp2_with fail
  refine (CW.out _).mono ?_; rintro e w2 ⟨rfl, hf2⟩
  have HF2 := Lib.hid (hf1.trans hf2 (fun _ _ h => h))
  obtain ⟨q0, q1, q6⟩ := HC.out w2 HF2.out
  clear hf1 hf2 CT CW
  go_wp2_with fail
  refine (CL.out _ HF2.out).mono ?_; rintro e w9 hp
  obtain ⟨v, u, rfl⟩ := hp.two
  clear q0 q1 q6
  go_wp2
  go_ret2
  exact hp
set_option maxRecDepth 100000 in
theorem decides_ok {w : World} {g bm : Nat} {A : Option Addr} {n c : Nat} {ps : List VL} {D : DV} {s : FS} (h : FlM w g A n c ps (some bm) D s) (h0 : 0 < n) (ref turn now t : Int) (ht : s.taskAt ref turn = (t, 0)) (ht0 : t ≠ 0) (hr64 : I64 ref) (hnow : 0 ≤ now ∧ now ≤ 1099511627776) (hl : (s.L.getD (n - 1) default).a ≤ now) (hst : statL s.L = 1) (hn : n + 1 ≤ 4096) :
    Calls Tryd.prog 15 #[.pointer (some ⟨g, 0, none⟩), .int .i64 ref, .int .i64 turn, .int .i64 now] w (LayPost w g bm A n c ps s now [evN 3 ref 0 0]) := by
  have hmf : ∀ (fn : Fn) (first cap : Array Value) (w : World), (Instr.makeFunc fn first cap).run Tryd.prog w = .ok (.func fn first cap) w := fun _ _ _ _ => rfl
  have C := Lib.hid (do_ok h h0 50 ⟨ref, turn, 0, 0, none, 0, 0, none, 0, 0, now⟩ (by unfold Hd.fits; simp only [Bool.and_eq_true, decide_eq_true_eq]; omega) hl hst (fun _ _ => by kernel_rfl) (Q := LayPost w g bm A n c ps s now [evN 3 ref 0 0]) (fun w' hf => (beginTask_any (h.fr hf (fun _ _ h => h)) ⟨ref, turn, 0, 0, none, 0, 0, none, 0, 0, now⟩ t ht ht0 hr64 hnow hn).mono (fun e w9 hp => ⟨hp.two, hp.back hf⟩)))
  unfold Hd.cells at C
  simp only at C
  clear h h0 ht ht0 hr64 hnow hl hst hn
  go_enter Tryd.func15, Tryd.ntmps15
  go_wp2_with fail
  refine C.out.mono ?_; rintro e w9 hp
  obtain ⟨v, u, rfl⟩ := hp.two
  go_wp2
  go_ret2
  exact hp
end Go.Proofs.YtkinbcmnfpkncaaDoor
