/- flow: what comes while a task is there; Signal, Cancel. -/
import Derived.Test.YtkinbcmnfpkncaaDoorXh
namespace Go.Proofs.YtkinbcmnfpkncaaDoor
open Go.RowKit Go.Maps

/-- What a call answers: these came out, this error; the run is s' behind it, and open. -/
def CallPost (w : World) (g bm : Nat) (A : Option Addr) (n c : Nat) (ps : List VL) (n' : Nat) (s' : FS) (ou : List Ou) (er : Int) (e : Ending) (w' : World) : Prop :=
  ∃ A' c' ps' D' Ao mo co os, e = .returned (.tuple #[.slice Ao mo co, .int .i64 er]) ∧ os.length = mo ∧ os.map OL.o = ou ∧ LayR w w' g bm A n c ps A' n' c' ps' (some bm) D' s' (.slice Ao mo co) os
theorem CallPost.back {w w1 w' : World} {g bm : Nat} {A : Option Addr} {n c : Nat} {ps : List VL} {n' : Nat} {s' : FS} {ou : List Ou} {er : Int} {e : Ending} (hf : Fr (fun _ => False) w w1) (h : CallPost w1 g bm A n c ps n' s' ou er e w') : CallPost w g bm A n c ps n' s' ou er e w' := by
  obtain ⟨A', c', ps', D', Ao, mo, co, os, h1, h2, h3, h4⟩ := h
  refine ⟨A', c', ps', D', Ao, mo, co, os, h1, h2, h3, h4.fl, (hf.mono (fun _ _ h => h.elim)).trans h4.fr (fun _ _ h => h), ?_, fun k hk => (h4.nb k hk).imp id (fun h => Nat.le_trans hf.size h), h4.ou, fun k hk => Nat.le_trans hf.size (h4.on k hk), h4.mo⟩
  exact h4.mv.elim .inl (fun ⟨x, e, hx⟩ => .inr ⟨x, e, Nat.le_trans hf.size hx⟩)
theorem CallPost.two {w : World} {g bm : Nat} {A : Option Addr} {n c : Nat} {ps : List VL} {n' : Nat} {s' : FS} {ou : List Ou} {er : Int} {e : Ending} {w' : World} (h : CallPost w g bm A n c ps n' s' ou er e w') : ∃ v u, e = .returned (.tuple #[v, u]) := by
  obtain ⟨A', c', ps', D', Ao, mo, co, os, h1, _⟩ := h
  exact ⟨_, _, h1⟩
/-- What stands behind a run's own store of late. -/
theorem LayR.late {w w' : World} {g bm : Nat} {A : Option Addr} {n c : Nat} {ps : List VL} {A' : Option Addr} {n' c' : Nat} {ps' : List VL} {mo' : Option Nat} {D' : DV} {s' : FS} {v : Value} {os : List OL} (h : LayR w w' g bm A n c ps A' n' c' ps' mo' D' s' v os) (b : Bool) :
    LayR w (w'.setCell ⟨g, 7, none⟩ (.bool b)) g bm A n c ps A' n' c' ps' mo' D' { s' with late := b } v os := by
  have hf : Fr (fun x => x = g) w' (w'.setCell ⟨g, 7, none⟩ (.bool b)) := Fr.setCell (S := fun x => x = g) (p := ⟨g, 7, none⟩) (Fr.refl _ _) (fun _ => rfl) _
  have hb := h.fl.blk
  refine ⟨{ h.fl with blk := ?_, own := h.fl.own.fr hf (fun k hk e => ?_), map := fun bm e => ⟨(h.fl.map bm e).1.fr hf (fun e2 => (h.fl.map bm e).1.ne hb e2.symm), (h.fl.map bm e).2⟩ }, h.fr.trans hf (fun x _ e => .inl e), h.mv, h.nb, h.ou.fr hf (fun k hk e => ?_), h.on, h.mo⟩
  · have := hb.set 7 (.bool b)
    simpa [FS.cells] using this
  · obtain ⟨t, cur, hk9, ht9⟩ := h.fl.own.bk hk
    have e' : k = g := e
    subst e'
    rcases ht9 with rfl | rfl
    · exact Bk.ne hk9 hb (by decide) rfl
    · exact Bk.ne hk9 hb (by decide) rfl
  · obtain ⟨t, cur, hk9, ht9⟩ := h.ou.bk hk
    have e' : k = g := e
    subst e'
    rcases ht9 with rfl | rfl
    · exact Bk.ne hk9 hb (by decide) rfl
    · exact Bk.ne hk9 hb (by decide) rfl

set_option maxRecDepth 100000 in
set_option maxHeartbeats 8000000 in
/-- Something comes while a task is scheduled, or begun. -/
theorem come_task {w : World} {g bm : Nat} {A : Option Addr} {n c : Nat} {ps : List VL} {D : DV} {s : FS} (h : FlM w g A n c ps (some bm) D s) (ht : s.tat ≠ 0) (now : Int) (hnow : 0 ≤ now ∧ now ≤ 1099511627776) (p : VL) {G : Nat → Prop} (hp : RdV w G p) (hG : ∀ k, G k → ¬ AF g bm (.slice A n c) k) (hn : n + 1 ≤ 4096) (hok : layOk n [p.e]) (hcl : closesK p.e.k = false) :
    Calls Tryd.prog 92 #[.pointer (some ⟨g, 0, none⟩), .int .i64 now, p.val] w (CallPost w g bm A n c ps (n + 1) { (s.lay now [p.e]).1 with late := (s.lay now [p.e]).1.beg != 0 } (s.lay now [p.e]).2 0) := by
  obtain ⟨g0, hg0⟩ : ∃ g0, w.heap.size = g0 := ⟨_, rfl⟩
  obtain ⟨W, hW⟩ : ∃ W, w.alloc (.cells p.cells.toArray 75) = W := ⟨_, rfl⟩
  have HF : Hid (Fr (fun _ => False) w W) := Lib.hid (by rw [← hW]; exact (Fr.refl _ _).alloc _)
  have HB : Hid (Bk W g0 75 p.cells.toArray) := Lib.hid (by rw [← hW, ← hg0]; exact Bk.new _ _ _)
  have hfl := h.fr HF.out (fun _ _ h => h)
  have y4 : W.cell? ⟨g, 4, none⟩ = some (.int .i64 s.tat) := hfl.blk.cell 4
  have d4 : (s.tat == 0) = false := by rw [beq_eq_false_iff_ne]; exact ht
  have hv : p.val = .agg #[.int .i64 p.e.k, .int .i64 p.e.a, .int .i64 p.e.r, .int .i64 p.e.i, .int .i64 p.e.l, .int .i64 p.e.n, .slice p.A p.e.d.length p.c] := rfl
  have hpc : p.cells.toArray = #[.int .i64 p.e.k, .int .i64 p.e.a, .int .i64 p.e.r, .int .i64 p.e.i, .int .i64 p.e.l, .int .i64 p.e.n, .slice p.A p.e.d.length p.c] := rfl
  have CL : Hid (Calls Tryd.prog 29 #[.pointer (some ⟨g, 0, none⟩), .int .i64 now, .slice (some ⟨W.heap.size, 0, none⟩) 1 1] (W.alloc (.cells p.cells.toArray 75)) (LayPost w g bm A n c ps s now [p.e])) := Lib.hid (by
    have hf2 : Fr (fun _ => False) W (W.alloc (.cells p.cells.toArray 75)) := (Fr.refl _ _).alloc _
    refine (layOne_any (hfl.fr hf2 (fun _ _ h => h)) now hnow W.heap.size p (Bk.new _ _ _) (hp.fr (HF.out.trans hf2 (fun _ _ h => h)) (fun _ _ h => h)) hG (fun e => by have := AF.lt hfl e; omega) hn hok).mono ?_
    intro e w9 hp9
    exact hp9.back (HF.out.trans hf2 (fun _ _ h => h)))
  have HCL := Lib.hid hcl
  rw [hv]
  rw [hpc] at hW HB CL
  obtain ⟨sl, hsl⟩ : ∃ sl, s.lay now [p.e] = sl := ⟨_, rfl⟩
  have HPE : Hid (∀ e w', LayPost w g bm A n c ps s now [p.e] e w' → ∃ A' c' ps' D' Ao mo co os, e = .returned (.tuple #[.slice Ao mo co, .int .i64 0]) ∧ os.length = mo ∧ os.map OL.o = sl.2 ∧ LayR w w' g bm A n c ps A' (n + 1) c' ps' (some bm) D' sl.1 (.slice Ao mo co) os) := Lib.hid (fun e w' hp => by
    obtain ⟨A', c', ps', mo', D', Ao, mo, co, os, h1, h2, h3, h4, h5⟩ := hp
    obtain rfl := h5 (by intro e he; simp at he; subst he; exact HCL.out)
    rw [hsl] at h3 h4
    exact ⟨A', c', ps', D', Ao, mo, co, os, h1, h2, h3, h4⟩)
  rw [hsl]
  have CL2 := Lib.hid (CL.out.mono HPE.out)
  clear h ht hnow hp hG hn hok hcl hfl hv hpc hsl CL HPE HCL
  generalize p.e.k = x0 at *
  generalize p.e.a = x1 at *
  generalize p.e.r = x2 at *
  generalize p.e.i = x3 at *
  generalize p.e.l = x4 at *
  generalize p.e.n = x5 at *
  generalize p.e.d.length = dl at *
  generalize p.A = pA at *
  generalize p.c = pc at *
  have k0 : W.cell? ⟨g0, 0, none⟩ = some (.int .i64 x0) := HB.out.cell 0
  have k1 : W.cell? ⟨g0, 1, none⟩ = some (.int .i64 x1) := HB.out.cell 1
  have k2 : W.cell? ⟨g0, 2, none⟩ = some (.int .i64 x2) := HB.out.cell 2
  have k3 : W.cell? ⟨g0, 3, none⟩ = some (.int .i64 x3) := HB.out.cell 3
  have k4 : W.cell? ⟨g0, 4, none⟩ = some (.int .i64 x4) := HB.out.cell 4
  have k5 : W.cell? ⟨g0, 5, none⟩ = some (.int .i64 x5) := HB.out.cell 5
  have k6 : W.cell? ⟨g0, 6, none⟩ = some (.slice pA dl pc) := HB.out.cell 6
  go_enter Tryd.func92, Tryd.ntmps92
  go_wp2_with fail
  clear hW hg0 k0 k1 k2 k3 k4 k5 k6 y4 d4
  refine CL2.out.mono ?_; rintro e w1 ⟨A', c', ps', D', Ao, mo, co, os, rfl, h2, h3, h4⟩
  have HL := Lib.hid h4
  have y5 : w1.cell? ⟨g, 5, none⟩ = some (.int .i64 sl.1.beg) := h4.fl.blk.cell 5
  have y7 : w1.cell? ⟨g, 7, none⟩ = some (.bool sl.1.late) := h4.fl.blk.cell 7
  have z7 : w1.frozen? ⟨g, 7, none⟩ = false := h4.fl.blk.frozen 7
  obtain ⟨b, hb⟩ : ∃ b, (sl.1.beg != 0) = b := ⟨_, rfl⟩
  have H2 := Lib.hid h2
  have H3 := Lib.hid h3
  have HB9 := Lib.hid hb
  clear h2 h3 h4 CL2
  go_wp2
  go_ret2
  exact ⟨A', c', ps', D', Ao, mo, co, os, rfl, H2.out, H3.out, by rw [HB9.out]; exact HL.out.late b⟩
def evD (k : Int) (d : List UInt8) : Ev := ⟨k, 0, 0, 0, 0, 0, d⟩
set_option maxRecDepth 100000 in
set_option maxHeartbeats 4000000 in
/-- Signal, where a task is there and all may be. -/
theorem signal_task {w : World} {g bm : Nat} {A : Option Addr} {n c : Nat} {ps : List VL} {D : DV} {s : FS} (h : FlM w g A n c ps (some bm) D s) (h0 : 0 < n) (ht : s.tat ≠ 0) (dA : Option Addr) (dn dc : Nat) (xs : List UInt8) (now : Int) (hr : Rd8 w dA xs) (hx : xs.length = dn) (hd : dn ≤ 4096) (hdA : ∀ ad, dA = some ad → 0 < dn → ad.block < w.heap.size ∧ ¬ AF g bm (.slice A n c) ad.block) (hnow : 0 ≤ now ∧ now ≤ 1099511627776) (hl : (s.L.getD (n - 1) default).a ≤ now) (hst : statL s.L = 1) (hn : n + 1 ≤ 4096) :
    Calls Tryd.prog 23 #[.pointer (some ⟨g, 0, none⟩), .slice dA dn dc, .int .i64 now] w (CallPost w g bm A n c ps (n + 1) { (s.lay now [evD 15 xs]).1 with late := (s.lay now [evD 15 xs]).1.beg != 0 } (s.lay now [evD 15 xs]).2 0) := by
  have hmf : ∀ (fn : Fn) (first cap : Array Value) (w : World), (Instr.makeFunc fn first cap).run Tryd.prog w = .ok (.func fn first cap) w := fun _ _ _ _ => rfl
  have CS : ∀ w', Fr (fun _ => False) w w' → Calls Tryd.prog 68 #[.pointer (some ⟨g, 0, none⟩), .agg (Hd.cells ⟨0, 0, 0, 0, dA, dn, dc, none, 0, 0, now⟩)] w' (CallPost w g bm A n c ps (n + 1) { (s.lay now [evD 15 xs]).1 with late := (s.lay now [evD 15 xs]).1.beg != 0 } (s.lay now [evD 15 xs]).2 0) := fun w' hf => by
    obtain ⟨g2, hg2⟩ : ∃ g2, w'.heap.size = g2 := ⟨_, rfl⟩
    obtain ⟨W, hW⟩ : ∃ W, w'.alloc (.cells #[.int .i64 0, .int .i64 0, .int .i64 0, .int .i64 0, .slice dA dn dc, .slice none 0 0, .int .i64 now] 67) = W := ⟨_, rfl⟩
    have HB : Bk W g2 67 #[.int .i64 0, .int .i64 0, .int .i64 0, .int .i64 0, .slice dA dn dc, .slice none 0 0, .int .i64 now] := by rw [← hW, ← hg2]; exact Bk.new _ _ _
    have hf2 : Fr (fun _ => False) w W := by rw [← hW]; exact hf.alloc _
    have q4 : W.cell? ⟨g2, 4, none⟩ = some (.slice dA dn dc) := HB.cell 4
    have q6 : W.cell? ⟨g2, 6, none⟩ = some (.int .i64 now) := HB.cell 6
    have CC := Lib.hid (come_task (h.fr hf2 (fun _ _ h => h)) ht now hnow ⟨evD 15 xs, dA, dc⟩ (G := fun k => ¬ AF g bm (.slice A n c) k) ⟨hr.fr hf2 (fun _ _ _ h => h), ⟨i64c 15 (by decide) (by decide), i64z, i64z, i64z, i64z, i64z, by simp only [evD]; omega⟩, fun ad e h9 => (hdA ad e (by simp only [evD] at h9; omega)).2⟩ (fun k hk => hk) hn ⟨⟨by simp [evD], by simp [evD]⟩, fun h => by simp [evD] at h, fun h => absurd rfl h, trivial⟩ rfl)
    have hv : VL.val ⟨evD 15 xs, dA, dc⟩ = .agg #[.int .i64 15, .int .i64 0, .int .i64 0, .int .i64 0, .int .i64 0, .int .i64 0, .slice dA dn dc] := by simp [VL.val, VL.cells, VL.bv, evD, hx]
    rw [hv] at CC
    have HF2 := Lib.hid hf2
    clear h h0 ht hr hx hd hdA hnow hl hst hn HB hf2 hf hv
    unfold Hd.cells
    simp only
    go_enter Tryd.func68, Tryd.ntmps68
    go_wp2_with fail
    refine CC.out.mono ?_; rintro e w9 hp
    obtain ⟨v, u, rfl⟩ := hp.two
    clear q4 q6
    go_wp2
    go_ret2
    exact hp.back HF2.out
  have C := Lib.hid (do_ok h h0 68 ⟨0, 0, 0, 0, dA, dn, dc, none, 0, 0, now⟩ (by unfold Hd.fits; simp only [Bool.and_eq_true, decide_eq_true_eq]; omega) hl hst (fun _ _ => by kernel_rfl) (fun w' hf => (CS w' hf).mono (fun e w9 hp => ⟨hp.two, hp⟩)))
  unfold Hd.cells at C
  simp only at C
  clear h h0 ht hr hx hd hdA hnow hl hst hn CS
  go_enter Tryd.func23, Tryd.ntmps23
  go_wp2_with fail
  refine C.out.mono ?_; rintro e w9 hp
  obtain ⟨v, u, rfl⟩ := hp.two
  go_wp2
  go_ret2
  exact hp
set_option maxRecDepth 100000 in
set_option maxHeartbeats 4000000 in
/-- Cancel, where a task is there, it was not asked, and all may be. -/
theorem cancel_task {w : World} {g bm : Nat} {A : Option Addr} {n c : Nat} {ps : List VL} {D : DV} {s : FS} (h : FlM w g A n c ps (some bm) D s) (h0 : 0 < n) (ht : s.tat ≠ 0) (ha : s.asked = false) (now : Int) (hnow : 0 ≤ now ∧ now ≤ 1099511627776) (hl : (s.L.getD (n - 1) default).a ≤ now) (hst : statL s.L = 1) (hn : n + 1 ≤ 4096) :
    Calls Tryd.prog 37 #[.pointer (some ⟨g, 0, none⟩), .int .i64 now] w (CallPost w g bm A n c ps (n + 1) { (s.lay now [evD 16 []]).1 with late := (s.lay now [evD 16 []]).1.beg != 0 } (s.lay now [evD 16 []]).2 0) := by
  have hmf : ∀ (fn : Fn) (first cap : Array Value) (w : World), (Instr.makeFunc fn first cap).run Tryd.prog w = .ok (.func fn first cap) w := fun _ _ _ _ => rfl
  have CS : ∀ w', Fr (fun _ => False) w w' → Calls Tryd.prog 77 #[.pointer (some ⟨g, 0, none⟩), .agg (Hd.cells ⟨0, 0, 0, 0, none, 0, 0, none, 0, 0, now⟩)] w' (CallPost w g bm A n c ps (n + 1) { (s.lay now [evD 16 []]).1 with late := (s.lay now [evD 16 []]).1.beg != 0 } (s.lay now [evD 16 []]).2 0) := fun w' hf => by
    obtain ⟨g2, hg2⟩ : ∃ g2, w'.heap.size = g2 := ⟨_, rfl⟩
    obtain ⟨W, hW⟩ : ∃ W, w'.alloc (.cells #[.int .i64 0, .int .i64 0, .int .i64 0, .int .i64 0, .slice none 0 0, .slice none 0 0, .int .i64 now] 67) = W := ⟨_, rfl⟩
    have HB : Bk W g2 67 #[.int .i64 0, .int .i64 0, .int .i64 0, .int .i64 0, .slice none 0 0, .slice none 0 0, .int .i64 now] := by rw [← hW, ← hg2]; exact Bk.new _ _ _
    have hf2 : Fr (fun _ => False) w W := by rw [← hW]; exact hf.alloc _
    have q6 : W.cell? ⟨g2, 6, none⟩ = some (.int .i64 now) := HB.cell 6
    have q8 : W.cell? ⟨g, 8, none⟩ = some (.bool false) := by
      have := (h.blk.fr hf2 (fun h => h)).cell 8
      simp only [FS.cells, List.getElem?_toArray, List.getElem?_cons_zero, List.getElem?_cons_succ, ha] at this
      exact this
    have CC := Lib.hid (come_task (h.fr hf2 (fun _ _ h => h)) ht now hnow ⟨evD 16 [], none, 0⟩ (G := fun _ => False) ⟨Rd8.nil _ _, ⟨i64c 16 (by decide) (by decide), i64z, i64z, i64z, i64z, i64z, by simp [evD]⟩, fun ad e => by cases e⟩ (fun k hk => hk.elim) hn ⟨⟨by simp [evD], by simp [evD]⟩, fun h => by simp [evD] at h, fun h => absurd rfl h, trivial⟩ rfl)
    have hv : VL.val ⟨evD 16 [], none, 0⟩ = .agg #[.int .i64 16, .int .i64 0, .int .i64 0, .int .i64 0, .int .i64 0, .int .i64 0, .slice none 0 0] := by simp [VL.val, VL.cells, VL.bv, evD]
    rw [hv] at CC
    have HF2 := Lib.hid hf2
    clear h h0 ht ha hnow hl hst hn HB hf2 hf hv
    unfold Hd.cells
    simp only
    go_enter Tryd.func77, Tryd.ntmps77
    go_wp2_with fail
    refine CC.out.mono ?_; rintro e w9 hp
    obtain ⟨v, u, rfl⟩ := hp.two
    clear q6 q8
    go_wp2
    go_ret2
    exact hp.back HF2.out
  have C := Lib.hid (do_ok h h0 77 ⟨0, 0, 0, 0, none, 0, 0, none, 0, 0, now⟩ (by unfold Hd.fits; simp only [Bool.and_eq_true, decide_eq_true_eq]; omega) hl hst (fun _ _ => by kernel_rfl) (fun w' hf => (CS w' hf).mono (fun e w9 hp => ⟨hp.two, hp⟩)))
  unfold Hd.cells at C
  simp only at C
  clear h h0 ht ha hnow hl hst hn CS
  go_enter Tryd.func37, Tryd.ntmps37
  go_wp2_with fail
  refine C.out.mono ?_; rintro e w9 hp
  obtain ⟨v, u, rfl⟩ := hp.two
  go_wp2
  go_ret2
  exact hp
end Go.Proofs.YtkinbcmnfpkncaaDoor
