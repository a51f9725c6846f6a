/- flow: out. -/
import Derived.Test.YtkinbcmnfpkncaaDoorXb
namespace Go.Proofs.YtkinbcmnfpkncaaDoor
open Go.RowKit Go.Maps

/-- One of what comes out, and where its bytes lie. -/
structure OL where
  o : Ou
  A : Option Addr
  c : Nat
instance : Inhabited OL := ⟨⟨default, none, 0⟩⟩
def OL.bv (x : OL) : Value := .slice x.A x.o.d.length x.c
def OL.cells (x : OL) : List Value := [.int .i64 x.o.k, .int .i64 x.o.l, .int .i64 x.o.r, .int .i64 x.o.t, .int .i64 x.o.a, .int .i64 x.o.i, .int .i64 x.o.n, x.bv]
def OL.val (x : OL) : Value := .agg x.cells.toArray
def set8 (w : World) (b : Nat) (a0 a1 a2 a3 a4 a5 a6 a7 : Value) : World := (((((((w.setCell ⟨b, 0, none⟩ a0).setCell ⟨b, 1, none⟩ a1).setCell ⟨b, 2, none⟩ a2).setCell ⟨b, 3, none⟩ a3).setCell ⟨b, 4, none⟩ a4).setCell ⟨b, 5, none⟩ a5).setCell ⟨b, 6, none⟩ a6).setCell ⟨b, 7, none⟩ a7
theorem Bk.set8 {w : World} {b : Nat} {t : TypeId} {x0 x1 x2 x3 x4 x5 x6 x7 : Value} (h : Bk w b t #[x0, x1, x2, x3, x4, x5, x6, x7]) (a0 a1 a2 a3 a4 a5 a6 a7 : Value) : Bk (set8 w b a0 a1 a2 a3 a4 a5 a6 a7) b t #[a0, a1, a2, a3, a4, a5, a6, a7] := by
  unfold Go.Proofs.YtkinbcmnfpkncaaDoor.set8
  simpa using (((((((h.set 0 a0).set 1 a1).set 2 a2).set 3 a3).set 4 a4).set 5 a5).set 6 a6).set 7 a7
theorem Fr.set8 {S : Nat → Prop} {a w : World} (h : Fr S a w) {b : Nat} (hb : b < a.heap.size → S b) (a0 a1 a2 a3 a4 a5 a6 a7 : Value) : Fr S a (set8 w b a0 a1 a2 a3 a4 a5 a6 a7) :=
  (((((((h.setCell (p := ⟨b, 0, none⟩) hb _).setCell (p := ⟨b, 1, none⟩) hb _).setCell (p := ⟨b, 2, none⟩) hb _).setCell (p := ⟨b, 3, none⟩) hb _).setCell (p := ⟨b, 4, none⟩) hb _).setCell (p := ⟨b, 5, none⟩) hb _).setCell (p := ⟨b, 6, none⟩) hb _).setCell (p := ⟨b, 7, none⟩) hb _
theorem run_loadOu (w : World) (b : Nat) (a0 a1 a2 a3 a4 a5 a6 a7 : Value) (h : Bk w b 50 #[a0, a1, a2, a3, a4, a5, a6, a7]) : (Instr.loadAt 50 (.pointer (some ⟨b, 0, none⟩))).run Tryd.prog w = .ok (.agg #[a0, a1, a2, a3, a4, a5, a6, a7]) w := by
  have h0 : w.cell? ⟨b, 0, none⟩ = some a0 := h.cell 0
  have h1 : w.cell? ⟨b, 1, none⟩ = some a1 := h.cell 1
  have h2 : w.cell? ⟨b, 2, none⟩ = some a2 := h.cell 2
  have h3 : w.cell? ⟨b, 3, none⟩ = some a3 := h.cell 3
  have h4 : w.cell? ⟨b, 4, none⟩ = some a4 := h.cell 4
  have h5 : w.cell? ⟨b, 5, none⟩ = some a5 := h.cell 5
  have h6 : w.cell? ⟨b, 6, none⟩ = some a6 := h.cell 6
  have h7 : w.cell? ⟨b, 7, none⟩ = some a7 := h.cell 7
  go_simp
theorem resOu {fn : Func} {p : Tmp} (h : fn.results = #[.cell p 50]) (tmps : Array Value) (w : World) (b : Nat) (a0 a1 a2 a3 a4 a5 a6 a7 : Value) (hp : tmps.getD p undef = .pointer (some ⟨b, 0, none⟩)) (hb : Bk w b 50 #[a0, a1, a2, a3, a4, a5, a6, a7]) :
    (results fn tmps).run Tryd.prog w = .ok (.agg #[a0, a1, a2, a3, a4, a5, a6, a7]) w := by
  have h2 : (loadVar 50 ⟨b, 0, none⟩).run Tryd.prog w = .ok (.agg #[a0, a1, a2, a3, a4, a5, a6, a7]) w := by
    have := run_loadOu w b a0 a1 a2 a3 a4 a5 a6 a7 hb
    simpa only [Instr.loadAt, Instr.sureAddr, Sem.run_bind, Sem.run_pure, Result.andThen_ok] using this
  have hp2 : tmps[p]?.getD undef = .pointer (some ⟨b, 0, none⟩) := by simpa using hp
  simp [results, h, asAddr, hp2, h2]
theorem vs_one {w : World} {g : Nat} {p : VL} {F : Nat → Prop} (h : Bk w g 75 p.cells.toArray) (hp : RdV w F p) : Vs w (some ⟨g, 0, none⟩) 1 [p] (fun _ => True) :=
  ⟨rfl, fun _ => ⟨g, 0, rfl, trivial, fun j u hu => by
    have hu' : p.cells[j]? = some u := by simpa [vlc] using hu
    rw [Nat.zero_add, h.cell]; simpa using hu'⟩, fun q hq => by
    simp at hq; subst hq; exact ⟨hp.rd, hp.ok, fun _ _ _ => trivial⟩⟩

/-- What out tells: its bytes are new. -/
def OutR (w w' : World) (o : Ou) (e : Ending) : Prop := ∃ x : OL, e = .returned x.val ∧ x.o = o ∧ Own8 w' 5 x.bv o.d ∧ (∀ k, x.bv.ownBlock = some k → w.heap.size ≤ k) ∧ Fr (fun _ => False) w w'
theorem OutR.nil {w w' : World} {k l r t a i n : Int} (hf : Fr (fun _ => False) w w') : OutR w w' ⟨k, l, r, t, a, i, n, []⟩ (.returned (.agg #[.int .i64 k, .int .i64 l, .int .i64 r, .int .i64 t, .int .i64 a, .int .i64 i, .int .i64 n, .slice none 0 0])) :=
  ⟨⟨⟨k, l, r, t, a, i, n, []⟩, none, 0⟩, rfl, rfl, Own8.nil _ _, fun k hk => by simp [OL.bv, Value.ownBlock] at hk, hf⟩
theorem OutR.cl {w w' : World} {k l r t a i n : Int} {d : List UInt8} {A : Option Addr} {dl c : Nat} (hd : d.length = dl) (ho : Own8 w' 5 (.slice A dl c) d) (hn : ∀ k, (Value.slice A dl c).ownBlock = some k → w.heap.size ≤ k) (hf : Fr (fun _ => False) w w') : OutR w w' ⟨k, l, r, t, a, i, n, d⟩ (.returned (.agg #[.int .i64 k, .int .i64 l, .int .i64 r, .int .i64 t, .int .i64 a, .int .i64 i, .int .i64 n, .slice A dl c])) := by
  subst hd
  exact ⟨⟨⟨k, l, r, t, a, i, n, d⟩, A, c⟩, rfl, rfl, ho, hn, hf⟩

set_option maxRecDepth 100000 in
set_option maxHeartbeats 16000000 in
theorem outF_any {w : World} {g : Nat} {A : Option Addr} {n c : Nat} {ps : List VL} {mo : Option Nat} {D : DV} {s : FS} (h : FlM w g A n c ps mo D s) (h0 : 0 < n) (p : VL) {G : Nat → Prop} (hp : RdV w G p) (hb : evB p.e) (hr : p.e.k = 8 → 1 ≤ p.e.r ∧ p.e.r ≤ n) :
    Calls Tryd.prog 75 #[.pointer (some ⟨g, 0, none⟩), p.val] w fun e w' => OutR w w' (s.out p.e) e := by
  obtain ⟨g0, hg0⟩ : ∃ g0, w.heap.size = g0 := ⟨_, rfl⟩
  obtain ⟨W, hW⟩ : ∃ W, (w.alloc (.cells p.cells.toArray 75)).alloc (.cells #[.int .i64 0, .int .i64 0, .int .i64 0, .int .i64 0, .int .i64 0, .int .i64 0, .int .i64 0, .slice none 0 0] 50) = W := ⟨_, rfl⟩
  have HFW : Hid (Fr (fun _ => False) w W) := Lib.hid (by rw [← hW]; exact ((Fr.refl _ _).alloc _).alloc _)
  have KW : Hid (Bk W g0 75 p.cells.toArray) := Lib.hid (by rw [← hW, ← hg0]; exact (Bk.new _ _ _).alloc _)
  have KO : Hid (Bk W (g0 + 1) 50 #[.int .i64 0, .int .i64 0, .int .i64 0, .int .i64 0, .int .i64 0, .int .i64 0, .int .i64 0, .slice none 0 0]) := Lib.hid (by
    rw [← hW, ← hg0]
    have := Bk.new (w.alloc (.cells p.cells.toArray 75)) 50 #[.int .i64 0, .int .i64 0, .int .i64 0, .int .i64 0, .int .i64 0, .int .i64 0, .int .i64 0, .slice none 0 0]
    rw [show (w.alloc (.cells p.cells.toArray 75)).heap.size = w.heap.size + 1 by simp] at this
    exact this)
  have HG0 := Lib.hid hg0
  have HBW := Lib.hid (h.blk.fr HFW.out (fun h => h))
  have HGG : Hid (g < g0) := Lib.hid (by have := h.blk.lt; omega)
  have HLL : Hid (s.L.length = n) := Lib.hid h.lenL
  have HPR := Lib.hid (hp.fr HFW.out (fun _ _ h => h))
  have HAT : Hid (∀ j, j < n → ∃ b off, A = some ⟨b, off, none⟩ ∧ (∀ w', Fr (fun x => x = g0 + 1) W w' → w'.cell? ⟨b, off + j * 7 + 5, none⟩ = some (.int .i64 (s.L.getD j default).n)) ∧ 0 ≤ (s.L.getD j default).n ∧ (s.L.getD j default).n ≤ 1099511627776) := Lib.hid (fun j hj => by
    obtain ⟨b, off, hA, -, hcs, -⟩ := h.es.at hj
    have he : s.L.getD j default = (ps.getD j default).e := by rw [← h.evs, getD_map VL.e (by rw [h.len]; exact hj)]
    have hmem : s.L.getD j default ∈ s.L := getD_mem (by rw [h.lenL]; exact hj)
    have hev := h.evb _ hmem
    refine ⟨b, off, hA, fun w' hf => ?_, hev.2.2.1, hev.2.2.2⟩
    rw [he]
    have hbl := World.block_lt_of_cell? w _ (hcs 5 _ rfl)
    exact ((hf.cell (Nat.lt_of_lt_of_le hbl HFW.out.size) (fun e => by have e' : b = g0 + 1 := e; have hb2 : b < w.heap.size := hbl; omega)).trans (HFW.out.cell hbl (fun h => h))).trans (hcs 5 _ rfl))
  have HEB := Lib.hid hb
  have HR := Lib.hid hr
  have hv : p.val = .agg #[.int .i64 p.e.k, .int .i64 p.e.a, .int .i64 p.e.r, .int .i64 p.e.i, .int .i64 p.e.l, .int .i64 p.e.n, .slice p.A p.e.d.length p.c] := rfl
  have HV1 : Hid (∀ w' gx, Fr (fun _ => False) W w' → Bk w' gx 75 p.cells.toArray → Vs w' (some ⟨gx, 0, none⟩) 1 [p] (fun _ => True)) := Lib.hid (fun w' gx hf hb => vs_one hb (HPR.out.fr hf (fun _ _ h => h)))
  rw [hv]
  rw [show p.cells.toArray = #[.int .i64 p.e.k, .int .i64 p.e.a, .int .i64 p.e.r, .int .i64 p.e.i, .int .i64 p.e.l, .int .i64 p.e.n, .slice p.A p.e.d.length p.c] from rfl] at hW KW HV1
  have hnI : (n : Int) ≤ 1048576 := by have := h.big; omega
  have hn0 : (0 : Int) < (n : Int) := by omega
  have HN0 := Lib.hid h0
  have HCL := Lib.hid (fun w' (hf : Fr (fun _ => False) W w') => clone_any p.A p.e.d.length p.c p.e.d w' ((hp.rd.fr HFW.out (fun _ _ _ h => h)).fr hf (fun _ _ _ h => h)) rfl hp.ok.d)
  have HST : Hid (∀ w' gx, Fr (fun _ => False) W w' → Bk w' gx 75 #[.int .i64 p.e.k, .int .i64 p.e.a, .int .i64 p.e.r, .int .i64 p.e.i, .int .i64 p.e.l, .int .i64 p.e.n, .slice p.A p.e.d.length p.c] → Calls Tryd.prog 47 #[.slice (some ⟨gx, 0, none⟩) 1 1] w' fun e w9 => e = .returned (.int .i64 (statB p.e.k)) ∧ w' = w9) := Lib.hid (fun w' gx hf hb => statusE_any (some ⟨gx, 0, none⟩) 1 1 [p] _ w' (HV1.out w' gx hf hb) (by omega) (by omega))
  clear hv h hp hb hr h0 HV1 HPR
  obtain ⟨pe, hpe⟩ : ∃ pe, p.e = pe := ⟨_, rfl⟩
  rw [hpe] at HEB HR hW KW HCL HST ⊢
  clear hpe
  obtain ⟨k, a, r, i, l, m, d⟩ := pe
  simp only at hW KW HCL HST HR ⊢
  obtain ⟨dl, hdl⟩ : ∃ dl, d.length = dl := ⟨_, rfl⟩
  have HDL := Lib.hid hdl
  rw [hdl] at hW KW HCL HST ⊢
  clear hdl
  generalize p.A = pA at *
  generalize p.c = pc at *
  have kk : W.cell? ⟨g0, 0, none⟩ = some (.int .i64 k) := KW.out.cell 0
  have y2 : W.cell? ⟨g, 2, none⟩ = some (.slice A n c) := HBW.out.cell 2
  have hs1 : w.heap.size + 1 = g0 + 1 := by omega
  by_cases hk2 : k = 2
  · subst hk2
    have hou : s.out ⟨2, a, r, i, l, m, d⟩ = ⟨1, l, n, m, 0, 0, 0, []⟩ := by unfold FS.out; simp [HLL.out]
    have HOU := Lib.hid hou
    clear hou
    have z0 : W.cell? ⟨g0 + 1, 0, none⟩ = some (.int .i64 0) := KO.out.cell 0
    have f0 : W.frozen? ⟨g0 + 1, 0, none⟩ = false := KO.out.frozen 0
    have z1 : W.cell? ⟨g0 + 1, 1, none⟩ = some (.int .i64 0) := KO.out.cell 1
    have f1 : W.frozen? ⟨g0 + 1, 1, none⟩ = false := KO.out.frozen 1
    have z2 : W.cell? ⟨g0 + 1, 2, none⟩ = some (.int .i64 0) := KO.out.cell 2
    have f2 : W.frozen? ⟨g0 + 1, 2, none⟩ = false := KO.out.frozen 2
    have z3 : W.cell? ⟨g0 + 1, 3, none⟩ = some (.int .i64 0) := KO.out.cell 3
    have f3 : W.frozen? ⟨g0 + 1, 3, none⟩ = false := KO.out.frozen 3
    have z4 : W.cell? ⟨g0 + 1, 4, none⟩ = some (.int .i64 0) := KO.out.cell 4
    have f4 : W.frozen? ⟨g0 + 1, 4, none⟩ = false := KO.out.frozen 4
    have z5 : W.cell? ⟨g0 + 1, 5, none⟩ = some (.int .i64 0) := KO.out.cell 5
    have f5 : W.frozen? ⟨g0 + 1, 5, none⟩ = false := KO.out.frozen 5
    have z6 : W.cell? ⟨g0 + 1, 6, none⟩ = some (.int .i64 0) := KO.out.cell 6
    have f6 : W.frozen? ⟨g0 + 1, 6, none⟩ = false := KO.out.frozen 6
    have z7 : W.cell? ⟨g0 + 1, 7, none⟩ = some (.slice none 0 0) := KO.out.cell 7
    have f7 : W.frozen? ⟨g0 + 1, 7, none⟩ = false := KO.out.frozen 7
    have e1 : W.cell? ⟨g0, 1, none⟩ = some (.int .i64 a) := KW.out.cell 1
    have e2 : W.cell? ⟨g0, 2, none⟩ = some (.int .i64 r) := KW.out.cell 2
    have e3 : W.cell? ⟨g0, 3, none⟩ = some (.int .i64 i) := KW.out.cell 3
    have e4 : W.cell? ⟨g0, 4, none⟩ = some (.int .i64 l) := KW.out.cell 4
    have e5 : W.cell? ⟨g0, 5, none⟩ = some (.int .i64 m) := KW.out.cell 5
    have e6 : W.cell? ⟨g0, 6, none⟩ = some (.slice pA dl pc) := KW.out.cell 6
    have GG : Hid (Bk (set8 W (g0 + 1) (.int .i64 1) (.int .i64 l) (.int .i64 n) (.int .i64 m) (.int .i64 0) (.int .i64 0) (.int .i64 0) (.slice none 0 0)) (g0 + 1) 50 #[.int .i64 1, .int .i64 l, .int .i64 n, .int .i64 m, .int .i64 0, .int .i64 0, .int .i64 0, .slice none 0 0] ∧ Fr (fun k => k = g0 + 1) W (set8 W (g0 + 1) (.int .i64 1) (.int .i64 l) (.int .i64 n) (.int .i64 m) (.int .i64 0) (.int .i64 0) (.int .i64 0) (.slice none 0 0))) := Lib.hid ⟨KO.out.set8 .., Fr.set8 (S := fun k => k = g0 + 1) (Fr.refl _ _) (fun _ => rfl) ..⟩
    go_enter Tryd.func75, Tryd.ntmps75
    go_wp2
    change bodyPost _ _ _ _ _ (set8 W (g0 + 1) (.int .i64 1) (.int .i64 l) (.int .i64 n) (.int .i64 m) (.int .i64 0) (.int .i64 0) (.int .i64 0) (.slice none 0 0))
    generalize set8 W (g0 + 1) (.int .i64 1) (.int .i64 l) (.int .i64 n) (.int .i64 m) (.int .i64 0) (.int .i64 0) (.int .i64 0) (.slice none 0 0) = W5 at *
    refine bodyPost_ret (resOu (p := 4) rfl _ _ (g0 + 1) _ _ _ _ _ _ _ _ rfl GG.out.1) rfl ?_
    rw [HOU.out]
    exact OutR.nil (HFW.out.trans GG.out.2 (fun x hx e => by have e' : x = g0 + 1 := e; have := HG0.out; omega))
  by_cases hk7 : k = 7
  · subst hk7
    have hou : s.out ⟨7, a, r, i, l, m, d⟩ = ⟨2, l, n, 0, 0, 0, 0, []⟩ := by unfold FS.out; simp [HLL.out]
    have HOU := Lib.hid hou
    clear hou
    have z0 : W.cell? ⟨g0 + 1, 0, none⟩ = some (.int .i64 0) := KO.out.cell 0
    have f0 : W.frozen? ⟨g0 + 1, 0, none⟩ = false := KO.out.frozen 0
    have z1 : W.cell? ⟨g0 + 1, 1, none⟩ = some (.int .i64 0) := KO.out.cell 1
    have f1 : W.frozen? ⟨g0 + 1, 1, none⟩ = false := KO.out.frozen 1
    have z2 : W.cell? ⟨g0 + 1, 2, none⟩ = some (.int .i64 0) := KO.out.cell 2
    have f2 : W.frozen? ⟨g0 + 1, 2, none⟩ = false := KO.out.frozen 2
    have z3 : W.cell? ⟨g0 + 1, 3, none⟩ = some (.int .i64 0) := KO.out.cell 3
    have f3 : W.frozen? ⟨g0 + 1, 3, none⟩ = false := KO.out.frozen 3
    have z4 : W.cell? ⟨g0 + 1, 4, none⟩ = some (.int .i64 0) := KO.out.cell 4
    have f4 : W.frozen? ⟨g0 + 1, 4, none⟩ = false := KO.out.frozen 4
    have z5 : W.cell? ⟨g0 + 1, 5, none⟩ = some (.int .i64 0) := KO.out.cell 5
    have f5 : W.frozen? ⟨g0 + 1, 5, none⟩ = false := KO.out.frozen 5
    have z6 : W.cell? ⟨g0 + 1, 6, none⟩ = some (.int .i64 0) := KO.out.cell 6
    have f6 : W.frozen? ⟨g0 + 1, 6, none⟩ = false := KO.out.frozen 6
    have z7 : W.cell? ⟨g0 + 1, 7, none⟩ = some (.slice none 0 0) := KO.out.cell 7
    have f7 : W.frozen? ⟨g0 + 1, 7, none⟩ = false := KO.out.frozen 7
    have e1 : W.cell? ⟨g0, 1, none⟩ = some (.int .i64 a) := KW.out.cell 1
    have e2 : W.cell? ⟨g0, 2, none⟩ = some (.int .i64 r) := KW.out.cell 2
    have e3 : W.cell? ⟨g0, 3, none⟩ = some (.int .i64 i) := KW.out.cell 3
    have e4 : W.cell? ⟨g0, 4, none⟩ = some (.int .i64 l) := KW.out.cell 4
    have e5 : W.cell? ⟨g0, 5, none⟩ = some (.int .i64 m) := KW.out.cell 5
    have e6 : W.cell? ⟨g0, 6, none⟩ = some (.slice pA dl pc) := KW.out.cell 6
    have GG : Hid (Bk (set8 W (g0 + 1) (.int .i64 2) (.int .i64 l) (.int .i64 n) (.int .i64 0) (.int .i64 0) (.int .i64 0) (.int .i64 0) (.slice none 0 0)) (g0 + 1) 50 #[.int .i64 2, .int .i64 l, .int .i64 n, .int .i64 0, .int .i64 0, .int .i64 0, .int .i64 0, .slice none 0 0] ∧ Fr (fun k => k = g0 + 1) W (set8 W (g0 + 1) (.int .i64 2) (.int .i64 l) (.int .i64 n) (.int .i64 0) (.int .i64 0) (.int .i64 0) (.int .i64 0) (.slice none 0 0))) := Lib.hid ⟨KO.out.set8 .., Fr.set8 (S := fun k => k = g0 + 1) (Fr.refl _ _) (fun _ => rfl) ..⟩
    go_enter Tryd.func75, Tryd.ntmps75
    go_wp2
    change bodyPost _ _ _ _ _ (set8 W (g0 + 1) (.int .i64 2) (.int .i64 l) (.int .i64 n) (.int .i64 0) (.int .i64 0) (.int .i64 0) (.int .i64 0) (.slice none 0 0))
    generalize set8 W (g0 + 1) (.int .i64 2) (.int .i64 l) (.int .i64 n) (.int .i64 0) (.int .i64 0) (.int .i64 0) (.int .i64 0) (.slice none 0 0) = W5 at *
    refine bodyPost_ret (resOu (p := 4) rfl _ _ (g0 + 1) _ _ _ _ _ _ _ _ rfl GG.out.1) rfl ?_
    rw [HOU.out]
    exact OutR.nil (HFW.out.trans GG.out.2 (fun x hx e => by have e' : x = g0 + 1 := e; have := HG0.out; omega))
  by_cases hk12 : k = 12
  · subst hk12
    have hou : s.out ⟨12, a, r, i, l, m, d⟩ = ⟨5, 0, n, 0, a + m, 0, 0, []⟩ := by unfold FS.out; simp [HLL.out]
    have HOU := Lib.hid hou
    clear hou
    have z0 : W.cell? ⟨g0 + 1, 0, none⟩ = some (.int .i64 0) := KO.out.cell 0
    have f0 : W.frozen? ⟨g0 + 1, 0, none⟩ = false := KO.out.frozen 0
    have z1 : W.cell? ⟨g0 + 1, 1, none⟩ = some (.int .i64 0) := KO.out.cell 1
    have f1 : W.frozen? ⟨g0 + 1, 1, none⟩ = false := KO.out.frozen 1
    have z2 : W.cell? ⟨g0 + 1, 2, none⟩ = some (.int .i64 0) := KO.out.cell 2
    have f2 : W.frozen? ⟨g0 + 1, 2, none⟩ = false := KO.out.frozen 2
    have z3 : W.cell? ⟨g0 + 1, 3, none⟩ = some (.int .i64 0) := KO.out.cell 3
    have f3 : W.frozen? ⟨g0 + 1, 3, none⟩ = false := KO.out.frozen 3
    have z4 : W.cell? ⟨g0 + 1, 4, none⟩ = some (.int .i64 0) := KO.out.cell 4
    have f4 : W.frozen? ⟨g0 + 1, 4, none⟩ = false := KO.out.frozen 4
    have z5 : W.cell? ⟨g0 + 1, 5, none⟩ = some (.int .i64 0) := KO.out.cell 5
    have f5 : W.frozen? ⟨g0 + 1, 5, none⟩ = false := KO.out.frozen 5
    have z6 : W.cell? ⟨g0 + 1, 6, none⟩ = some (.int .i64 0) := KO.out.cell 6
    have f6 : W.frozen? ⟨g0 + 1, 6, none⟩ = false := KO.out.frozen 6
    have z7 : W.cell? ⟨g0 + 1, 7, none⟩ = some (.slice none 0 0) := KO.out.cell 7
    have f7 : W.frozen? ⟨g0 + 1, 7, none⟩ = false := KO.out.frozen 7
    have e1 : W.cell? ⟨g0, 1, none⟩ = some (.int .i64 a) := KW.out.cell 1
    have e2 : W.cell? ⟨g0, 2, none⟩ = some (.int .i64 r) := KW.out.cell 2
    have e3 : W.cell? ⟨g0, 3, none⟩ = some (.int .i64 i) := KW.out.cell 3
    have e4 : W.cell? ⟨g0, 4, none⟩ = some (.int .i64 l) := KW.out.cell 4
    have e5 : W.cell? ⟨g0, 5, none⟩ = some (.int .i64 m) := KW.out.cell 5
    have e6 : W.cell? ⟨g0, 6, none⟩ = some (.slice pA dl pc) := KW.out.cell 6
    have GG : Hid (Bk (set8 W (g0 + 1) (.int .i64 5) (.int .i64 0) (.int .i64 n) (.int .i64 0) (.int .i64 (a + m)) (.int .i64 0) (.int .i64 0) (.slice none 0 0)) (g0 + 1) 50 #[.int .i64 5, .int .i64 0, .int .i64 n, .int .i64 0, .int .i64 (a + m), .int .i64 0, .int .i64 0, .slice none 0 0] ∧ Fr (fun k => k = g0 + 1) W (set8 W (g0 + 1) (.int .i64 5) (.int .i64 0) (.int .i64 n) (.int .i64 0) (.int .i64 (a + m)) (.int .i64 0) (.int .i64 0) (.slice none 0 0))) := Lib.hid ⟨KO.out.set8 .., Fr.set8 (S := fun k => k = g0 + 1) (Fr.refl _ _) (fun _ => rfl) ..⟩
    have wa : IntKind.i64.wrap (a + m) = a + m := IntWalk.i64_in _ (by have := HEB.out; unfold evB at this; simp only at this; omega)
    go_enter Tryd.func75, Tryd.ntmps75
    go_wp2
    change bodyPost _ _ _ _ _ (set8 W (g0 + 1) (.int .i64 5) (.int .i64 0) (.int .i64 n) (.int .i64 0) (.int .i64 (a + m)) (.int .i64 0) (.int .i64 0) (.slice none 0 0))
    generalize set8 W (g0 + 1) (.int .i64 5) (.int .i64 0) (.int .i64 n) (.int .i64 0) (.int .i64 (a + m)) (.int .i64 0) (.int .i64 0) (.slice none 0 0) = W5 at *
    refine bodyPost_ret (resOu (p := 4) rfl _ _ (g0 + 1) _ _ _ _ _ _ _ _ rfl GG.out.1) rfl ?_
    rw [HOU.out]
    exact OutR.nil (HFW.out.trans GG.out.2 (fun x hx e => by have e' : x = g0 + 1 := e; have := HG0.out; omega))
  by_cases hk3 : k = 3
  · subst hk3
    have hou : s.out ⟨3, a, r, i, l, m, d⟩ = ⟨3, 0, r, s.turn, a + (s.L.getD 0 default).n, 0, 0, []⟩ := by unfold FS.out; simp [HLL.out]
    have HOU := Lib.hid hou
    clear hou
    have z0 : W.cell? ⟨g0 + 1, 0, none⟩ = some (.int .i64 0) := KO.out.cell 0
    have f0 : W.frozen? ⟨g0 + 1, 0, none⟩ = false := KO.out.frozen 0
    have z1 : W.cell? ⟨g0 + 1, 1, none⟩ = some (.int .i64 0) := KO.out.cell 1
    have f1 : W.frozen? ⟨g0 + 1, 1, none⟩ = false := KO.out.frozen 1
    have z2 : W.cell? ⟨g0 + 1, 2, none⟩ = some (.int .i64 0) := KO.out.cell 2
    have f2 : W.frozen? ⟨g0 + 1, 2, none⟩ = false := KO.out.frozen 2
    have z3 : W.cell? ⟨g0 + 1, 3, none⟩ = some (.int .i64 0) := KO.out.cell 3
    have f3 : W.frozen? ⟨g0 + 1, 3, none⟩ = false := KO.out.frozen 3
    have z4 : W.cell? ⟨g0 + 1, 4, none⟩ = some (.int .i64 0) := KO.out.cell 4
    have f4 : W.frozen? ⟨g0 + 1, 4, none⟩ = false := KO.out.frozen 4
    have z5 : W.cell? ⟨g0 + 1, 5, none⟩ = some (.int .i64 0) := KO.out.cell 5
    have f5 : W.frozen? ⟨g0 + 1, 5, none⟩ = false := KO.out.frozen 5
    have z6 : W.cell? ⟨g0 + 1, 6, none⟩ = some (.int .i64 0) := KO.out.cell 6
    have f6 : W.frozen? ⟨g0 + 1, 6, none⟩ = false := KO.out.frozen 6
    have z7 : W.cell? ⟨g0 + 1, 7, none⟩ = some (.slice none 0 0) := KO.out.cell 7
    have f7 : W.frozen? ⟨g0 + 1, 7, none⟩ = false := KO.out.frozen 7
    have e1 : W.cell? ⟨g0, 1, none⟩ = some (.int .i64 a) := KW.out.cell 1
    have e2 : W.cell? ⟨g0, 2, none⟩ = some (.int .i64 r) := KW.out.cell 2
    have e3 : W.cell? ⟨g0, 3, none⟩ = some (.int .i64 i) := KW.out.cell 3
    have e4 : W.cell? ⟨g0, 4, none⟩ = some (.int .i64 l) := KW.out.cell 4
    have e5 : W.cell? ⟨g0, 5, none⟩ = some (.int .i64 m) := KW.out.cell 5
    have e6 : W.cell? ⟨g0, 6, none⟩ = some (.slice pA dl pc) := KW.out.cell 6
    obtain ⟨b, off, rfl, hq, hx0, hx1⟩ := HAT.out 0 HN0.out
    have hn0' : 0 < n := HN0.out
    have HQ := Lib.hid hq
    rw [show off + 0 * 7 + 5 = off + 5 by omega] at HQ
    clear hq
    generalize (s.L.getD 0 default).n = x at *
    have wa : IntKind.i64.wrap (a + x) = a + x := IntWalk.i64_in _ (by have := HEB.out; unfold evB at this; simp only at this; omega)
    go_enter Tryd.func75, Tryd.ntmps75
    go_wp2_with fail
    clear hW hg0 kk y2 hs1 e1 e2 e3 e4 e5 e6
    refine wp_region_held_drew (S := (fun w' => Fr (fun x => x = g0 + 1) W w')) (by kernel_rfl) ((Fr.refl _ _).drew) (fun hHeld => ?_)
    refine wpAnyH_takeD (i := 0) (v := ?_) (some 23) rfl rfl (by kernel_rfl) (by kernel_rfl) (by kernel_rfl) (fun _ _ _ h => h) (Or.inl ⟨by rfl, ?_⟩) (by assumption) ?_
    rotate_left
    · intro w' hSw
      go_simp
      first | done | with_reducible rfl
    try simp only [Act.put, List.setIfInBounds_toArray, List.set_cons_zero, List.set_cons_succ]
    refine wpAnyH_takeD (i := 1) (v := ?_) (some 24) rfl rfl (by kernel_rfl) (by kernel_rfl) (by kernel_rfl) (fun _ _ _ h => h) (Or.inl ⟨by rfl, ?_⟩) (by assumption) ?_
    rotate_left
    · intro w' hSw
      have ke := KW.out.fr hSw (fun e => by have e' : g0 = g0 + 1 := e; omega); have k1 := ke.cell 1; have k2 := ke.cell 2; have y := HBW.out.fr hSw (fun e => by have e' : g = g0 + 1 := e; have := HGG.out; omega); have y2 := y.cell 2; have y6 := y.cell 6; simp only [FS.cells, List.getElem?_toArray, List.getElem?_cons_zero, List.getElem?_cons_succ] at k1 k2 y2 y6; have hq := HQ.out w' hSw
      go_simp
      first | done | with_reducible rfl
    try simp only [Act.put, List.setIfInBounds_toArray, List.set_cons_zero, List.set_cons_succ]
    refine wpAnyH_takeD (i := 2) (v := ?_) (some 25) rfl rfl (by kernel_rfl) (by kernel_rfl) (by kernel_rfl) (fun _ _ _ h => h) (Or.inl ⟨by rfl, ?_⟩) (by assumption) ?_
    rotate_left
    · intro w' hSw
      go_simp
      first | done | with_reducible rfl
    try simp only [Act.put, List.setIfInBounds_toArray, List.set_cons_zero, List.set_cons_succ]
    refine wpAnyH_takeD (i := 3) (v := ?_) (some 26) rfl rfl (by kernel_rfl) (by kernel_rfl) (by kernel_rfl) (fun _ _ _ h => h) (Or.inl ⟨by rfl, ?_⟩) (by assumption) ?_
    rotate_left
    · intro w' hSw
      go_simp
      first | done | with_reducible rfl
    try simp only [Act.put, List.setIfInBounds_toArray, List.set_cons_zero, List.set_cons_succ]
    refine wpAnyH_takeD (i := 4) (v := ?_) (some 27) rfl rfl (by kernel_rfl) (by kernel_rfl) (by kernel_rfl) (fun _ _ _ h => h) (Or.inl ⟨by rfl, ?_⟩) (by assumption) ?_
    rotate_left
    · intro w' hSw
      go_simp
      first | done | with_reducible rfl
    try simp only [Act.put, List.setIfInBounds_toArray, List.set_cons_zero, List.set_cons_succ]
    refine wpAnyH_takeD (i := 5) (v := ?_) (some 28) rfl rfl (by kernel_rfl) (by kernel_rfl) (by kernel_rfl) (fun _ _ _ h => h) (Or.inl ⟨by rfl, ?_⟩) (by assumption) ?_
    rotate_left
    · intro w' hSw
      have ke := KW.out.fr hSw (fun e => by have e' : g0 = g0 + 1 := e; omega); have k1 := ke.cell 1; have k2 := ke.cell 2; have y := HBW.out.fr hSw (fun e => by have e' : g = g0 + 1 := e; have := HGG.out; omega); have y2 := y.cell 2; have y6 := y.cell 6; simp only [FS.cells, List.getElem?_toArray, List.getElem?_cons_zero, List.getElem?_cons_succ] at k1 k2 y2 y6; have hq := HQ.out w' hSw
      go_simp
      first | done | with_reducible rfl
    try simp only [Act.put, List.setIfInBounds_toArray, List.set_cons_zero, List.set_cons_succ]
    refine wpAnyH_takeD (i := 6) (v := ?_) (some 29) rfl rfl (by kernel_rfl) (by kernel_rfl) (by kernel_rfl) (fun _ _ _ h => h) (Or.inl ⟨by rfl, ?_⟩) (by assumption) ?_
    rotate_left
    · intro w' hSw
      go_simp
      first | done | with_reducible rfl
    try simp only [Act.put, List.setIfInBounds_toArray, List.set_cons_zero, List.set_cons_succ]
    refine wpAnyH_takeD (i := 7) (v := ?_) (some 30) rfl rfl (by kernel_rfl) (by kernel_rfl) (by kernel_rfl) (fun _ _ _ h => h) (Or.inl ⟨by rfl, ?_⟩) (by assumption) ?_
    rotate_left
    · intro w' hSw
      have ke := KW.out.fr hSw (fun e => by have e' : g0 = g0 + 1 := e; omega); have k1 := ke.cell 1; have k2 := ke.cell 2; have y := HBW.out.fr hSw (fun e => by have e' : g = g0 + 1 := e; have := HGG.out; omega); have y2 := y.cell 2; have y6 := y.cell 6; simp only [FS.cells, List.getElem?_toArray, List.getElem?_cons_zero, List.getElem?_cons_succ] at k1 k2 y2 y6; have hq := HQ.out w' hSw
      go_simp
      first | done | with_reducible rfl
    try simp only [Act.put, List.setIfInBounds_toArray, List.set_cons_zero, List.set_cons_succ]
    refine wpAnyH_takeD (i := 8) (v := ?_) (some 31) rfl rfl (by kernel_rfl) (by kernel_rfl) (by kernel_rfl) (fun _ _ _ h => h) (Or.inl ⟨by rfl, ?_⟩) (by assumption) ?_
    rotate_left
    · intro w' hSw
      go_simp
      first | done | with_reducible rfl
    try simp only [Act.put, List.setIfInBounds_toArray, List.set_cons_zero, List.set_cons_succ]
    refine wpAnyH_takeD (i := 9) (v := ?_) (some 32) rfl rfl (by kernel_rfl) (by kernel_rfl) (by kernel_rfl) (fun _ _ _ h => h) (Or.inl ⟨by rfl, ?_⟩) (by assumption) ?_
    rotate_left
    · intro w' hSw
      go_simp
      first | done | with_reducible rfl
    try simp only [Act.put, List.setIfInBounds_toArray, List.set_cons_zero, List.set_cons_succ]
    refine wpAnyH_takeD (i := 10) (v := ?_) (some 33) rfl rfl (by kernel_rfl) (by kernel_rfl) (by kernel_rfl) (fun _ _ _ h => h) (Or.inl ⟨by rfl, ?_⟩) (by assumption) ?_
    rotate_left
    · intro w' hSw
      go_simp
      first | done | with_reducible rfl
    try simp only [Act.put, List.setIfInBounds_toArray, List.set_cons_zero, List.set_cons_succ]
    refine wpAnyH_takeD (i := 11) (v := ?_) (some 34) rfl rfl (by kernel_rfl) (by kernel_rfl) (by kernel_rfl) (fun _ _ _ h => h) (Or.inl ⟨by rfl, ?_⟩) (by assumption) ?_
    rotate_left
    · intro w' hSw
      have ke := KW.out.fr hSw (fun e => by have e' : g0 = g0 + 1 := e; omega); have k1 := ke.cell 1; have k2 := ke.cell 2; have y := HBW.out.fr hSw (fun e => by have e' : g = g0 + 1 := e; have := HGG.out; omega); have y2 := y.cell 2; have y6 := y.cell 6; simp only [FS.cells, List.getElem?_toArray, List.getElem?_cons_zero, List.getElem?_cons_succ] at k1 k2 y2 y6; have hq := HQ.out w' hSw
      go_simp
      first | done | with_reducible rfl
    try simp only [Act.put, List.setIfInBounds_toArray, List.set_cons_zero, List.set_cons_succ]
    refine wpAnyH_takeD (i := 12) (v := ?_) (some 35) rfl rfl (by kernel_rfl) (by kernel_rfl) (by kernel_rfl) (fun _ _ _ h => h) (Or.inl ⟨by rfl, ?_⟩) (by assumption) ?_
    rotate_left
    · intro w' hSw
      go_simp
      first | done | with_reducible rfl
    try simp only [Act.put, List.setIfInBounds_toArray, List.set_cons_zero, List.set_cons_succ]
    refine wpAnyH_takeD (i := 13) (v := ?_) (some 36) rfl rfl (by kernel_rfl) (by kernel_rfl) (by kernel_rfl) (fun _ _ _ h => h) (Or.inl ⟨by rfl, ?_⟩) (by assumption) ?_
    rotate_left
    · intro w' hSw
      go_simp
      first | done | with_reducible rfl
    try simp only [Act.put, List.setIfInBounds_toArray, List.set_cons_zero, List.set_cons_succ]
    refine wpAnyH_takeD (i := 14) (v := ?_) (some 37) rfl rfl (by kernel_rfl) (by kernel_rfl) (by kernel_rfl) (fun _ _ _ h => h) (Or.inl ⟨by rfl, ?_⟩) (by assumption) ?_
    rotate_left
    · intro w' hSw
      have ke := KW.out.fr hSw (fun e => by have e' : g0 = g0 + 1 := e; omega); have k1 := ke.cell 1; have k2 := ke.cell 2; have y := HBW.out.fr hSw (fun e => by have e' : g = g0 + 1 := e; have := HGG.out; omega); have y2 := y.cell 2; have y6 := y.cell 6; simp only [FS.cells, List.getElem?_toArray, List.getElem?_cons_zero, List.getElem?_cons_succ] at k1 k2 y2 y6; have hq := HQ.out w' hSw
      go_simp
      first | done | with_reducible rfl
    try simp only [Act.put, List.setIfInBounds_toArray, List.set_cons_zero, List.set_cons_succ]
    refine wpAnyH_takeD (i := 15) (v := ?_) (some 38) rfl rfl (by kernel_rfl) (by kernel_rfl) (by kernel_rfl) (fun _ _ _ h => h) (Or.inl ⟨by rfl, ?_⟩) (by assumption) ?_
    rotate_left
    · intro w' hSw
      go_simp
      first | done | with_reducible rfl
    try simp only [Act.put, List.setIfInBounds_toArray, List.set_cons_zero, List.set_cons_succ]
    refine wpAnyH_takeD (i := 16) (v := ?_) (some 39) rfl rfl (by kernel_rfl) (by kernel_rfl) (by kernel_rfl) (fun _ _ _ h => h) (Or.inl ⟨by rfl, ?_⟩) (by assumption) ?_
    rotate_left
    · intro w' hSw
      go_simp
      first | done | with_reducible rfl
    try simp only [Act.put, List.setIfInBounds_toArray, List.set_cons_zero, List.set_cons_succ]
    refine wpAnyH_ready (rs := [17]) (by kernel_rfl) (by simp) ?_
    refine AllReadyH.cons rfl (fun K hK => ?_) AllReadyH.nil
    go_simp
    have HX9 := Lib.hid ((KO.out.set8 (.int .i64 3) (.int .i64 0) (.int .i64 r) (.int .i64 s.turn) (.int .i64 (a + x)) (.int .i64 0) (.int .i64 0) (.slice none 0 0)).drew)
    refine hK.out _ _ ((Fr.set8 (S := fun x => x = g0 + 1) (Fr.refl _ W) (fun _ => rfl) _ _ _ _ _ _ _ _).drew) (fun hHeld => ?_)
    clear hK K
    try change wpAnyH _ _ _ _ _ _ _ (Act.put _ none _) _
    try simp only [Act.put, List.setIfInBounds_toArray, List.set_cons_zero, List.set_cons_succ]
    refine wpAnyH_done (by kernel_rfl) ?_ _
    have HH9 := Lib.hid hHeld
    clear hHeld z0 f0 z1 f1 z2 f2 z3 f3 z4 f4 z5 f5 z6 f6 z7 f7
    obtain ⟨X9, hX9⟩ : ∃ X9, (set8 W (g0 + 1) (.int .i64 3) (.int .i64 0) (.int .i64 r) (.int .i64 s.turn) (.int .i64 (a + x)) (.int .i64 0) (.int .i64 0) (.slice none 0 0)).drew = X9 := ⟨_, rfl⟩
    rw [hX9] at HX9
    unfold Go.Proofs.YtkinbcmnfpkncaaDoor.set8 at hX9
    rw [hX9] at HH9 ⊢
    clear hX9
    go_wp2
    refine bodyPost_ret (resOu (p := 4) rfl _ _ (g0 + 1) _ _ _ _ _ _ _ _ rfl HX9.out) rfl ?_
    rw [HOU.out]
    exact OutR.nil (HFW.out.trans HH9.out (fun x hx e => by have e' : x = g0 + 1 := e; have := HG0.out; omega))
  by_cases hk8 : k = 8
  · subst hk8
    have hou : s.out ⟨8, a, r, i, l, m, d⟩ = ⟨4, 0, r, 0, a + (s.L.getD (r - 1).toNat default).n, 0, 0, []⟩ := by unfold FS.out; simp [HLL.out]
    have HOU := Lib.hid hou
    clear hou
    have z0 : W.cell? ⟨g0 + 1, 0, none⟩ = some (.int .i64 0) := KO.out.cell 0
    have f0 : W.frozen? ⟨g0 + 1, 0, none⟩ = false := KO.out.frozen 0
    have z1 : W.cell? ⟨g0 + 1, 1, none⟩ = some (.int .i64 0) := KO.out.cell 1
    have f1 : W.frozen? ⟨g0 + 1, 1, none⟩ = false := KO.out.frozen 1
    have z2 : W.cell? ⟨g0 + 1, 2, none⟩ = some (.int .i64 0) := KO.out.cell 2
    have f2 : W.frozen? ⟨g0 + 1, 2, none⟩ = false := KO.out.frozen 2
    have z3 : W.cell? ⟨g0 + 1, 3, none⟩ = some (.int .i64 0) := KO.out.cell 3
    have f3 : W.frozen? ⟨g0 + 1, 3, none⟩ = false := KO.out.frozen 3
    have z4 : W.cell? ⟨g0 + 1, 4, none⟩ = some (.int .i64 0) := KO.out.cell 4
    have f4 : W.frozen? ⟨g0 + 1, 4, none⟩ = false := KO.out.frozen 4
    have z5 : W.cell? ⟨g0 + 1, 5, none⟩ = some (.int .i64 0) := KO.out.cell 5
    have f5 : W.frozen? ⟨g0 + 1, 5, none⟩ = false := KO.out.frozen 5
    have z6 : W.cell? ⟨g0 + 1, 6, none⟩ = some (.int .i64 0) := KO.out.cell 6
    have f6 : W.frozen? ⟨g0 + 1, 6, none⟩ = false := KO.out.frozen 6
    have z7 : W.cell? ⟨g0 + 1, 7, none⟩ = some (.slice none 0 0) := KO.out.cell 7
    have f7 : W.frozen? ⟨g0 + 1, 7, none⟩ = false := KO.out.frozen 7
    have e1 : W.cell? ⟨g0, 1, none⟩ = some (.int .i64 a) := KW.out.cell 1
    have e2 : W.cell? ⟨g0, 2, none⟩ = some (.int .i64 r) := KW.out.cell 2
    have e3 : W.cell? ⟨g0, 3, none⟩ = some (.int .i64 i) := KW.out.cell 3
    have e4 : W.cell? ⟨g0, 4, none⟩ = some (.int .i64 l) := KW.out.cell 4
    have e5 : W.cell? ⟨g0, 5, none⟩ = some (.int .i64 m) := KW.out.cell 5
    have e6 : W.cell? ⟨g0, 6, none⟩ = some (.slice pA dl pc) := KW.out.cell 6
    have hrr := HR.out rfl
    obtain ⟨j, hj⟩ : ∃ j : Nat, r - 1 = (j : Int) := ⟨(r - 1).toNat, by omega⟩
    have hjn : j < n := by omega
    obtain ⟨b, off, rfl, hq, hx0, hx1⟩ := HAT.out j hjn
    have HQ := Lib.hid hq
    clear hq
    rw [hj, Int.toNat_natCast] at HOU
    generalize (s.L.getD j default).n = x at *
    have wa : IntKind.i64.wrap (a + x) = a + x := IntWalk.i64_in _ (by have := HEB.out; unfold evB at this; simp only at this; omega)
    have wr : IntKind.i64.wrap (r - 1) = (j : Int) := by rw [IntWalk.i64_in _ (by omega)]; exact hj
    have w5 : wrap64 (j : Int) = (j : Int) := by unfold wrap64; omega
    have w6 : IntKind.i64.wrap (j : Int) = (j : Int) := IntWalk.i64_in _ (by omega)
    have hj0 : (0 : Int) ≤ (j : Int) := by omega
    have hjI : (j : Int) < (n : Int) := by omega
    go_enter Tryd.func75, Tryd.ntmps75
    go_wp2_with fail
    clear hW hg0 kk y2 hs1 e1 e2 e3 e4 e5 e6
    refine wp_region_held_drew (S := (fun w' => Fr (fun x => x = g0 + 1) W w')) (by kernel_rfl) ((Fr.refl _ _).drew) (fun hHeld => ?_)
    refine wpAnyH_takeD (i := 0) (v := ?_) (some 48) rfl rfl (by kernel_rfl) (by kernel_rfl) (by kernel_rfl) (fun _ _ _ h => h) (Or.inl ⟨by rfl, ?_⟩) (by assumption) ?_
    rotate_left
    · intro w' hSw
      go_simp
      first | done | with_reducible rfl
    try simp only [Act.put, List.setIfInBounds_toArray, List.set_cons_zero, List.set_cons_succ]
    refine wpAnyH_takeD (i := 1) (v := ?_) (some 49) rfl rfl (by kernel_rfl) (by kernel_rfl) (by kernel_rfl) (fun _ _ _ h => h) (Or.inl ⟨by rfl, ?_⟩) (by assumption) ?_
    rotate_left
    · intro w' hSw
      have ke := KW.out.fr hSw (fun e => by have e' : g0 = g0 + 1 := e; omega); have k1 := ke.cell 1; have k2 := ke.cell 2; have y := HBW.out.fr hSw (fun e => by have e' : g = g0 + 1 := e; have := HGG.out; omega); have y2 := y.cell 2; have y6 := y.cell 6; simp only [FS.cells, List.getElem?_toArray, List.getElem?_cons_zero, List.getElem?_cons_succ] at k1 k2 y2 y6; have hq := HQ.out w' hSw
      go_simp
      first | done | with_reducible rfl
    try simp only [Act.put, List.setIfInBounds_toArray, List.set_cons_zero, List.set_cons_succ]
    refine wpAnyH_takeD (i := 2) (v := ?_) (some 50) rfl rfl (by kernel_rfl) (by kernel_rfl) (by kernel_rfl) (fun _ _ _ h => h) (Or.inl ⟨by rfl, ?_⟩) (by assumption) ?_
    rotate_left
    · intro w' hSw
      go_simp
      first | done | with_reducible rfl
    try simp only [Act.put, List.setIfInBounds_toArray, List.set_cons_zero, List.set_cons_succ]
    refine wpAnyH_takeD (i := 3) (v := ?_) (some 51) rfl rfl (by kernel_rfl) (by kernel_rfl) (by kernel_rfl) (fun _ _ _ h => h) (Or.inl ⟨by rfl, ?_⟩) (by assumption) ?_
    rotate_left
    · intro w' hSw
      have ke := KW.out.fr hSw (fun e => by have e' : g0 = g0 + 1 := e; omega); have k1 := ke.cell 1; have k2 := ke.cell 2; have y := HBW.out.fr hSw (fun e => by have e' : g = g0 + 1 := e; have := HGG.out; omega); have y2 := y.cell 2; have y6 := y.cell 6; simp only [FS.cells, List.getElem?_toArray, List.getElem?_cons_zero, List.getElem?_cons_succ] at k1 k2 y2 y6; have hq := HQ.out w' hSw
      go_simp
      first | done | with_reducible rfl
    try simp only [Act.put, List.setIfInBounds_toArray, List.set_cons_zero, List.set_cons_succ]
    refine wpAnyH_takeD (i := 4) (v := ?_) (some 52) rfl rfl (by kernel_rfl) (by kernel_rfl) (by kernel_rfl) (fun _ _ _ h => h) (Or.inl ⟨by rfl, ?_⟩) (by assumption) ?_
    rotate_left
    · intro w' hSw
      go_simp
      first | done | with_reducible rfl
    try simp only [Act.put, List.setIfInBounds_toArray, List.set_cons_zero, List.set_cons_succ]
    refine wpAnyH_takeD (i := 5) (v := ?_) (some 53) rfl rfl (by kernel_rfl) (by kernel_rfl) (by kernel_rfl) (fun _ _ _ h => h) (Or.inl ⟨by rfl, ?_⟩) (by assumption) ?_
    rotate_left
    · intro w' hSw
      go_simp
      first | done | with_reducible rfl
    try simp only [Act.put, List.setIfInBounds_toArray, List.set_cons_zero, List.set_cons_succ]
    refine wpAnyH_takeD (i := 6) (v := ?_) (some 54) rfl rfl (by kernel_rfl) (by kernel_rfl) (by kernel_rfl) (fun _ _ _ h => h) (Or.inl ⟨by rfl, ?_⟩) (by assumption) ?_
    rotate_left
    · intro w' hSw
      go_simp
      first | done | with_reducible rfl
    try simp only [Act.put, List.setIfInBounds_toArray, List.set_cons_zero, List.set_cons_succ]
    refine wpAnyH_takeD (i := 7) (v := ?_) (some 55) rfl rfl (by kernel_rfl) (by kernel_rfl) (by kernel_rfl) (fun _ _ _ h => h) (Or.inl ⟨by rfl, ?_⟩) (by assumption) ?_
    rotate_left
    · intro w' hSw
      have ke := KW.out.fr hSw (fun e => by have e' : g0 = g0 + 1 := e; omega); have k1 := ke.cell 1; have k2 := ke.cell 2; have y := HBW.out.fr hSw (fun e => by have e' : g = g0 + 1 := e; have := HGG.out; omega); have y2 := y.cell 2; have y6 := y.cell 6; simp only [FS.cells, List.getElem?_toArray, List.getElem?_cons_zero, List.getElem?_cons_succ] at k1 k2 y2 y6; have hq := HQ.out w' hSw
      go_simp
      first | done | with_reducible rfl
    try simp only [Act.put, List.setIfInBounds_toArray, List.set_cons_zero, List.set_cons_succ]
    refine wpAnyH_takeD (i := 8) (v := ?_) (some 56) rfl rfl (by kernel_rfl) (by kernel_rfl) (by kernel_rfl) (fun _ _ _ h => h) (Or.inl ⟨by rfl, ?_⟩) (by assumption) ?_
    rotate_left
    · intro w' hSw
      go_simp
      first | done | with_reducible rfl
    try simp only [Act.put, List.setIfInBounds_toArray, List.set_cons_zero, List.set_cons_succ]
    refine wpAnyH_takeD (i := 9) (v := ?_) (some 57) rfl rfl (by kernel_rfl) (by kernel_rfl) (by kernel_rfl) (fun _ _ _ h => h) (Or.inl ⟨by rfl, ?_⟩) (by assumption) ?_
    rotate_left
    · intro w' hSw
      have ke := KW.out.fr hSw (fun e => by have e' : g0 = g0 + 1 := e; omega); have k1 := ke.cell 1; have k2 := ke.cell 2; have y := HBW.out.fr hSw (fun e => by have e' : g = g0 + 1 := e; have := HGG.out; omega); have y2 := y.cell 2; have y6 := y.cell 6; simp only [FS.cells, List.getElem?_toArray, List.getElem?_cons_zero, List.getElem?_cons_succ] at k1 k2 y2 y6; have hq := HQ.out w' hSw
      go_simp
      first | done | with_reducible rfl
    try simp only [Act.put, List.setIfInBounds_toArray, List.set_cons_zero, List.set_cons_succ]
    refine wpAnyH_takeD (i := 10) (v := ?_) (some 58) rfl rfl (by kernel_rfl) (by kernel_rfl) (by kernel_rfl) (fun _ _ _ h => h) (Or.inl ⟨by rfl, ?_⟩) (by assumption) ?_
    rotate_left
    · intro w' hSw
      go_simp
      first | done | with_reducible rfl
    try simp only [Act.put, List.setIfInBounds_toArray, List.set_cons_zero, List.set_cons_succ]
    refine wpAnyH_takeD (i := 11) (v := ?_) (some 59) rfl rfl (by kernel_rfl) (by kernel_rfl) (by kernel_rfl) (fun _ _ _ h => h) (Or.inl ⟨by rfl, ?_⟩) (by assumption) ?_
    rotate_left
    · intro w' hSw
      go_simp
      first | done | with_reducible rfl
    try simp only [Act.put, List.setIfInBounds_toArray, List.set_cons_zero, List.set_cons_succ]
    refine wpAnyH_takeD (i := 12) (v := ?_) (some 60) rfl rfl (by kernel_rfl) (by kernel_rfl) (by kernel_rfl) (fun _ _ _ h => h) (Or.inl ⟨by rfl, ?_⟩) (by assumption) ?_
    rotate_left
    · intro w' hSw
      go_simp
      first | done | with_reducible rfl
    try simp only [Act.put, List.setIfInBounds_toArray, List.set_cons_zero, List.set_cons_succ]
    refine wpAnyH_takeD (i := 13) (v := ?_) (some 61) rfl rfl (by kernel_rfl) (by kernel_rfl) (by kernel_rfl) (fun _ _ _ h => h) (Or.inl ⟨by rfl, ?_⟩) (by assumption) ?_
    rotate_left
    · intro w' hSw
      have ke := KW.out.fr hSw (fun e => by have e' : g0 = g0 + 1 := e; omega); have k1 := ke.cell 1; have k2 := ke.cell 2; have y := HBW.out.fr hSw (fun e => by have e' : g = g0 + 1 := e; have := HGG.out; omega); have y2 := y.cell 2; have y6 := y.cell 6; simp only [FS.cells, List.getElem?_toArray, List.getElem?_cons_zero, List.getElem?_cons_succ] at k1 k2 y2 y6; have hq := HQ.out w' hSw
      go_simp
      first | done | with_reducible rfl
    try simp only [Act.put, List.setIfInBounds_toArray, List.set_cons_zero, List.set_cons_succ]
    refine wpAnyH_takeD (i := 14) (v := ?_) (some 62) rfl rfl (by kernel_rfl) (by kernel_rfl) (by kernel_rfl) (fun _ _ _ h => h) (Or.inl ⟨by rfl, ?_⟩) (by assumption) ?_
    rotate_left
    · intro w' hSw
      go_simp
      first | done | with_reducible rfl
    try simp only [Act.put, List.setIfInBounds_toArray, List.set_cons_zero, List.set_cons_succ]
    refine wpAnyH_takeD (i := 15) (v := ?_) (some 63) rfl rfl (by kernel_rfl) (by kernel_rfl) (by kernel_rfl) (fun _ _ _ h => h) (Or.inl ⟨by rfl, ?_⟩) (by assumption) ?_
    rotate_left
    · intro w' hSw
      go_simp
      first | done | with_reducible rfl
    try simp only [Act.put, List.setIfInBounds_toArray, List.set_cons_zero, List.set_cons_succ]
    refine wpAnyH_ready (rs := [16]) (by kernel_rfl) (by simp) ?_
    refine AllReadyH.cons rfl (fun K hK => ?_) AllReadyH.nil
    go_simp
    have HX9 := Lib.hid ((KO.out.set8 (.int .i64 4) (.int .i64 0) (.int .i64 r) (.int .i64 0) (.int .i64 (a + x)) (.int .i64 0) (.int .i64 0) (.slice none 0 0)).drew)
    refine hK.out _ _ ((Fr.set8 (S := fun x => x = g0 + 1) (Fr.refl _ W) (fun _ => rfl) _ _ _ _ _ _ _ _).drew) (fun hHeld => ?_)
    clear hK K
    try change wpAnyH _ _ _ _ _ _ _ (Act.put _ none _) _
    try simp only [Act.put, List.setIfInBounds_toArray, List.set_cons_zero, List.set_cons_succ]
    refine wpAnyH_done (by kernel_rfl) ?_ _
    have HH9 := Lib.hid hHeld
    clear hHeld z0 f0 z1 f1 z2 f2 z3 f3 z4 f4 z5 f5 z6 f6 z7 f7
    obtain ⟨X9, hX9⟩ : ∃ X9, (set8 W (g0 + 1) (.int .i64 4) (.int .i64 0) (.int .i64 r) (.int .i64 0) (.int .i64 (a + x)) (.int .i64 0) (.int .i64 0) (.slice none 0 0)).drew = X9 := ⟨_, rfl⟩
    rw [hX9] at HX9
    unfold Go.Proofs.YtkinbcmnfpkncaaDoor.set8 at hX9
    rw [hX9] at HH9 ⊢
    clear hX9
    go_wp2
    refine bodyPost_ret (resOu (p := 4) rfl _ _ (g0 + 1) _ _ _ _ _ _ _ _ rfl HX9.out) rfl ?_
    rw [HOU.out]
    exact OutR.nil (HFW.out.trans HH9.out (fun x hx e => by have e' : x = g0 + 1 := e; have := HG0.out; omega))
  by_cases hk19 : k = 19
  · subst hk19
    have hou : s.out ⟨19, a, r, i, l, m, d⟩ = ⟨8, 0, 0, 0, 0, 0, 0, d⟩ := by unfold FS.out; simp [HLL.out]
    have HOU := Lib.hid hou
    clear hou
    have z0 : W.cell? ⟨g0 + 1, 0, none⟩ = some (.int .i64 0) := KO.out.cell 0
    have f0 : W.frozen? ⟨g0 + 1, 0, none⟩ = false := KO.out.frozen 0
    have z1 : W.cell? ⟨g0 + 1, 1, none⟩ = some (.int .i64 0) := KO.out.cell 1
    have f1 : W.frozen? ⟨g0 + 1, 1, none⟩ = false := KO.out.frozen 1
    have z2 : W.cell? ⟨g0 + 1, 2, none⟩ = some (.int .i64 0) := KO.out.cell 2
    have f2 : W.frozen? ⟨g0 + 1, 2, none⟩ = false := KO.out.frozen 2
    have z3 : W.cell? ⟨g0 + 1, 3, none⟩ = some (.int .i64 0) := KO.out.cell 3
    have f3 : W.frozen? ⟨g0 + 1, 3, none⟩ = false := KO.out.frozen 3
    have z4 : W.cell? ⟨g0 + 1, 4, none⟩ = some (.int .i64 0) := KO.out.cell 4
    have f4 : W.frozen? ⟨g0 + 1, 4, none⟩ = false := KO.out.frozen 4
    have z5 : W.cell? ⟨g0 + 1, 5, none⟩ = some (.int .i64 0) := KO.out.cell 5
    have f5 : W.frozen? ⟨g0 + 1, 5, none⟩ = false := KO.out.frozen 5
    have z6 : W.cell? ⟨g0 + 1, 6, none⟩ = some (.int .i64 0) := KO.out.cell 6
    have f6 : W.frozen? ⟨g0 + 1, 6, none⟩ = false := KO.out.frozen 6
    have z7 : W.cell? ⟨g0 + 1, 7, none⟩ = some (.slice none 0 0) := KO.out.cell 7
    have f7 : W.frozen? ⟨g0 + 1, 7, none⟩ = false := KO.out.frozen 7
    have e1 : W.cell? ⟨g0, 1, none⟩ = some (.int .i64 a) := KW.out.cell 1
    have e2 : W.cell? ⟨g0, 2, none⟩ = some (.int .i64 r) := KW.out.cell 2
    have e3 : W.cell? ⟨g0, 3, none⟩ = some (.int .i64 i) := KW.out.cell 3
    have e4 : W.cell? ⟨g0, 4, none⟩ = some (.int .i64 l) := KW.out.cell 4
    have e5 : W.cell? ⟨g0, 5, none⟩ = some (.int .i64 m) := KW.out.cell 5
    have e6 : W.cell? ⟨g0, 6, none⟩ = some (.slice pA dl pc) := KW.out.cell 6
    go_enter Tryd.func75, Tryd.ntmps75
    go_wp2_with fail
    clear hW hg0 kk y2 hs1 e1 e2 e3 e4 e5 e6 z0 f0 z1 f1 z2 f2 z3 f3 z4 f4 z5 f5 z6 f6 z7 f7
    refine (HCL.out W (Fr.refl _ _)).mono ?_; rintro e w9 ⟨dA, dc, rfl, ho9, hf9, hn9⟩
    have HF9 := Lib.hid hf9
    have HO9 := Lib.hid ho9
    have HN9 := Lib.hid hn9
    have HK9 := Lib.hid (KO.out.fr HF9.out (fun h => h))
    clear hf9 ho9 hn9
    have z0 : w9.cell? ⟨g0 + 1, 0, none⟩ = some (.int .i64 0) := HK9.out.cell 0
    have f0 : w9.frozen? ⟨g0 + 1, 0, none⟩ = false := HK9.out.frozen 0
    have z1 : w9.cell? ⟨g0 + 1, 1, none⟩ = some (.int .i64 0) := HK9.out.cell 1
    have f1 : w9.frozen? ⟨g0 + 1, 1, none⟩ = false := HK9.out.frozen 1
    have z2 : w9.cell? ⟨g0 + 1, 2, none⟩ = some (.int .i64 0) := HK9.out.cell 2
    have f2 : w9.frozen? ⟨g0 + 1, 2, none⟩ = false := HK9.out.frozen 2
    have z3 : w9.cell? ⟨g0 + 1, 3, none⟩ = some (.int .i64 0) := HK9.out.cell 3
    have f3 : w9.frozen? ⟨g0 + 1, 3, none⟩ = false := HK9.out.frozen 3
    have z4 : w9.cell? ⟨g0 + 1, 4, none⟩ = some (.int .i64 0) := HK9.out.cell 4
    have f4 : w9.frozen? ⟨g0 + 1, 4, none⟩ = false := HK9.out.frozen 4
    have z5 : w9.cell? ⟨g0 + 1, 5, none⟩ = some (.int .i64 0) := HK9.out.cell 5
    have f5 : w9.frozen? ⟨g0 + 1, 5, none⟩ = false := HK9.out.frozen 5
    have z6 : w9.cell? ⟨g0 + 1, 6, none⟩ = some (.int .i64 0) := HK9.out.cell 6
    have f6 : w9.frozen? ⟨g0 + 1, 6, none⟩ = false := HK9.out.frozen 6
    have z7 : w9.cell? ⟨g0 + 1, 7, none⟩ = some (.slice none 0 0) := HK9.out.cell 7
    have f7 : w9.frozen? ⟨g0 + 1, 7, none⟩ = false := HK9.out.frozen 7
    have GG : Hid (Bk (set8 w9 (g0 + 1) (.int .i64 8) (.int .i64 0) (.int .i64 0) (.int .i64 0) (.int .i64 0) (.int .i64 0) (.int .i64 0) (.slice dA dl dc)) (g0 + 1) 50 #[.int .i64 8, .int .i64 0, .int .i64 0, .int .i64 0, .int .i64 0, .int .i64 0, .int .i64 0, .slice dA dl dc] ∧ Fr (fun k => k = g0 + 1) w9 (set8 w9 (g0 + 1) (.int .i64 8) (.int .i64 0) (.int .i64 0) (.int .i64 0) (.int .i64 0) (.int .i64 0) (.int .i64 0) (.slice dA dl dc))) := Lib.hid ⟨HK9.out.set8 .., Fr.set8 (S := fun k => k = g0 + 1) (Fr.refl _ _) (fun _ => rfl) ..⟩
    go_wp2
    change bodyPost _ _ _ _ _ (set8 w9 (g0 + 1) (.int .i64 8) (.int .i64 0) (.int .i64 0) (.int .i64 0) (.int .i64 0) (.int .i64 0) (.int .i64 0) (.slice dA dl dc))
    generalize set8 w9 (g0 + 1) (.int .i64 8) (.int .i64 0) (.int .i64 0) (.int .i64 0) (.int .i64 0) (.int .i64 0) (.int .i64 0) (.slice dA dl dc) = W5 at *
    refine bodyPost_ret (resOu (p := 4) rfl _ _ (g0 + 1) _ _ _ _ _ _ _ _ rfl GG.out.1) rfl ?_
    rw [HOU.out]
    have hlw : w.heap.size ≤ W.heap.size := HFW.out.size
    exact OutR.cl HDL.out (HO9.out.fr GG.out.2 (fun k hk e => HO9.out.ne HK9.out (by decide) (e ▸ hk))) (fun k hk => by have := HN9.out k hk; omega) ((HFW.out.trans HF9.out (fun _ _ h => h)).trans GG.out.2 (fun x hx e => by have e' : x = g0 + 1 := e; have := HG0.out; omega))
  by_cases hk17 : k = 17
  · subst hk17
    have hou : s.out ⟨17, a, r, i, l, m, d⟩ = ⟨6, l, n, 0, 0, i, m, d⟩ := by unfold FS.out; simp [HLL.out]
    have HOU := Lib.hid hou
    clear hou
    have z0 : W.cell? ⟨g0 + 1, 0, none⟩ = some (.int .i64 0) := KO.out.cell 0
    have f0 : W.frozen? ⟨g0 + 1, 0, none⟩ = false := KO.out.frozen 0
    have z1 : W.cell? ⟨g0 + 1, 1, none⟩ = some (.int .i64 0) := KO.out.cell 1
    have f1 : W.frozen? ⟨g0 + 1, 1, none⟩ = false := KO.out.frozen 1
    have z2 : W.cell? ⟨g0 + 1, 2, none⟩ = some (.int .i64 0) := KO.out.cell 2
    have f2 : W.frozen? ⟨g0 + 1, 2, none⟩ = false := KO.out.frozen 2
    have z3 : W.cell? ⟨g0 + 1, 3, none⟩ = some (.int .i64 0) := KO.out.cell 3
    have f3 : W.frozen? ⟨g0 + 1, 3, none⟩ = false := KO.out.frozen 3
    have z4 : W.cell? ⟨g0 + 1, 4, none⟩ = some (.int .i64 0) := KO.out.cell 4
    have f4 : W.frozen? ⟨g0 + 1, 4, none⟩ = false := KO.out.frozen 4
    have z5 : W.cell? ⟨g0 + 1, 5, none⟩ = some (.int .i64 0) := KO.out.cell 5
    have f5 : W.frozen? ⟨g0 + 1, 5, none⟩ = false := KO.out.frozen 5
    have z6 : W.cell? ⟨g0 + 1, 6, none⟩ = some (.int .i64 0) := KO.out.cell 6
    have f6 : W.frozen? ⟨g0 + 1, 6, none⟩ = false := KO.out.frozen 6
    have z7 : W.cell? ⟨g0 + 1, 7, none⟩ = some (.slice none 0 0) := KO.out.cell 7
    have f7 : W.frozen? ⟨g0 + 1, 7, none⟩ = false := KO.out.frozen 7
    have e1 : W.cell? ⟨g0, 1, none⟩ = some (.int .i64 a) := KW.out.cell 1
    have e2 : W.cell? ⟨g0, 2, none⟩ = some (.int .i64 r) := KW.out.cell 2
    have e3 : W.cell? ⟨g0, 3, none⟩ = some (.int .i64 i) := KW.out.cell 3
    have e4 : W.cell? ⟨g0, 4, none⟩ = some (.int .i64 l) := KW.out.cell 4
    have e5 : W.cell? ⟨g0, 5, none⟩ = some (.int .i64 m) := KW.out.cell 5
    have e6 : W.cell? ⟨g0, 6, none⟩ = some (.slice pA dl pc) := KW.out.cell 6
    go_enter Tryd.func75, Tryd.ntmps75
    go_wp2_with fail
    clear hW hg0 kk y2 hs1 e1 e2 e3 e4 e5 e6 z0 f0 z1 f1 z2 f2 z3 f3 z4 f4 z5 f5 z6 f6 z7 f7
    refine wp_region_Z [11] ((fun w' => Fr (fun _ => False) W w')) (by kernel_rfl) ((Fr.refl _ _).drew) (fun hHeld => ?_)
    refine anyZ_pure (i := 0) (v := ?_) (some 75) rfl rfl (by kernel_rfl) (by kernel_rfl) (by kernel_rfl) (by kernel_rfl) (fun _ _ _ h => h) (Or.inl ⟨by rfl, ?_⟩) (fun _ => hHeld) ?_
    rotate_left
    · intro w' _
      go_simp
      first | done | with_reducible rfl
    try simp only [Act.put, List.setIfInBounds_toArray, List.set_cons_zero, List.set_cons_succ]
    refine anyZ_read (i := 1) (v := ?_) (some 76) [10, 11] rfl rfl (by kernel_rfl) (by kernel_rfl) (by kernel_rfl) (by kernel_rfl) (by kernel_rfl) (by kernel_rfl) (fun _ _ _ h => h) (Or.inl ⟨by rfl, ?_⟩) hHeld ?_
    rotate_left
    · intro w' hSw
      have ke := KW.out.fr hSw (fun h => h); have k0 := ke.cell 0; have k1 := ke.cell 1; have k2 := ke.cell 2; have k3 := ke.cell 3; have k4 := ke.cell 4; have k5 := ke.cell 5; have k6 := ke.cell 6; simp only [List.getElem?_toArray, List.getElem?_cons_zero, List.getElem?_cons_succ] at k0 k1 k2 k3 k4 k5 k6
      go_simp
      first | done | with_reducible rfl
    try simp only [Act.put, List.setIfInBounds_toArray, List.set_cons_zero, List.set_cons_succ]
    refine anyZ_pure (i := 2) (v := ?_) (some 77) rfl rfl (by kernel_rfl) (by kernel_rfl) (by kernel_rfl) (by kernel_rfl) (fun _ _ _ h => h) (Or.inl ⟨by rfl, ?_⟩) (fun _ => hHeld) ?_
    rotate_left
    · intro w' _
      go_simp
      first | done | with_reducible rfl
    try simp only [Act.put, List.setIfInBounds_toArray, List.set_cons_zero, List.set_cons_succ]
    refine anyZ_read (i := 3) (v := ?_) (some 78) [10, 11] rfl rfl (by kernel_rfl) (by kernel_rfl) (by kernel_rfl) (by kernel_rfl) (by kernel_rfl) (by kernel_rfl) (fun _ _ _ h => h) (Or.inl ⟨by rfl, ?_⟩) hHeld ?_
    rotate_left
    · intro w' hSw
      have ke := KW.out.fr hSw (fun h => h); have k0 := ke.cell 0; have k1 := ke.cell 1; have k2 := ke.cell 2; have k3 := ke.cell 3; have k4 := ke.cell 4; have k5 := ke.cell 5; have k6 := ke.cell 6; simp only [List.getElem?_toArray, List.getElem?_cons_zero, List.getElem?_cons_succ] at k0 k1 k2 k3 k4 k5 k6
      go_simp
      first | done | with_reducible rfl
    try simp only [Act.put, List.setIfInBounds_toArray, List.set_cons_zero, List.set_cons_succ]
    refine anyZ_pure (i := 4) (v := ?_) (some 79) rfl rfl (by kernel_rfl) (by kernel_rfl) (by kernel_rfl) (by kernel_rfl) (fun _ _ _ h => h) (Or.inl ⟨by rfl, ?_⟩) (fun _ => hHeld) ?_
    rotate_left
    · intro w' _
      go_simp
      first | done | with_reducible rfl
    try simp only [Act.put, List.setIfInBounds_toArray, List.set_cons_zero, List.set_cons_succ]
    refine anyZ_read (i := 5) (v := ?_) (some 80) [10, 11] rfl rfl (by kernel_rfl) (by kernel_rfl) (by kernel_rfl) (by kernel_rfl) (by kernel_rfl) (by kernel_rfl) (fun _ _ _ h => h) (Or.inl ⟨by rfl, ?_⟩) hHeld ?_
    rotate_left
    · intro w' hSw
      have ke := KW.out.fr hSw (fun h => h); have k0 := ke.cell 0; have k1 := ke.cell 1; have k2 := ke.cell 2; have k3 := ke.cell 3; have k4 := ke.cell 4; have k5 := ke.cell 5; have k6 := ke.cell 6; simp only [List.getElem?_toArray, List.getElem?_cons_zero, List.getElem?_cons_succ] at k0 k1 k2 k3 k4 k5 k6
      go_simp
      first | done | with_reducible rfl
    try simp only [Act.put, List.setIfInBounds_toArray, List.set_cons_zero, List.set_cons_succ]
    refine anyZ_pure (i := 6) (v := ?_) (some 81) rfl rfl (by kernel_rfl) (by kernel_rfl) (by kernel_rfl) (by kernel_rfl) (fun _ _ _ h => h) (Or.inl ⟨by rfl, ?_⟩) (fun _ => hHeld) ?_
    rotate_left
    · intro w' _
      go_simp
      first | done | with_reducible rfl
    try simp only [Act.put, List.setIfInBounds_toArray, List.set_cons_zero, List.set_cons_succ]
    refine anyZ_read (i := 7) (v := ?_) (some 82) [8, 10, 11] rfl rfl (by kernel_rfl) (by kernel_rfl) (by kernel_rfl) (by kernel_rfl) (by kernel_rfl) (by kernel_rfl) (fun _ _ _ h => h) (Or.inl ⟨by rfl, ?_⟩) hHeld ?_
    rotate_left
    · intro w' hSw
      have ke := KW.out.fr hSw (fun h => h); have k0 := ke.cell 0; have k1 := ke.cell 1; have k2 := ke.cell 2; have k3 := ke.cell 3; have k4 := ke.cell 4; have k5 := ke.cell 5; have k6 := ke.cell 6; simp only [List.getElem?_toArray, List.getElem?_cons_zero, List.getElem?_cons_succ] at k0 k1 k2 k3 k4 k5 k6
      go_simp
      first | done | with_reducible rfl
    try simp only [Act.put, List.setIfInBounds_toArray, List.set_cons_zero, List.set_cons_succ]
    refine anyZ_pure (i := 9) (v := ?_) (some 84) rfl rfl (by kernel_rfl) (by kernel_rfl) (by kernel_rfl) (by kernel_rfl) (fun _ _ _ h => h) (Or.inl ⟨by rfl, ?_⟩) (fun _ => hHeld) ?_
    rotate_left
    · intro w' _
      go_simp
      first | done | with_reducible rfl
    try simp only [Act.put, List.setIfInBounds_toArray, List.set_cons_zero, List.set_cons_succ]
    refine anyZ_ready (rs := [8]) (by kernel_rfl) (by simp) ?_
    refine AllZ.step rfl (fun K hK => ?_) AllZ.nil
    go_simp
    refine (HCL.out _ hHeld).mono ?_; rintro e w9 ⟨dA, dc, rfl, ho9, hf9, hn9⟩
    have HQ9 := Lib.hid ho9
    have HR9 : Hid (∀ k, (Value.slice dA dl dc).ownBlock = some k → W.heap.size ≤ k) := Lib.hid (fun k hk => Nat.le_trans hHeld.size (hn9 k hk))
    try go_simp
    refine hK.out _ _ (hHeld.trans hf9 (fun _ _ h => h)) (fun hHeld => ?_)
    clear hK K
    try change anyZ _ _ _ _ _ _ _ _ (Act.put _ (some 83) _) _
    try simp only [Act.put, List.setIfInBounds_toArray, List.set_cons_zero, List.set_cons_succ]
    refine anyZ_pure (i := 10) (v := ?_) (some 85) rfl rfl (by kernel_rfl) (by kernel_rfl) (by kernel_rfl) (by kernel_rfl) (fun _ _ _ h => h) (Or.inl ⟨by rfl, ?_⟩) (fun _ => hHeld) ?_
    rotate_left
    · intro w' _
      go_simp
      first | done | with_reducible rfl
    try simp only [Act.put, List.setIfInBounds_toArray, List.set_cons_zero, List.set_cons_succ]
    refine anyZ_ready (rs := [11]) (by kernel_rfl) (by simp) ?_
    refine AllZ.last rfl (by kernel_rfl) (fun K hK => ?_) AllZ.nil
    have HF9 := Lib.hid hHeld
    have HK9 := Lib.hid (KO.out.fr HF9.out (fun h => h))
    have z0 := HK9.out.cell 0
    have z1 := HK9.out.cell 1
    have z2 := HK9.out.cell 2
    have z3 := HK9.out.cell 3
    have z4 := HK9.out.cell 4
    have z5 := HK9.out.cell 5
    have z6 := HK9.out.cell 6
    have z7 := HK9.out.cell 7
    have f0 := HK9.out.frozen 0
    have f1 := HK9.out.frozen 1
    have f2 := HK9.out.frozen 2
    have f3 := HK9.out.frozen 3
    have f4 := HK9.out.frozen 4
    have f5 := HK9.out.frozen 5
    have f6 := HK9.out.frozen 6
    have f7 := HK9.out.frozen 7
    simp only [List.getElem?_toArray, List.getElem?_cons_zero, List.getElem?_cons_succ] at z0 z1 z2 z3 z4 z5 z6 z7
    go_simp
    refine hK.out _ _ ?_
    clear hK K
    try change anyZ _ _ _ _ _ _ _ _ (Act.put _ none _) _
    try simp only [Act.put, List.setIfInBounds_toArray, List.set_cons_zero, List.set_cons_succ]
    refine anyZ_done (by kernel_rfl) ?_ _
    have HQ8 := HQ9
    have GG : Hid (Bk (set8 w9 (g0 + 1) (.int .i64 6) (.int .i64 l) (.int .i64 n) (.int .i64 0) (.int .i64 0) (.int .i64 i) (.int .i64 m) (.slice dA dl dc)) (g0 + 1) 50 #[.int .i64 6, .int .i64 l, .int .i64 n, .int .i64 0, .int .i64 0, .int .i64 i, .int .i64 m, .slice dA dl dc] ∧ Fr (fun k => k = g0 + 1) w9 (set8 w9 (g0 + 1) (.int .i64 6) (.int .i64 l) (.int .i64 n) (.int .i64 0) (.int .i64 0) (.int .i64 i) (.int .i64 m) (.slice dA dl dc))) := Lib.hid ⟨HK9.out.set8 .., Fr.set8 (S := fun k => k = g0 + 1) (Fr.refl _ _) (fun _ => rfl) ..⟩
    go_wp2
    change bodyPost _ _ _ _ _ (set8 w9 (g0 + 1) (.int .i64 6) (.int .i64 l) (.int .i64 n) (.int .i64 0) (.int .i64 0) (.int .i64 i) (.int .i64 m) (.slice dA dl dc))
    generalize set8 w9 (g0 + 1) (.int .i64 6) (.int .i64 l) (.int .i64 n) (.int .i64 0) (.int .i64 0) (.int .i64 i) (.int .i64 m) (.slice dA dl dc) = W5 at *
    refine bodyPost_ret (resOu (p := 4) rfl _ _ (g0 + 1) _ _ _ _ _ _ _ _ rfl GG.out.1) rfl ?_
    rw [HOU.out]
    have hlw : w.heap.size ≤ W.heap.size := HFW.out.size
    exact OutR.cl HDL.out (HQ8.out.fr GG.out.2 (fun k hk e => HQ8.out.ne HK9.out (by decide) (e ▸ hk))) (fun k hk => by have := HR9.out k hk; omega) ((HFW.out.trans HF9.out (fun _ _ h => h)).trans GG.out.2 (fun x hx e => by have e' : x = g0 + 1 := e; have := HG0.out; omega))
  by_cases hk20 : k = 20
  · subst hk20
    have hou : s.out ⟨20, a, r, i, l, m, d⟩ = ⟨7, 0, 0, 0, 0, 0, statB 20, d⟩ := by unfold FS.out; simp [HLL.out]
    have HOU := Lib.hid hou
    clear hou
    have z0 : W.cell? ⟨g0 + 1, 0, none⟩ = some (.int .i64 0) := KO.out.cell 0
    have f0 : W.frozen? ⟨g0 + 1, 0, none⟩ = false := KO.out.frozen 0
    have z1 : W.cell? ⟨g0 + 1, 1, none⟩ = some (.int .i64 0) := KO.out.cell 1
    have f1 : W.frozen? ⟨g0 + 1, 1, none⟩ = false := KO.out.frozen 1
    have z2 : W.cell? ⟨g0 + 1, 2, none⟩ = some (.int .i64 0) := KO.out.cell 2
    have f2 : W.frozen? ⟨g0 + 1, 2, none⟩ = false := KO.out.frozen 2
    have z3 : W.cell? ⟨g0 + 1, 3, none⟩ = some (.int .i64 0) := KO.out.cell 3
    have f3 : W.frozen? ⟨g0 + 1, 3, none⟩ = false := KO.out.frozen 3
    have z4 : W.cell? ⟨g0 + 1, 4, none⟩ = some (.int .i64 0) := KO.out.cell 4
    have f4 : W.frozen? ⟨g0 + 1, 4, none⟩ = false := KO.out.frozen 4
    have z5 : W.cell? ⟨g0 + 1, 5, none⟩ = some (.int .i64 0) := KO.out.cell 5
    have f5 : W.frozen? ⟨g0 + 1, 5, none⟩ = false := KO.out.frozen 5
    have z6 : W.cell? ⟨g0 + 1, 6, none⟩ = some (.int .i64 0) := KO.out.cell 6
    have f6 : W.frozen? ⟨g0 + 1, 6, none⟩ = false := KO.out.frozen 6
    have z7 : W.cell? ⟨g0 + 1, 7, none⟩ = some (.slice none 0 0) := KO.out.cell 7
    have f7 : W.frozen? ⟨g0 + 1, 7, none⟩ = false := KO.out.frozen 7
    have e1 : W.cell? ⟨g0, 1, none⟩ = some (.int .i64 a) := KW.out.cell 1
    have e2 : W.cell? ⟨g0, 2, none⟩ = some (.int .i64 r) := KW.out.cell 2
    have e3 : W.cell? ⟨g0, 3, none⟩ = some (.int .i64 i) := KW.out.cell 3
    have e4 : W.cell? ⟨g0, 4, none⟩ = some (.int .i64 l) := KW.out.cell 4
    have e5 : W.cell? ⟨g0, 5, none⟩ = some (.int .i64 m) := KW.out.cell 5
    have e6 : W.cell? ⟨g0, 6, none⟩ = some (.slice pA dl pc) := KW.out.cell 6
    go_enter Tryd.func75, Tryd.ntmps75
    go_wp2_with fail
    clear hW hg0 kk y2 hs1 e1 e2 e3 e4 e5 e6 z0 f0 z1 f1 z2 f2 z3 f3 z4 f4 z5 f5 z6 f6 z7 f7
    refine wp_region_Z [7] ((fun w' => Fr (fun _ => False) W w')) (by kernel_rfl) ((Fr.refl _ _).drew) (fun hHeld => ?_)
    refine anyZ_read (i := 0) (v := ?_) (some 97) [1, 2, 5, 6, 7] rfl rfl (by kernel_rfl) (by kernel_rfl) (by kernel_rfl) (by kernel_rfl) (by kernel_rfl) (by kernel_rfl) (fun _ _ _ h => h) (Or.inl ⟨by rfl, ?_⟩) hHeld ?_
    rotate_left
    · intro w' hSw
      have ke := KW.out.fr hSw (fun h => h); have k0 := ke.cell 0; have k1 := ke.cell 1; have k2 := ke.cell 2; have k3 := ke.cell 3; have k4 := ke.cell 4; have k5 := ke.cell 5; have k6 := ke.cell 6; simp only [List.getElem?_toArray, List.getElem?_cons_zero, List.getElem?_cons_succ] at k0 k1 k2 k3 k4 k5 k6
      go_simp
      first | done | with_reducible rfl
    try simp only [Act.put, List.setIfInBounds_toArray, List.set_cons_zero, List.set_cons_succ]
    refine anyZ_pure (i := 3) (v := ?_) (some 100) rfl rfl (by kernel_rfl) (by kernel_rfl) (by kernel_rfl) (by kernel_rfl) (fun _ _ _ h => h) (Or.inl ⟨by rfl, ?_⟩) (fun _ => hHeld) ?_
    rotate_left
    · intro w' _
      go_simp
      first | done | with_reducible rfl
    try simp only [Act.put, List.setIfInBounds_toArray, List.set_cons_zero, List.set_cons_succ]
    refine anyZ_read (i := 4) (v := ?_) (some 101) [5, 6, 7] rfl rfl (by kernel_rfl) (by kernel_rfl) (by kernel_rfl) (by kernel_rfl) (by kernel_rfl) (by kernel_rfl) (fun _ _ _ h => h) (Or.inl ⟨by rfl, ?_⟩) hHeld ?_
    rotate_left
    · intro w' hSw
      have ke := KW.out.fr hSw (fun h => h); have k0 := ke.cell 0; have k1 := ke.cell 1; have k2 := ke.cell 2; have k3 := ke.cell 3; have k4 := ke.cell 4; have k5 := ke.cell 5; have k6 := ke.cell 6; simp only [List.getElem?_toArray, List.getElem?_cons_zero, List.getElem?_cons_succ] at k0 k1 k2 k3 k4 k5 k6
      go_simp
      first | done | with_reducible rfl
    try simp only [Act.put, List.setIfInBounds_toArray, List.set_cons_zero, List.set_cons_succ]
    refine anyZ_ready (rs := [1]) (by kernel_rfl) (by simp) ?_
    refine AllZ.step rfl (fun K hK => ?_) AllZ.nil
    go_simp
    have HKB : Hid (Bk (W.alloc (.cells #[.int .i64 20, .int .i64 a, .int .i64 r, .int .i64 i, .int .i64 l, .int .i64 m, .slice pA dl pc] 75)).drew W.heap.size 75 #[.int .i64 20, .int .i64 a, .int .i64 r, .int .i64 i, .int .i64 l, .int .i64 m, .slice pA dl pc]) := Lib.hid ((Bk.new _ _ _).drew)
    refine hK.out _ _ (hHeld.alloc _) (fun hHeld => ?_)
    clear hK K
    try change anyZ _ _ _ _ _ _ _ _ (Act.put _ (some 98) _) _
    try simp only [Act.put, List.setIfInBounds_toArray, List.set_cons_zero, List.set_cons_succ]
    refine anyZ_ready (rs := [2]) (by kernel_rfl) (by simp) ?_
    refine AllZ.step rfl (fun K hK => ?_) AllZ.nil
    go_simp
    refine (HST.out _ _ hHeld HKB.out).mono ?_; rintro e w8 ⟨rfl, rfl⟩
    try go_simp
    refine hK.out _ _ (hHeld) (fun hHeld => ?_)
    clear hK K
    try change anyZ _ _ _ _ _ _ _ _ (Act.put _ (some 99) _) _
    try simp only [Act.put, List.setIfInBounds_toArray, List.set_cons_zero, List.set_cons_succ]
    refine anyZ_ready (rs := [5]) (by kernel_rfl) (by simp) ?_
    refine AllZ.step rfl (fun K hK => ?_) AllZ.nil
    go_simp
    refine (HCL.out _ hHeld).mono ?_; rintro e w9 ⟨dA, dc, rfl, ho9, hf9, hn9⟩
    have HQ9 := Lib.hid ho9
    have HR9 : Hid (∀ k, (Value.slice dA dl dc).ownBlock = some k → W.heap.size ≤ k) := Lib.hid (fun k hk => Nat.le_trans hHeld.size (hn9 k hk))
    try go_simp
    refine hK.out _ _ (hHeld.trans hf9 (fun _ _ h => h)) (fun hHeld => ?_)
    clear hK K
    try change anyZ _ _ _ _ _ _ _ _ (Act.put _ (some 102) _) _
    try simp only [Act.put, List.setIfInBounds_toArray, List.set_cons_zero, List.set_cons_succ]
    refine anyZ_pure (i := 6) (v := ?_) (some 103) rfl rfl (by kernel_rfl) (by kernel_rfl) (by kernel_rfl) (by kernel_rfl) (fun _ _ _ h => h) (Or.inl ⟨by rfl, ?_⟩) (fun _ => hHeld) ?_
    rotate_left
    · intro w' _
      go_simp
      first | done | with_reducible rfl
    try simp only [Act.put, List.setIfInBounds_toArray, List.set_cons_zero, List.set_cons_succ]
    refine anyZ_ready (rs := [7]) (by kernel_rfl) (by simp) ?_
    refine AllZ.last rfl (by kernel_rfl) (fun K hK => ?_) AllZ.nil
    have HF9 := Lib.hid hHeld
    have HK9 := Lib.hid (KO.out.fr HF9.out (fun h => h))
    have z0 := HK9.out.cell 0
    have z1 := HK9.out.cell 1
    have z2 := HK9.out.cell 2
    have z3 := HK9.out.cell 3
    have z4 := HK9.out.cell 4
    have z5 := HK9.out.cell 5
    have z6 := HK9.out.cell 6
    have z7 := HK9.out.cell 7
    have f0 := HK9.out.frozen 0
    have f1 := HK9.out.frozen 1
    have f2 := HK9.out.frozen 2
    have f3 := HK9.out.frozen 3
    have f4 := HK9.out.frozen 4
    have f5 := HK9.out.frozen 5
    have f6 := HK9.out.frozen 6
    have f7 := HK9.out.frozen 7
    simp only [List.getElem?_toArray, List.getElem?_cons_zero, List.getElem?_cons_succ] at z0 z1 z2 z3 z4 z5 z6 z7
    go_simp
    refine hK.out _ _ ?_
    clear hK K
    try change anyZ _ _ _ _ _ _ _ _ (Act.put _ none _) _
    try simp only [Act.put, List.setIfInBounds_toArray, List.set_cons_zero, List.set_cons_succ]
    refine anyZ_done (by kernel_rfl) ?_ _
    have HQ8 := HQ9
    have GG : Hid (Bk (set8 w9 (g0 + 1) (.int .i64 7) (.int .i64 0) (.int .i64 0) (.int .i64 0) (.int .i64 0) (.int .i64 0) (.int .i64 (statB 20)) (.slice dA dl dc)) (g0 + 1) 50 #[.int .i64 7, .int .i64 0, .int .i64 0, .int .i64 0, .int .i64 0, .int .i64 0, .int .i64 (statB 20), .slice dA dl dc] ∧ Fr (fun k => k = g0 + 1) w9 (set8 w9 (g0 + 1) (.int .i64 7) (.int .i64 0) (.int .i64 0) (.int .i64 0) (.int .i64 0) (.int .i64 0) (.int .i64 (statB 20)) (.slice dA dl dc))) := Lib.hid ⟨HK9.out.set8 .., Fr.set8 (S := fun k => k = g0 + 1) (Fr.refl _ _) (fun _ => rfl) ..⟩
    go_wp2
    change bodyPost _ _ _ _ _ (set8 w9 (g0 + 1) (.int .i64 7) (.int .i64 0) (.int .i64 0) (.int .i64 0) (.int .i64 0) (.int .i64 0) (.int .i64 (statB 20)) (.slice dA dl dc))
    generalize set8 w9 (g0 + 1) (.int .i64 7) (.int .i64 0) (.int .i64 0) (.int .i64 0) (.int .i64 0) (.int .i64 0) (.int .i64 (statB 20)) (.slice dA dl dc) = W5 at *
    refine bodyPost_ret (resOu (p := 4) rfl _ _ (g0 + 1) _ _ _ _ _ _ _ _ rfl GG.out.1) rfl ?_
    rw [HOU.out]
    have hlw : w.heap.size ≤ W.heap.size := HFW.out.size
    exact OutR.cl HDL.out (HQ8.out.fr GG.out.2 (fun k hk e => HQ8.out.ne HK9.out (by decide) (e ▸ hk))) (fun k hk => by have := HR9.out k hk; omega) ((HFW.out.trans HF9.out (fun _ _ h => h)).trans GG.out.2 (fun x hx e => by have e' : x = g0 + 1 := e; have := HG0.out; omega))
  by_cases hk21 : k = 21
  · subst hk21
    have hou : s.out ⟨21, a, r, i, l, m, d⟩ = ⟨7, 0, 0, 0, 0, 0, statB 21, d⟩ := by unfold FS.out; simp [HLL.out]
    have HOU := Lib.hid hou
    clear hou
    have z0 : W.cell? ⟨g0 + 1, 0, none⟩ = some (.int .i64 0) := KO.out.cell 0
    have f0 : W.frozen? ⟨g0 + 1, 0, none⟩ = false := KO.out.frozen 0
    have z1 : W.cell? ⟨g0 + 1, 1, none⟩ = some (.int .i64 0) := KO.out.cell 1
    have f1 : W.frozen? ⟨g0 + 1, 1, none⟩ = false := KO.out.frozen 1
    have z2 : W.cell? ⟨g0 + 1, 2, none⟩ = some (.int .i64 0) := KO.out.cell 2
    have f2 : W.frozen? ⟨g0 + 1, 2, none⟩ = false := KO.out.frozen 2
    have z3 : W.cell? ⟨g0 + 1, 3, none⟩ = some (.int .i64 0) := KO.out.cell 3
    have f3 : W.frozen? ⟨g0 + 1, 3, none⟩ = false := KO.out.frozen 3
    have z4 : W.cell? ⟨g0 + 1, 4, none⟩ = some (.int .i64 0) := KO.out.cell 4
    have f4 : W.frozen? ⟨g0 + 1, 4, none⟩ = false := KO.out.frozen 4
    have z5 : W.cell? ⟨g0 + 1, 5, none⟩ = some (.int .i64 0) := KO.out.cell 5
    have f5 : W.frozen? ⟨g0 + 1, 5, none⟩ = false := KO.out.frozen 5
    have z6 : W.cell? ⟨g0 + 1, 6, none⟩ = some (.int .i64 0) := KO.out.cell 6
    have f6 : W.frozen? ⟨g0 + 1, 6, none⟩ = false := KO.out.frozen 6
    have z7 : W.cell? ⟨g0 + 1, 7, none⟩ = some (.slice none 0 0) := KO.out.cell 7
    have f7 : W.frozen? ⟨g0 + 1, 7, none⟩ = false := KO.out.frozen 7
    have e1 : W.cell? ⟨g0, 1, none⟩ = some (.int .i64 a) := KW.out.cell 1
    have e2 : W.cell? ⟨g0, 2, none⟩ = some (.int .i64 r) := KW.out.cell 2
    have e3 : W.cell? ⟨g0, 3, none⟩ = some (.int .i64 i) := KW.out.cell 3
    have e4 : W.cell? ⟨g0, 4, none⟩ = some (.int .i64 l) := KW.out.cell 4
    have e5 : W.cell? ⟨g0, 5, none⟩ = some (.int .i64 m) := KW.out.cell 5
    have e6 : W.cell? ⟨g0, 6, none⟩ = some (.slice pA dl pc) := KW.out.cell 6
    go_enter Tryd.func75, Tryd.ntmps75
    go_wp2_with fail
    clear hW hg0 kk y2 hs1 e1 e2 e3 e4 e5 e6 z0 f0 z1 f1 z2 f2 z3 f3 z4 f4 z5 f5 z6 f6 z7 f7
    refine wp_region_Z [7] ((fun w' => Fr (fun _ => False) W w')) (by kernel_rfl) ((Fr.refl _ _).drew) (fun hHeld => ?_)
    refine anyZ_read (i := 0) (v := ?_) (some 97) [1, 2, 5, 6, 7] rfl rfl (by kernel_rfl) (by kernel_rfl) (by kernel_rfl) (by kernel_rfl) (by kernel_rfl) (by kernel_rfl) (fun _ _ _ h => h) (Or.inl ⟨by rfl, ?_⟩) hHeld ?_
    rotate_left
    · intro w' hSw
      have ke := KW.out.fr hSw (fun h => h); have k0 := ke.cell 0; have k1 := ke.cell 1; have k2 := ke.cell 2; have k3 := ke.cell 3; have k4 := ke.cell 4; have k5 := ke.cell 5; have k6 := ke.cell 6; simp only [List.getElem?_toArray, List.getElem?_cons_zero, List.getElem?_cons_succ] at k0 k1 k2 k3 k4 k5 k6
      go_simp
      first | done | with_reducible rfl
    try simp only [Act.put, List.setIfInBounds_toArray, List.set_cons_zero, List.set_cons_succ]
    refine anyZ_pure (i := 3) (v := ?_) (some 100) rfl rfl (by kernel_rfl) (by kernel_rfl) (by kernel_rfl) (by kernel_rfl) (fun _ _ _ h => h) (Or.inl ⟨by rfl, ?_⟩) (fun _ => hHeld) ?_
    rotate_left
    · intro w' _
      go_simp
      first | done | with_reducible rfl
    try simp only [Act.put, List.setIfInBounds_toArray, List.set_cons_zero, List.set_cons_succ]
    refine anyZ_read (i := 4) (v := ?_) (some 101) [5, 6, 7] rfl rfl (by kernel_rfl) (by kernel_rfl) (by kernel_rfl) (by kernel_rfl) (by kernel_rfl) (by kernel_rfl) (fun _ _ _ h => h) (Or.inl ⟨by rfl, ?_⟩) hHeld ?_
    rotate_left
    · intro w' hSw
      have ke := KW.out.fr hSw (fun h => h); have k0 := ke.cell 0; have k1 := ke.cell 1; have k2 := ke.cell 2; have k3 := ke.cell 3; have k4 := ke.cell 4; have k5 := ke.cell 5; have k6 := ke.cell 6; simp only [List.getElem?_toArray, List.getElem?_cons_zero, List.getElem?_cons_succ] at k0 k1 k2 k3 k4 k5 k6
      go_simp
      first | done | with_reducible rfl
    try simp only [Act.put, List.setIfInBounds_toArray, List.set_cons_zero, List.set_cons_succ]
    refine anyZ_ready (rs := [1]) (by kernel_rfl) (by simp) ?_
    refine AllZ.step rfl (fun K hK => ?_) AllZ.nil
    go_simp
    have HKB : Hid (Bk (W.alloc (.cells #[.int .i64 21, .int .i64 a, .int .i64 r, .int .i64 i, .int .i64 l, .int .i64 m, .slice pA dl pc] 75)).drew W.heap.size 75 #[.int .i64 21, .int .i64 a, .int .i64 r, .int .i64 i, .int .i64 l, .int .i64 m, .slice pA dl pc]) := Lib.hid ((Bk.new _ _ _).drew)
    refine hK.out _ _ (hHeld.alloc _) (fun hHeld => ?_)
    clear hK K
    try change anyZ _ _ _ _ _ _ _ _ (Act.put _ (some 98) _) _
    try simp only [Act.put, List.setIfInBounds_toArray, List.set_cons_zero, List.set_cons_succ]
    refine anyZ_ready (rs := [2]) (by kernel_rfl) (by simp) ?_
    refine AllZ.step rfl (fun K hK => ?_) AllZ.nil
    go_simp
    refine (HST.out _ _ hHeld HKB.out).mono ?_; rintro e w8 ⟨rfl, rfl⟩
    try go_simp
    refine hK.out _ _ (hHeld) (fun hHeld => ?_)
    clear hK K
    try change anyZ _ _ _ _ _ _ _ _ (Act.put _ (some 99) _) _
    try simp only [Act.put, List.setIfInBounds_toArray, List.set_cons_zero, List.set_cons_succ]
    refine anyZ_ready (rs := [5]) (by kernel_rfl) (by simp) ?_
    refine AllZ.step rfl (fun K hK => ?_) AllZ.nil
    go_simp
    refine (HCL.out _ hHeld).mono ?_; rintro e w9 ⟨dA, dc, rfl, ho9, hf9, hn9⟩
    have HQ9 := Lib.hid ho9
    have HR9 : Hid (∀ k, (Value.slice dA dl dc).ownBlock = some k → W.heap.size ≤ k) := Lib.hid (fun k hk => Nat.le_trans hHeld.size (hn9 k hk))
    try go_simp
    refine hK.out _ _ (hHeld.trans hf9 (fun _ _ h => h)) (fun hHeld => ?_)
    clear hK K
    try change anyZ _ _ _ _ _ _ _ _ (Act.put _ (some 102) _) _
    try simp only [Act.put, List.setIfInBounds_toArray, List.set_cons_zero, List.set_cons_succ]
    refine anyZ_pure (i := 6) (v := ?_) (some 103) rfl rfl (by kernel_rfl) (by kernel_rfl) (by kernel_rfl) (by kernel_rfl) (fun _ _ _ h => h) (Or.inl ⟨by rfl, ?_⟩) (fun _ => hHeld) ?_
    rotate_left
    · intro w' _
      go_simp
      first | done | with_reducible rfl
    try simp only [Act.put, List.setIfInBounds_toArray, List.set_cons_zero, List.set_cons_succ]
    refine anyZ_ready (rs := [7]) (by kernel_rfl) (by simp) ?_
    refine AllZ.last rfl (by kernel_rfl) (fun K hK => ?_) AllZ.nil
    have HF9 := Lib.hid hHeld
    have HK9 := Lib.hid (KO.out.fr HF9.out (fun h => h))
    have z0 := HK9.out.cell 0
    have z1 := HK9.out.cell 1
    have z2 := HK9.out.cell 2
    have z3 := HK9.out.cell 3
    have z4 := HK9.out.cell 4
    have z5 := HK9.out.cell 5
    have z6 := HK9.out.cell 6
    have z7 := HK9.out.cell 7
    have f0 := HK9.out.frozen 0
    have f1 := HK9.out.frozen 1
    have f2 := HK9.out.frozen 2
    have f3 := HK9.out.frozen 3
    have f4 := HK9.out.frozen 4
    have f5 := HK9.out.frozen 5
    have f6 := HK9.out.frozen 6
    have f7 := HK9.out.frozen 7
    simp only [List.getElem?_toArray, List.getElem?_cons_zero, List.getElem?_cons_succ] at z0 z1 z2 z3 z4 z5 z6 z7
    go_simp
    refine hK.out _ _ ?_
    clear hK K
    try change anyZ _ _ _ _ _ _ _ _ (Act.put _ none _) _
    try simp only [Act.put, List.setIfInBounds_toArray, List.set_cons_zero, List.set_cons_succ]
    refine anyZ_done (by kernel_rfl) ?_ _
    have HQ8 := HQ9
    have GG : Hid (Bk (set8 w9 (g0 + 1) (.int .i64 7) (.int .i64 0) (.int .i64 0) (.int .i64 0) (.int .i64 0) (.int .i64 0) (.int .i64 (statB 21)) (.slice dA dl dc)) (g0 + 1) 50 #[.int .i64 7, .int .i64 0, .int .i64 0, .int .i64 0, .int .i64 0, .int .i64 0, .int .i64 (statB 21), .slice dA dl dc] ∧ Fr (fun k => k = g0 + 1) w9 (set8 w9 (g0 + 1) (.int .i64 7) (.int .i64 0) (.int .i64 0) (.int .i64 0) (.int .i64 0) (.int .i64 0) (.int .i64 (statB 21)) (.slice dA dl dc))) := Lib.hid ⟨HK9.out.set8 .., Fr.set8 (S := fun k => k = g0 + 1) (Fr.refl _ _) (fun _ => rfl) ..⟩
    go_wp2
    change bodyPost _ _ _ _ _ (set8 w9 (g0 + 1) (.int .i64 7) (.int .i64 0) (.int .i64 0) (.int .i64 0) (.int .i64 0) (.int .i64 0) (.int .i64 (statB 21)) (.slice dA dl dc))
    generalize set8 w9 (g0 + 1) (.int .i64 7) (.int .i64 0) (.int .i64 0) (.int .i64 0) (.int .i64 0) (.int .i64 0) (.int .i64 (statB 21)) (.slice dA dl dc) = W5 at *
    refine bodyPost_ret (resOu (p := 4) rfl _ _ (g0 + 1) _ _ _ _ _ _ _ _ rfl GG.out.1) rfl ?_
    rw [HOU.out]
    have hlw : w.heap.size ≤ W.heap.size := HFW.out.size
    exact OutR.cl HDL.out (HQ8.out.fr GG.out.2 (fun k hk e => HQ8.out.ne HK9.out (by decide) (e ▸ hk))) (fun k hk => by have := HR9.out k hk; omega) ((HFW.out.trans HF9.out (fun _ _ h => h)).trans GG.out.2 (fun x hx e => by have e' : x = g0 + 1 := e; have := HG0.out; omega))
  by_cases hk22 : k = 22
  · subst hk22
    have hou : s.out ⟨22, a, r, i, l, m, d⟩ = ⟨7, 0, 0, 0, 0, 0, statB 22, d⟩ := by unfold FS.out; simp [HLL.out]
    have HOU := Lib.hid hou
    clear hou
    have z0 : W.cell? ⟨g0 + 1, 0, none⟩ = some (.int .i64 0) := KO.out.cell 0
    have f0 : W.frozen? ⟨g0 + 1, 0, none⟩ = false := KO.out.frozen 0
    have z1 : W.cell? ⟨g0 + 1, 1, none⟩ = some (.int .i64 0) := KO.out.cell 1
    have f1 : W.frozen? ⟨g0 + 1, 1, none⟩ = false := KO.out.frozen 1
    have z2 : W.cell? ⟨g0 + 1, 2, none⟩ = some (.int .i64 0) := KO.out.cell 2
    have f2 : W.frozen? ⟨g0 + 1, 2, none⟩ = false := KO.out.frozen 2
    have z3 : W.cell? ⟨g0 + 1, 3, none⟩ = some (.int .i64 0) := KO.out.cell 3
    have f3 : W.frozen? ⟨g0 + 1, 3, none⟩ = false := KO.out.frozen 3
    have z4 : W.cell? ⟨g0 + 1, 4, none⟩ = some (.int .i64 0) := KO.out.cell 4
    have f4 : W.frozen? ⟨g0 + 1, 4, none⟩ = false := KO.out.frozen 4
    have z5 : W.cell? ⟨g0 + 1, 5, none⟩ = some (.int .i64 0) := KO.out.cell 5
    have f5 : W.frozen? ⟨g0 + 1, 5, none⟩ = false := KO.out.frozen 5
    have z6 : W.cell? ⟨g0 + 1, 6, none⟩ = some (.int .i64 0) := KO.out.cell 6
    have f6 : W.frozen? ⟨g0 + 1, 6, none⟩ = false := KO.out.frozen 6
    have z7 : W.cell? ⟨g0 + 1, 7, none⟩ = some (.slice none 0 0) := KO.out.cell 7
    have f7 : W.frozen? ⟨g0 + 1, 7, none⟩ = false := KO.out.frozen 7
    have e1 : W.cell? ⟨g0, 1, none⟩ = some (.int .i64 a) := KW.out.cell 1
    have e2 : W.cell? ⟨g0, 2, none⟩ = some (.int .i64 r) := KW.out.cell 2
    have e3 : W.cell? ⟨g0, 3, none⟩ = some (.int .i64 i) := KW.out.cell 3
    have e4 : W.cell? ⟨g0, 4, none⟩ = some (.int .i64 l) := KW.out.cell 4
    have e5 : W.cell? ⟨g0, 5, none⟩ = some (.int .i64 m) := KW.out.cell 5
    have e6 : W.cell? ⟨g0, 6, none⟩ = some (.slice pA dl pc) := KW.out.cell 6
    go_enter Tryd.func75, Tryd.ntmps75
    go_wp2_with fail
    clear hW hg0 kk y2 hs1 e1 e2 e3 e4 e5 e6 z0 f0 z1 f1 z2 f2 z3 f3 z4 f4 z5 f5 z6 f6 z7 f7
    refine wp_region_Z [7] ((fun w' => Fr (fun _ => False) W w')) (by kernel_rfl) ((Fr.refl _ _).drew) (fun hHeld => ?_)
    refine anyZ_read (i := 0) (v := ?_) (some 97) [1, 2, 5, 6, 7] rfl rfl (by kernel_rfl) (by kernel_rfl) (by kernel_rfl) (by kernel_rfl) (by kernel_rfl) (by kernel_rfl) (fun _ _ _ h => h) (Or.inl ⟨by rfl, ?_⟩) hHeld ?_
    rotate_left
    · intro w' hSw
      have ke := KW.out.fr hSw (fun h => h); have k0 := ke.cell 0; have k1 := ke.cell 1; have k2 := ke.cell 2; have k3 := ke.cell 3; have k4 := ke.cell 4; have k5 := ke.cell 5; have k6 := ke.cell 6; simp only [List.getElem?_toArray, List.getElem?_cons_zero, List.getElem?_cons_succ] at k0 k1 k2 k3 k4 k5 k6
      go_simp
      first | done | with_reducible rfl
    try simp only [Act.put, List.setIfInBounds_toArray, List.set_cons_zero, List.set_cons_succ]
    refine anyZ_pure (i := 3) (v := ?_) (some 100) rfl rfl (by kernel_rfl) (by kernel_rfl) (by kernel_rfl) (by kernel_rfl) (fun _ _ _ h => h) (Or.inl ⟨by rfl, ?_⟩) (fun _ => hHeld) ?_
    rotate_left
    · intro w' _
      go_simp
      first | done | with_reducible rfl
    try simp only [Act.put, List.setIfInBounds_toArray, List.set_cons_zero, List.set_cons_succ]
    refine anyZ_read (i := 4) (v := ?_) (some 101) [5, 6, 7] rfl rfl (by kernel_rfl) (by kernel_rfl) (by kernel_rfl) (by kernel_rfl) (by kernel_rfl) (by kernel_rfl) (fun _ _ _ h => h) (Or.inl ⟨by rfl, ?_⟩) hHeld ?_
    rotate_left
    · intro w' hSw
      have ke := KW.out.fr hSw (fun h => h); have k0 := ke.cell 0; have k1 := ke.cell 1; have k2 := ke.cell 2; have k3 := ke.cell 3; have k4 := ke.cell 4; have k5 := ke.cell 5; have k6 := ke.cell 6; simp only [List.getElem?_toArray, List.getElem?_cons_zero, List.getElem?_cons_succ] at k0 k1 k2 k3 k4 k5 k6
      go_simp
      first | done | with_reducible rfl
    try simp only [Act.put, List.setIfInBounds_toArray, List.set_cons_zero, List.set_cons_succ]
    refine anyZ_ready (rs := [1]) (by kernel_rfl) (by simp) ?_
    refine AllZ.step rfl (fun K hK => ?_) AllZ.nil
    go_simp
    have HKB : Hid (Bk (W.alloc (.cells #[.int .i64 22, .int .i64 a, .int .i64 r, .int .i64 i, .int .i64 l, .int .i64 m, .slice pA dl pc] 75)).drew W.heap.size 75 #[.int .i64 22, .int .i64 a, .int .i64 r, .int .i64 i, .int .i64 l, .int .i64 m, .slice pA dl pc]) := Lib.hid ((Bk.new _ _ _).drew)
    refine hK.out _ _ (hHeld.alloc _) (fun hHeld => ?_)
    clear hK K
    try change anyZ _ _ _ _ _ _ _ _ (Act.put _ (some 98) _) _
    try simp only [Act.put, List.setIfInBounds_toArray, List.set_cons_zero, List.set_cons_succ]
    refine anyZ_ready (rs := [2]) (by kernel_rfl) (by simp) ?_
    refine AllZ.step rfl (fun K hK => ?_) AllZ.nil
    go_simp
    refine (HST.out _ _ hHeld HKB.out).mono ?_; rintro e w8 ⟨rfl, rfl⟩
    try go_simp
    refine hK.out _ _ (hHeld) (fun hHeld => ?_)
    clear hK K
    try change anyZ _ _ _ _ _ _ _ _ (Act.put _ (some 99) _) _
    try simp only [Act.put, List.setIfInBounds_toArray, List.set_cons_zero, List.set_cons_succ]
    refine anyZ_ready (rs := [5]) (by kernel_rfl) (by simp) ?_
    refine AllZ.step rfl (fun K hK => ?_) AllZ.nil
    go_simp
    refine (HCL.out _ hHeld).mono ?_; rintro e w9 ⟨dA, dc, rfl, ho9, hf9, hn9⟩
    have HQ9 := Lib.hid ho9
    have HR9 : Hid (∀ k, (Value.slice dA dl dc).ownBlock = some k → W.heap.size ≤ k) := Lib.hid (fun k hk => Nat.le_trans hHeld.size (hn9 k hk))
    try go_simp
    refine hK.out _ _ (hHeld.trans hf9 (fun _ _ h => h)) (fun hHeld => ?_)
    clear hK K
    try change anyZ _ _ _ _ _ _ _ _ (Act.put _ (some 102) _) _
    try simp only [Act.put, List.setIfInBounds_toArray, List.set_cons_zero, List.set_cons_succ]
    refine anyZ_pure (i := 6) (v := ?_) (some 103) rfl rfl (by kernel_rfl) (by kernel_rfl) (by kernel_rfl) (by kernel_rfl) (fun _ _ _ h => h) (Or.inl ⟨by rfl, ?_⟩) (fun _ => hHeld) ?_
    rotate_left
    · intro w' _
      go_simp
      first | done | with_reducible rfl
    try simp only [Act.put, List.setIfInBounds_toArray, List.set_cons_zero, List.set_cons_succ]
    refine anyZ_ready (rs := [7]) (by kernel_rfl) (by simp) ?_
    refine AllZ.last rfl (by kernel_rfl) (fun K hK => ?_) AllZ.nil
    have HF9 := Lib.hid hHeld
    have HK9 := Lib.hid (KO.out.fr HF9.out (fun h => h))
    have z0 := HK9.out.cell 0
    have z1 := HK9.out.cell 1
    have z2 := HK9.out.cell 2
    have z3 := HK9.out.cell 3
    have z4 := HK9.out.cell 4
    have z5 := HK9.out.cell 5
    have z6 := HK9.out.cell 6
    have z7 := HK9.out.cell 7
    have f0 := HK9.out.frozen 0
    have f1 := HK9.out.frozen 1
    have f2 := HK9.out.frozen 2
    have f3 := HK9.out.frozen 3
    have f4 := HK9.out.frozen 4
    have f5 := HK9.out.frozen 5
    have f6 := HK9.out.frozen 6
    have f7 := HK9.out.frozen 7
    simp only [List.getElem?_toArray, List.getElem?_cons_zero, List.getElem?_cons_succ] at z0 z1 z2 z3 z4 z5 z6 z7
    go_simp
    refine hK.out _ _ ?_
    clear hK K
    try change anyZ _ _ _ _ _ _ _ _ (Act.put _ none _) _
    try simp only [Act.put, List.setIfInBounds_toArray, List.set_cons_zero, List.set_cons_succ]
    refine anyZ_done (by kernel_rfl) ?_ _
    have HQ8 := HQ9
    have GG : Hid (Bk (set8 w9 (g0 + 1) (.int .i64 7) (.int .i64 0) (.int .i64 0) (.int .i64 0) (.int .i64 0) (.int .i64 0) (.int .i64 (statB 22)) (.slice dA dl dc)) (g0 + 1) 50 #[.int .i64 7, .int .i64 0, .int .i64 0, .int .i64 0, .int .i64 0, .int .i64 0, .int .i64 (statB 22), .slice dA dl dc] ∧ Fr (fun k => k = g0 + 1) w9 (set8 w9 (g0 + 1) (.int .i64 7) (.int .i64 0) (.int .i64 0) (.int .i64 0) (.int .i64 0) (.int .i64 0) (.int .i64 (statB 22)) (.slice dA dl dc))) := Lib.hid ⟨HK9.out.set8 .., Fr.set8 (S := fun k => k = g0 + 1) (Fr.refl _ _) (fun _ => rfl) ..⟩
    go_wp2
    change bodyPost _ _ _ _ _ (set8 w9 (g0 + 1) (.int .i64 7) (.int .i64 0) (.int .i64 0) (.int .i64 0) (.int .i64 0) (.int .i64 0) (.int .i64 (statB 22)) (.slice dA dl dc))
    generalize set8 w9 (g0 + 1) (.int .i64 7) (.int .i64 0) (.int .i64 0) (.int .i64 0) (.int .i64 0) (.int .i64 0) (.int .i64 (statB 22)) (.slice dA dl dc) = W5 at *
    refine bodyPost_ret (resOu (p := 4) rfl _ _ (g0 + 1) _ _ _ _ _ _ _ _ rfl GG.out.1) rfl ?_
    rw [HOU.out]
    have hlw : w.heap.size ≤ W.heap.size := HFW.out.size
    exact OutR.cl HDL.out (HQ8.out.fr GG.out.2 (fun k hk e => HQ8.out.ne HK9.out (by decide) (e ▸ hk))) (fun k hk => by have := HR9.out k hk; omega) ((HFW.out.trans HF9.out (fun _ _ h => h)).trans GG.out.2 (fun x hx e => by have e' : x = g0 + 1 := e; have := HG0.out; omega))
  by_cases hk23 : k = 23
  · subst hk23
    have hou : s.out ⟨23, a, r, i, l, m, d⟩ = ⟨7, 0, 0, 0, 0, 0, statB 23, d⟩ := by unfold FS.out; simp [HLL.out]
    have HOU := Lib.hid hou
    clear hou
    have z0 : W.cell? ⟨g0 + 1, 0, none⟩ = some (.int .i64 0) := KO.out.cell 0
    have f0 : W.frozen? ⟨g0 + 1, 0, none⟩ = false := KO.out.frozen 0
    have z1 : W.cell? ⟨g0 + 1, 1, none⟩ = some (.int .i64 0) := KO.out.cell 1
    have f1 : W.frozen? ⟨g0 + 1, 1, none⟩ = false := KO.out.frozen 1
    have z2 : W.cell? ⟨g0 + 1, 2, none⟩ = some (.int .i64 0) := KO.out.cell 2
    have f2 : W.frozen? ⟨g0 + 1, 2, none⟩ = false := KO.out.frozen 2
    have z3 : W.cell? ⟨g0 + 1, 3, none⟩ = some (.int .i64 0) := KO.out.cell 3
    have f3 : W.frozen? ⟨g0 + 1, 3, none⟩ = false := KO.out.frozen 3
    have z4 : W.cell? ⟨g0 + 1, 4, none⟩ = some (.int .i64 0) := KO.out.cell 4
    have f4 : W.frozen? ⟨g0 + 1, 4, none⟩ = false := KO.out.frozen 4
    have z5 : W.cell? ⟨g0 + 1, 5, none⟩ = some (.int .i64 0) := KO.out.cell 5
    have f5 : W.frozen? ⟨g0 + 1, 5, none⟩ = false := KO.out.frozen 5
    have z6 : W.cell? ⟨g0 + 1, 6, none⟩ = some (.int .i64 0) := KO.out.cell 6
    have f6 : W.frozen? ⟨g0 + 1, 6, none⟩ = false := KO.out.frozen 6
    have z7 : W.cell? ⟨g0 + 1, 7, none⟩ = some (.slice none 0 0) := KO.out.cell 7
    have f7 : W.frozen? ⟨g0 + 1, 7, none⟩ = false := KO.out.frozen 7
    have e1 : W.cell? ⟨g0, 1, none⟩ = some (.int .i64 a) := KW.out.cell 1
    have e2 : W.cell? ⟨g0, 2, none⟩ = some (.int .i64 r) := KW.out.cell 2
    have e3 : W.cell? ⟨g0, 3, none⟩ = some (.int .i64 i) := KW.out.cell 3
    have e4 : W.cell? ⟨g0, 4, none⟩ = some (.int .i64 l) := KW.out.cell 4
    have e5 : W.cell? ⟨g0, 5, none⟩ = some (.int .i64 m) := KW.out.cell 5
    have e6 : W.cell? ⟨g0, 6, none⟩ = some (.slice pA dl pc) := KW.out.cell 6
    go_enter Tryd.func75, Tryd.ntmps75
    go_wp2_with fail
    clear hW hg0 kk y2 hs1 e1 e2 e3 e4 e5 e6 z0 f0 z1 f1 z2 f2 z3 f3 z4 f4 z5 f5 z6 f6 z7 f7
    refine wp_region_Z [7] ((fun w' => Fr (fun _ => False) W w')) (by kernel_rfl) ((Fr.refl _ _).drew) (fun hHeld => ?_)
    refine anyZ_read (i := 0) (v := ?_) (some 97) [1, 2, 5, 6, 7] rfl rfl (by kernel_rfl) (by kernel_rfl) (by kernel_rfl) (by kernel_rfl) (by kernel_rfl) (by kernel_rfl) (fun _ _ _ h => h) (Or.inl ⟨by rfl, ?_⟩) hHeld ?_
    rotate_left
    · intro w' hSw
      have ke := KW.out.fr hSw (fun h => h); have k0 := ke.cell 0; have k1 := ke.cell 1; have k2 := ke.cell 2; have k3 := ke.cell 3; have k4 := ke.cell 4; have k5 := ke.cell 5; have k6 := ke.cell 6; simp only [List.getElem?_toArray, List.getElem?_cons_zero, List.getElem?_cons_succ] at k0 k1 k2 k3 k4 k5 k6
      go_simp
      first | done | with_reducible rfl
    try simp only [Act.put, List.setIfInBounds_toArray, List.set_cons_zero, List.set_cons_succ]
    refine anyZ_pure (i := 3) (v := ?_) (some 100) rfl rfl (by kernel_rfl) (by kernel_rfl) (by kernel_rfl) (by kernel_rfl) (fun _ _ _ h => h) (Or.inl ⟨by rfl, ?_⟩) (fun _ => hHeld) ?_
    rotate_left
    · intro w' _
      go_simp
      first | done | with_reducible rfl
    try simp only [Act.put, List.setIfInBounds_toArray, List.set_cons_zero, List.set_cons_succ]
    refine anyZ_read (i := 4) (v := ?_) (some 101) [5, 6, 7] rfl rfl (by kernel_rfl) (by kernel_rfl) (by kernel_rfl) (by kernel_rfl) (by kernel_rfl) (by kernel_rfl) (fun _ _ _ h => h) (Or.inl ⟨by rfl, ?_⟩) hHeld ?_
    rotate_left
    · intro w' hSw
      have ke := KW.out.fr hSw (fun h => h); have k0 := ke.cell 0; have k1 := ke.cell 1; have k2 := ke.cell 2; have k3 := ke.cell 3; have k4 := ke.cell 4; have k5 := ke.cell 5; have k6 := ke.cell 6; simp only [List.getElem?_toArray, List.getElem?_cons_zero, List.getElem?_cons_succ] at k0 k1 k2 k3 k4 k5 k6
      go_simp
      first | done | with_reducible rfl
    try simp only [Act.put, List.setIfInBounds_toArray, List.set_cons_zero, List.set_cons_succ]
    refine anyZ_ready (rs := [1]) (by kernel_rfl) (by simp) ?_
    refine AllZ.step rfl (fun K hK => ?_) AllZ.nil
    go_simp
    have HKB : Hid (Bk (W.alloc (.cells #[.int .i64 23, .int .i64 a, .int .i64 r, .int .i64 i, .int .i64 l, .int .i64 m, .slice pA dl pc] 75)).drew W.heap.size 75 #[.int .i64 23, .int .i64 a, .int .i64 r, .int .i64 i, .int .i64 l, .int .i64 m, .slice pA dl pc]) := Lib.hid ((Bk.new _ _ _).drew)
    refine hK.out _ _ (hHeld.alloc _) (fun hHeld => ?_)
    clear hK K
    try change anyZ _ _ _ _ _ _ _ _ (Act.put _ (some 98) _) _
    try simp only [Act.put, List.setIfInBounds_toArray, List.set_cons_zero, List.set_cons_succ]
    refine anyZ_ready (rs := [2]) (by kernel_rfl) (by simp) ?_
    refine AllZ.step rfl (fun K hK => ?_) AllZ.nil
    go_simp
    refine (HST.out _ _ hHeld HKB.out).mono ?_; rintro e w8 ⟨rfl, rfl⟩
    try go_simp
    refine hK.out _ _ (hHeld) (fun hHeld => ?_)
    clear hK K
    try change anyZ _ _ _ _ _ _ _ _ (Act.put _ (some 99) _) _
    try simp only [Act.put, List.setIfInBounds_toArray, List.set_cons_zero, List.set_cons_succ]
    refine anyZ_ready (rs := [5]) (by kernel_rfl) (by simp) ?_
    refine AllZ.step rfl (fun K hK => ?_) AllZ.nil
    go_simp
    refine (HCL.out _ hHeld).mono ?_; rintro e w9 ⟨dA, dc, rfl, ho9, hf9, hn9⟩
    have HQ9 := Lib.hid ho9
    have HR9 : Hid (∀ k, (Value.slice dA dl dc).ownBlock = some k → W.heap.size ≤ k) := Lib.hid (fun k hk => Nat.le_trans hHeld.size (hn9 k hk))
    try go_simp
    refine hK.out _ _ (hHeld.trans hf9 (fun _ _ h => h)) (fun hHeld => ?_)
    clear hK K
    try change anyZ _ _ _ _ _ _ _ _ (Act.put _ (some 102) _) _
    try simp only [Act.put, List.setIfInBounds_toArray, List.set_cons_zero, List.set_cons_succ]
    refine anyZ_pure (i := 6) (v := ?_) (some 103) rfl rfl (by kernel_rfl) (by kernel_rfl) (by kernel_rfl) (by kernel_rfl) (fun _ _ _ h => h) (Or.inl ⟨by rfl, ?_⟩) (fun _ => hHeld) ?_
    rotate_left
    · intro w' _
      go_simp
      first | done | with_reducible rfl
    try simp only [Act.put, List.setIfInBounds_toArray, List.set_cons_zero, List.set_cons_succ]
    refine anyZ_ready (rs := [7]) (by kernel_rfl) (by simp) ?_
    refine AllZ.last rfl (by kernel_rfl) (fun K hK => ?_) AllZ.nil
    have HF9 := Lib.hid hHeld
    have HK9 := Lib.hid (KO.out.fr HF9.out (fun h => h))
    have z0 := HK9.out.cell 0
    have z1 := HK9.out.cell 1
    have z2 := HK9.out.cell 2
    have z3 := HK9.out.cell 3
    have z4 := HK9.out.cell 4
    have z5 := HK9.out.cell 5
    have z6 := HK9.out.cell 6
    have z7 := HK9.out.cell 7
    have f0 := HK9.out.frozen 0
    have f1 := HK9.out.frozen 1
    have f2 := HK9.out.frozen 2
    have f3 := HK9.out.frozen 3
    have f4 := HK9.out.frozen 4
    have f5 := HK9.out.frozen 5
    have f6 := HK9.out.frozen 6
    have f7 := HK9.out.frozen 7
    simp only [List.getElem?_toArray, List.getElem?_cons_zero, List.getElem?_cons_succ] at z0 z1 z2 z3 z4 z5 z6 z7
    go_simp
    refine hK.out _ _ ?_
    clear hK K
    try change anyZ _ _ _ _ _ _ _ _ (Act.put _ none _) _
    try simp only [Act.put, List.setIfInBounds_toArray, List.set_cons_zero, List.set_cons_succ]
    refine anyZ_done (by kernel_rfl) ?_ _
    have HQ8 := HQ9
    have GG : Hid (Bk (set8 w9 (g0 + 1) (.int .i64 7) (.int .i64 0) (.int .i64 0) (.int .i64 0) (.int .i64 0) (.int .i64 0) (.int .i64 (statB 23)) (.slice dA dl dc)) (g0 + 1) 50 #[.int .i64 7, .int .i64 0, .int .i64 0, .int .i64 0, .int .i64 0, .int .i64 0, .int .i64 (statB 23), .slice dA dl dc] ∧ Fr (fun k => k = g0 + 1) w9 (set8 w9 (g0 + 1) (.int .i64 7) (.int .i64 0) (.int .i64 0) (.int .i64 0) (.int .i64 0) (.int .i64 0) (.int .i64 (statB 23)) (.slice dA dl dc))) := Lib.hid ⟨HK9.out.set8 .., Fr.set8 (S := fun k => k = g0 + 1) (Fr.refl _ _) (fun _ => rfl) ..⟩
    go_wp2
    change bodyPost _ _ _ _ _ (set8 w9 (g0 + 1) (.int .i64 7) (.int .i64 0) (.int .i64 0) (.int .i64 0) (.int .i64 0) (.int .i64 0) (.int .i64 (statB 23)) (.slice dA dl dc))
    generalize set8 w9 (g0 + 1) (.int .i64 7) (.int .i64 0) (.int .i64 0) (.int .i64 0) (.int .i64 0) (.int .i64 0) (.int .i64 (statB 23)) (.slice dA dl dc) = W5 at *
    refine bodyPost_ret (resOu (p := 4) rfl _ _ (g0 + 1) _ _ _ _ _ _ _ _ rfl GG.out.1) rfl ?_
    rw [HOU.out]
    have hlw : w.heap.size ≤ W.heap.size := HFW.out.size
    exact OutR.cl HDL.out (HQ8.out.fr GG.out.2 (fun k hk e => HQ8.out.ne HK9.out (by decide) (e ▸ hk))) (fun k hk => by have := HR9.out k hk; omega) ((HFW.out.trans HF9.out (fun _ _ h => h)).trans GG.out.2 (fun x hx e => by have e' : x = g0 + 1 := e; have := HG0.out; omega))
  have hou : s.out ⟨k, a, r, i, l, m, d⟩ = ⟨0, 0, 0, 0, 0, 0, 0, []⟩ := by
    unfold FS.out
    simp only [hk2, hk3, hk7, hk8, hk12, hk17, hk19, hk20, hk21, hk22, hk23, if_false, or_self]
  have HOU := Lib.hid hou
  clear hou
  have d2 : (k == 2) = false := by simp; omega
  have d3 : (k == 3) = false := by simp; omega
  have d7 : (k == 7) = false := by simp; omega
  have d8 : (k == 8) = false := by simp; omega
  have d12 : (k == 12) = false := by simp; omega
  have d17 : (k == 17) = false := by simp; omega
  have d19 : (k == 19) = false := by simp; omega
  have d20 : (k == 20) = false := by simp; omega
  have d21 : (k == 21) = false := by simp; omega
  have d22 : (k == 22) = false := by simp; omega
  have d23 : (k == 23) = false := by simp; omega
  clear hk2 hk3 hk7 hk8 hk12 hk17 hk19 hk20 hk21 hk22 hk23
  have z0 : W.cell? ⟨g0 + 1, 0, none⟩ = some (.int .i64 0) := KO.out.cell 0
  have f0 : W.frozen? ⟨g0 + 1, 0, none⟩ = false := KO.out.frozen 0
  have z1 : W.cell? ⟨g0 + 1, 1, none⟩ = some (.int .i64 0) := KO.out.cell 1
  have f1 : W.frozen? ⟨g0 + 1, 1, none⟩ = false := KO.out.frozen 1
  have z2 : W.cell? ⟨g0 + 1, 2, none⟩ = some (.int .i64 0) := KO.out.cell 2
  have f2 : W.frozen? ⟨g0 + 1, 2, none⟩ = false := KO.out.frozen 2
  have z3 : W.cell? ⟨g0 + 1, 3, none⟩ = some (.int .i64 0) := KO.out.cell 3
  have f3 : W.frozen? ⟨g0 + 1, 3, none⟩ = false := KO.out.frozen 3
  have z4 : W.cell? ⟨g0 + 1, 4, none⟩ = some (.int .i64 0) := KO.out.cell 4
  have f4 : W.frozen? ⟨g0 + 1, 4, none⟩ = false := KO.out.frozen 4
  have z5 : W.cell? ⟨g0 + 1, 5, none⟩ = some (.int .i64 0) := KO.out.cell 5
  have f5 : W.frozen? ⟨g0 + 1, 5, none⟩ = false := KO.out.frozen 5
  have z6 : W.cell? ⟨g0 + 1, 6, none⟩ = some (.int .i64 0) := KO.out.cell 6
  have f6 : W.frozen? ⟨g0 + 1, 6, none⟩ = false := KO.out.frozen 6
  have z7 : W.cell? ⟨g0 + 1, 7, none⟩ = some (.slice none 0 0) := KO.out.cell 7
  have f7 : W.frozen? ⟨g0 + 1, 7, none⟩ = false := KO.out.frozen 7
  have e1 : W.cell? ⟨g0, 1, none⟩ = some (.int .i64 a) := KW.out.cell 1
  have e2 : W.cell? ⟨g0, 2, none⟩ = some (.int .i64 r) := KW.out.cell 2
  have e3 : W.cell? ⟨g0, 3, none⟩ = some (.int .i64 i) := KW.out.cell 3
  have e4 : W.cell? ⟨g0, 4, none⟩ = some (.int .i64 l) := KW.out.cell 4
  have e5 : W.cell? ⟨g0, 5, none⟩ = some (.int .i64 m) := KW.out.cell 5
  have e6 : W.cell? ⟨g0, 6, none⟩ = some (.slice pA dl pc) := KW.out.cell 6
  have GG : Hid (Bk (set8 W (g0 + 1) (.int .i64 0) (.int .i64 0) (.int .i64 0) (.int .i64 0) (.int .i64 0) (.int .i64 0) (.int .i64 0) (.slice none 0 0)) (g0 + 1) 50 #[.int .i64 0, .int .i64 0, .int .i64 0, .int .i64 0, .int .i64 0, .int .i64 0, .int .i64 0, .slice none 0 0] ∧ Fr (fun k => k = g0 + 1) W (set8 W (g0 + 1) (.int .i64 0) (.int .i64 0) (.int .i64 0) (.int .i64 0) (.int .i64 0) (.int .i64 0) (.int .i64 0) (.slice none 0 0))) := Lib.hid ⟨KO.out.set8 .., Fr.set8 (S := fun k => k = g0 + 1) (Fr.refl _ _) (fun _ => rfl) ..⟩
  go_enter Tryd.func75, Tryd.ntmps75
  go_wp2
  change bodyPost _ _ _ _ _ (set8 W (g0 + 1) (.int .i64 0) (.int .i64 0) (.int .i64 0) (.int .i64 0) (.int .i64 0) (.int .i64 0) (.int .i64 0) (.slice none 0 0))
  generalize set8 W (g0 + 1) (.int .i64 0) (.int .i64 0) (.int .i64 0) (.int .i64 0) (.int .i64 0) (.int .i64 0) (.int .i64 0) (.slice none 0 0) = W5 at *
  refine bodyPost_ret (resOu (p := 4) rfl _ _ (g0 + 1) _ _ _ _ _ _ _ _ rfl GG.out.1) rfl ?_
  rw [HOU.out]
  exact OutR.nil (HFW.out.trans GG.out.2 (fun x hx e => by have e' : x = g0 + 1 := e; have := HG0.out; omega))
end Go.Proofs.YtkinbcmnfpkncaaDoor
