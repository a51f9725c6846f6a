/- A call's bytes by the program. -/
import Derived.Test.YtblfnbmgijppmaaDoorKc
namespace Go.Proofs.YtblfnbmgijppmaaDoor
open Go.RowKit

/-- A writer that a function made and used; from B on anything may have turned. -/
structure CS (W0 : World) (B g : Nat) (wk : World) (v : Value) (bs : List UInt8) : Prop where
  wr : Wr wk g v bs
  nb : Nb B W0 wk
  fm : From B v
  gB : B ≤ g
  sz : B ≤ wk.heap.size
theorem CS.quiet {W0 : World} {B g : Nat} {wk w2 : World} {v : Value} {bs : List UInt8} (h : CS W0 B g wk v bs) (hf : Fr (fun _ => False) wk w2) : CS W0 B g w2 v bs :=
  ⟨⟨h.wr.1.fr hf (fun h => h), h.wr.2.fr hf (fun _ _ h => h)⟩, h.nb.add (hf.nb0 B), h.fm, h.gB, Nat.le_trans h.sz hf.size⟩
theorem CS.to {W0 : World} {B g : Nat} {wk w2 : World} {v v2 : Value} {bs b2 : List UInt8} (h : CS W0 B g wk v bs) (k : WrTo wk g v w2 v2 b2) : CS W0 B g w2 v2 b2 := by
  obtain ⟨h1, h2, h3⟩ := k.nb h.gB h.fm h.sz
  exact ⟨k.1, h.nb.add h1, h2, h.gB, h3⟩
theorem CS.ints {W0 : World} {B g : Nat} {wk : World} {v : Value} {bs : List UInt8} (h : CS W0 B g wk v bs) (l : List Int) (n : Nat) (cs : Array Value) (hcs : cs = (l.map fun a => Value.int .i64 a).toArray) (hn : l.length = n) (hn8 : n ≤ 8) (hok : ∀ a ∈ l, okI a) (hb : bs.length ≤ 70368744177000) :
    Calls Tryd.prog 22 #[.pointer (some ⟨g, 0, none⟩), .slice (some ⟨wk.heap.size, 0, none⟩) n n] (wk.alloc (.cells cs 3)) fun e w' => e = .returned (.tuple #[]) ∧ ∃ v', CS W0 B g w' v' (bs ++ l.flatMap eI) ∧ Fr (fun k => k = g ∨ v.ownBlock = some k) wk w' := by
  have hq : Fr (fun _ => False) wk (wk.alloc (.cells cs 3)) := (Fr.refl _ _).alloc _
  have h1 := h.quiet hq
  have hgl := h.wr.1.lt
  have hb1 := Bk.new wk 3 cs
  refine (ints_any g v bs wk.heap.size n l n _ h1.wr (fun j hj => ?_) hn hn8 hok hb hb1.lt (by omega) (fun e => by have := h.wr.2.lt e; omega)).mono ?_
  · rw [hb1.cell j, hcs]; simp [hj]
  · rintro e w' ⟨rfl, v', k⟩
    exact ⟨rfl, v', h1.to k, (hq.mono (fun _ _ h => h.elim)).trans k.2.1 (fun _ _ h => h)⟩
theorem CS.ints4 {W0 : World} {B g : Nat} {wk : World} {v : Value} {bs : List UInt8} (h : CS W0 B g wk v bs) (a b c d : Int) (ha : okI a) (hb : okI b) (hc : okI c) (hd : okI d) (hl : bs.length ≤ 70368744177000) :
    Calls Tryd.prog 22 #[.pointer (some ⟨g, 0, none⟩), .slice (some ⟨wk.heap.size, 0, none⟩) 4 4] (wk.alloc (.cells #[.int .i64 a, .int .i64 b, .int .i64 c, .int .i64 d] 3)) fun e w' => e = .returned (.tuple #[]) ∧ ∃ v', CS W0 B g w' v' (bs ++ (eI a ++ (eI b ++ (eI c ++ eI d)))) ∧ Fr (fun k => k = g ∨ v.ownBlock = some k) wk w' := by
  have := h.ints [a, b, c, d] 4 _ rfl rfl (by omega) (fun x hx => by simp at hx; rcases hx with rfl | rfl | rfl | rfl <;> assumption) hl
  simpa using this
theorem CS.ints1 {W0 : World} {B g : Nat} {wk : World} {v : Value} {bs : List UInt8} (h : CS W0 B g wk v bs) (a : Int) (ha : okI a) (hl : bs.length ≤ 70368744177000) :
    Calls Tryd.prog 22 #[.pointer (some ⟨g, 0, none⟩), .slice (some ⟨wk.heap.size, 0, none⟩) 1 1] (wk.alloc (.cells #[.int .i64 a] 3)) fun e w' => e = .returned (.tuple #[]) ∧ ∃ v', CS W0 B g w' v' (bs ++ eI a) ∧ Fr (fun k => k = g ∨ v.ownBlock = some k) wk w' := by
  have := h.ints [a] 1 _ rfl rfl (by omega) (fun x hx => by simp at hx; subst hx; exact ha) hl
  simpa using this
theorem CS.bytes {W0 : World} {B g : Nat} {wk : World} {v : Value} {bs : List UInt8} (h : CS W0 B g wk v bs) (A : Option Addr) (c : Nat) (xs : List UInt8) (hr : Rd8 W0 A xs) (hA : ∀ ad, A = some ad → 0 < xs.length → ad.block < B) (hb : bs.length ≤ 17592186044416) (hn : xs.length ≤ 17592186044416) :
    Calls Tryd.prog 13 #[.pointer (some ⟨g, 0, none⟩), .slice A xs.length c] wk fun e w' => e = .returned (.pointer (some ⟨g, 0, none⟩)) ∧ ∃ v', CS W0 B g w' v' (bs ++ eB xs) ∧ Fr (fun k => k = g ∨ v.ownBlock = some k) wk w' := by
  refine (wBytes_any g v bs A xs.length c xs wk h.wr hb (hr.fr h.nb (fun ad e h0 => by have := hA ad e h0; omega)) rfl hn (fun ad e h0 hx => ?_)).mono ?_
  · have h1 := hA ad e h0
    rcases hx with e2 | e2
    · have := h.gB; omega
    · have := h.fm _ e2; omega
  · rintro e w' ⟨rfl, v', k⟩
    exact ⟨rfl, v', h.to k, k.2.1⟩

/-- How big decisions are, together. -/
def sumD : List Dn → Nat
  | [] => 0
  | d :: l => d.bs.length + 1 + sumD l
theorem eD_len (d : Dn) (h : d.ok) : (eD d).length ≤ 50 * (d.bs.length + 1) := by
  have h1 := eI_len _ h.k
  have h2 := eI_len _ h.i
  have h3 := eI_len _ h.l
  have h4 := eI_len _ h.n
  have h5 := enc_length10 (2 * d.bs.length) (by have := h.b; omega)
  unfold eD eB
  simp only [List.length_append]
  omega
theorem eDs_len (l : List Dn) (h : ∀ d ∈ l, d.ok) : (eDs l).length ≤ 50 * sumD l := by
  induction l with
  | nil => simp [eDs, sumD]
  | cons d l ih =>
    have h1 := eD_len d (h d (List.mem_cons_self ..))
    have h2 := ih (fun x hx => h x (List.mem_cons_of_mem _ hx))
    rw [eDs_cons, List.length_append]
    unfold sumD
    omega
theorem sumD_take (l : List Dn) (k : Nat) : sumD (l.take k) ≤ sumD l := by
  induction l generalizing k with
  | nil => simp [sumD]
  | cons d l ih =>
    cases k with
    | zero => simp [sumD]
    | succ k => have := ih k; rw [List.take_succ_cons]; unfold sumD; omega
theorem sumD_mem {l : List Dn} {d : Dn} (h : d ∈ l) : d.bs.length + 1 ≤ sumD l := by
  induction l with
  | nil => cases h
  | cons x l ih =>
    unfold sumD
    rcases List.mem_cons.1 h with rfl | h
    · omega
    · have := ih h; omega
theorem sumD_len (l : List Dn) : l.length ≤ sumD l := by
  induction l with
  | nil => simp
  | cons x l ih => unfold sumD; rw [List.length_cons]; omega
theorem eH_len {c : Cl} (h : c.ok) : (eH c).length ≤ 80 := by
  have h0 := eI_len _ h.a0
  have h1 := eI_len _ h.a1
  have h2 := eI_len _ h.a2
  have h3 := eI_len _ h.a3
  have h4 := eI_len _ h.t0
  have h5 := eI_len _ h.t1
  have h6 := eI_len _ h.t2
  have h7 := eI_len _ h.t3
  unfold eH
  simp only [List.length_append]
  omega

set_option maxRecDepth 100000 in
set_option maxHeartbeats 4000000 in
theorem call_any (x : CI) (w : World) (hx : x.At w (fun k => k < w.heap.size)) (hok : x.cl.ok) (hbs : x.bs.length ≤ 8192) (hsum : sumD x.cl.L ≤ 8192) :
    Calls Tryd.prog 5 #[.agg x.cells] w fun e w' => ∃ A' c', e = .returned (.slice A' (eC x.cl).length c') ∧ Own8 w' 5 (.slice A' (eC x.cl).length c') (eC x.cl) ∧ Fresh w w' (.slice A' (eC x.cl).length c') := by
  obtain ⟨a0, a1, a2, a3, t0, t1, t2, t3, bA, bc, bs, lA, lc, ds⟩ := x
  simp only [CI.cells]
  have HOUT0 : eC (CI.cl ⟨a0, a1, a2, a3, t0, t1, t2, t3, bA, bc, bs, lA, lc, ds⟩) = eH ⟨a0, a1, a2, a3, t0, t1, t2, t3, bs, ds.map DI.d⟩ ++ eB bs ++ eI ds.length ++ eDs (ds.map DI.d) := by unfold eC CI.cl; simp
  generalize eC (CI.cl ⟨a0, a1, a2, a3, t0, t1, t2, t3, bA, bc, bs, lA, lc, ds⟩) = OUT at *
  have HOUT := Lib.hid HOUT0
  clear HOUT0
  obtain ⟨W0, hW⟩ : ∃ W0, w.alloc (.cells #[.int .i64 a0, .int .i64 a1, .int .i64 a2, .int .i64 a3, .int .i64 t0, .int .i64 t1, .int .i64 t2, .int .i64 t3, .slice bA bs.length bc, .slice lA ds.length lc] 27) = W0 := ⟨_, rfl⟩
  obtain ⟨gb, hgb⟩ : ∃ gb, w.heap.size = gb := ⟨_, rfl⟩
  have fW : Fr (fun _ => False) w W0 := by rw [← hW]; exact (Fr.refl _ _).alloc _
  have bW : Bk W0 gb 27 #[.int .i64 a0, .int .i64 a1, .int .i64 a2, .int .i64 a3, .int .i64 t0, .int .i64 t1, .int .i64 t2, .int .i64 t3, .slice bA bs.length bc, .slice lA ds.length lc] := by rw [← hW, ← hgb]; exact Bk.new _ _ _
  have hs0 : W0.heap.size = gb + 1 := by rw [← hW, ← hgb]; simp
  have CX := Lib.hid (fun w' (hf : Nb (gb + 1) W0 w') => bW.fr hf (fun h => by omega))
  have HX := Lib.hid (hx.fr fW (fun _ _ h => h))
  have HOK := Lib.hid hok
  have HBS := Lib.hid hbs
  have HSUM := Lib.hid hsum
  have HFW := Lib.hid fW
  have HGB := Lib.hid hgb
  have C0 := Lib.hid (newWriter_any W0)
  have HS0 := Lib.hid hs0
  clear fW bW hx hok hbs hsum hs0
  have hdl : ds.length ≤ 8192 := by
    have h1 := sumD_len (ds.map DI.d)
    rw [List.length_map] at h1
    have h2 : sumD (ds.map DI.d) ≤ 8192 := HSUM.out
    omega
  go_enter Tryd.func5, Tryd.ntmps5
  go_wp2_with fail
  clear hW hgb
  refine C0.out.mono ?_; rintro e w1 ⟨rfl, rfl⟩
  rw [HS0.out]
  have S1 : CS W0 (gb + 1) (gb + 1) (W0.alloc (.cells #[.slice none 0 0] 80)) (.slice none 0 0) [] := by
    have hb := Bk.new W0 80 #[.slice none 0 0]
    rw [HS0.out] at hb
    exact ⟨⟨hb, Own8.nil _ _⟩, ((Fr.refl (fun _ => False) _).alloc _).nb0 _, From.nil _ _ _, Nat.le_refl _, by simp [HS0.out]⟩
  generalize W0.alloc (.cells #[.slice none 0 0] 80) = w1 at *
  have HS1 := Lib.hid S1
  have c0 := (CX.out w1 S1.nb).cell 0
  have c1 := (CX.out w1 S1.nb).cell 1
  have c2 := (CX.out w1 S1.nb).cell 2
  have c3 := (CX.out w1 S1.nb).cell 3
  simp only [List.getElem?_toArray, List.getElem?_cons_zero, List.getElem?_cons_succ] at c0 c1 c2 c3
  clear S1
  have K1 := Lib.hid (HS1.out.ints4 a0 a1 a2 a3 HOK.out.a0 HOK.out.a1 HOK.out.a2 HOK.out.a3 (by simp))
  go_wp2_with fail
  refine K1.out.mono ?_; rintro e w2 ⟨rfl, v2, S2, _⟩
  have HS2 := Lib.hid S2
  clear c0 c1 c2 c3 K1
  have c4 := (CX.out w2 S2.nb).cell 4
  have c5 := (CX.out w2 S2.nb).cell 5
  have c6 := (CX.out w2 S2.nb).cell 6
  have c7 := (CX.out w2 S2.nb).cell 7
  simp only [List.getElem?_toArray, List.getElem?_cons_zero, List.getElem?_cons_succ] at c4 c5 c6 c7
  clear S2
  have L1 := (eIs_len [a0, a1, a2, a3] (fun z hz => by simp at hz; rcases hz with rfl | rfl | rfl | rfl; exact HOK.out.a0; exact HOK.out.a1; exact HOK.out.a2; exact HOK.out.a3))
  simp only [List.flatMap_cons, List.flatMap_nil, List.append_nil, List.length_cons, List.length_nil] at L1
  have K2 := Lib.hid (HS2.out.ints4 t0 t1 t2 t3 HOK.out.t0 HOK.out.t1 HOK.out.t2 HOK.out.t3 (by rw [List.nil_append]; omega))
  clear L1
  go_wp2_with fail
  refine K2.out.mono ?_; rintro e w3 ⟨rfl, v3, S3, _⟩
  have hH : [] ++ (eI a0 ++ (eI a1 ++ (eI a2 ++ eI a3))) ++ (eI t0 ++ (eI t1 ++ (eI t2 ++ eI t3))) = eH ⟨a0, a1, a2, a3, t0, t1, t2, t3, bs, ds.map DI.d⟩ := by unfold eH; simp
  rw [hH] at S3
  have HLH := Lib.hid (show (eH ⟨a0, a1, a2, a3, t0, t1, t2, t3, bs, ds.map DI.d⟩).length ≤ 80 from eH_len HOK.out)
  generalize eH ⟨a0, a1, a2, a3, t0, t1, t2, t3, bs, ds.map DI.d⟩ = EH at *
  clear hH c4 c5 c6 c7 K2
  have HS3 := Lib.hid S3
  have c8 := (CX.out w3 S3.nb).cell 8
  simp only [List.getElem?_toArray, List.getElem?_cons_zero, List.getElem?_cons_succ] at c8
  clear S3
  have K3 := Lib.hid (HS3.out.bytes bA bc bs HX.out.rb (fun ad e h0 => by have h1 : ad.block < w.heap.size := HX.out.bb ad e h0; have := HGB.out; omega) (by have := HLH.out; omega) (by have := HBS.out; omega))
  go_wp2_with fail
  refine K3.out.mono ?_; rintro e w4 ⟨rfl, v4, S4, _⟩
  have HS4 := Lib.hid S4
  clear c8 K3
  have c9 := (CX.out w4 S4.nb).cell 9
  simp only [List.getElem?_toArray, List.getElem?_cons_zero, List.getElem?_cons_succ] at c9
  clear S4
  have HLB : Hid ((eB bs).length ≤ 8202) := Lib.hid (by
    have h1 := enc_length10 (2 * bs.length) (by have := HBS.out; omega)
    have h2 := HBS.out
    unfold eB; rw [List.length_append]; omega)
  have K4 := Lib.hid (HS4.out.ints1 (ds.length : Int) ⟨by omega, by omega⟩ (by rw [List.length_append]; have := HLH.out; have := HLB.out; omega))
  go_wp2_with fail
  refine K4.out.mono ?_; rintro e w5 ⟨rfl, v5, S5, _⟩
  have HS5 := Lib.hid S5
  clear c9 K4
  have c9 := (CX.out w5 S5.nb).cell 9
  simp only [List.getElem?_toArray, List.getElem?_cons_zero, List.getElem?_cons_succ] at c9
  clear S5
  have HLN : Hid ((eI (ds.length : Int)).length ≤ 10) := Lib.hid (eI_len _ ⟨by omega, by omega⟩)
  have HPRE : Hid ((EH ++ eB bs ++ eI (ds.length : Int)).length ≤ 9000) := Lib.hid (by
    simp only [List.length_append]
    have := HLH.out; have := HLB.out; have := HLN.out; omega)
  generalize EH ++ eB bs ++ eI (ds.length : Int) = PRE at *
  have HDS := Lib.hid (fun k => Nat.le_trans (eDs_len ((ds.map DI.d).take k) (fun d hd => HOK.out.L d (List.mem_of_mem_take hd))) (Nat.mul_le_mul_left 50 (Nat.le_trans (sumD_take _ k) HSUM.out)))
  go_wp2_with fail
  go_loopw [46] (fun i wr => ∃ k : Nat, k ≤ ds.length ∧ i = .int .i64 k ∧ ∃ v, CS W0 (gb + 1) (gb + 1) wr v (PRE ++ eDs ((ds.map DI.d).take k))) (fun i _ => ds.length - (intOf i).toNat)
  case atStart => exact ⟨0, Nat.zero_le _, rfl, v5, by simpa [eDs] using HS5.out⟩
  case round =>
    obtain ⟨k, hk, rfl, v, hv⟩ := hrel
    have HV := Lib.hid hv
    clear hv HS5 HS4 HS3 HS2 HS1
    by_cases hlt : k < ds.length
    · have hds := HX.out.ds.fr (w' := wr) HV.out.nb (fun z hz h => by have := HGB.out; omega)
      simp only at hds
      obtain ⟨b, o, rfl, hat⟩ := hds.at_ hlt
      have hdl : (ds.map DI.d).getD k default = (ds.getD k default).d := by simp [List.getD, hlt]
      have hmem : (ds.getD k default).d ∈ ds.map DI.d := by rw [show ds.getD k default = ds[k] by simp [List.getD, hlt]]; exact List.mem_map_of_mem (List.getElem_mem _)
      have hdok := HOK.out.L _ hmem
      have hdsum : (ds.getD k default).d.bs.length + 1 ≤ 8192 := Nat.le_trans (sumD_mem hmem) HSUM.out
      have ST : Hid (eDs ((ds.map DI.d).take (k + 1)) = eDs ((ds.map DI.d).take k) ++ eD (ds.getD k default).d) := Lib.hid (by rw [take_succ_getD (by simpa using hlt), hdl]; simp [eDs])
      have HRB := Lib.hid (show Rd8 W0 (ds.getD k default).A (ds.getD k default).d.bs from by
        obtain ⟨b', o', e', hat'⟩ := HX.out.ds.at_ hlt
        exact hat'.rb)
      have HBB := Lib.hid hat.bb
      obtain ⟨q0, q1, q2, q3, q4⟩ : _ ∧ _ ∧ _ ∧ _ ∧ _ := ⟨hat.c0, hat.c1, hat.c2, hat.c3, hat.c4⟩
      have HDOK := Lib.hid hdok
      have hdb := HDS.out k
      have hpb := HPRE.out
      clear hds hat hdl hmem hdok
      have hk0 : (0 : Int) ≤ (k : Int) := by omega
      have hk1 : (k : Int) < (ds.length : Int) := by omega
      generalize ds.getD k default = p at *
      obtain ⟨Wd, hWd⟩ : ∃ Wd, wr.alloc (.cells #[.int .i64 p.d.k, .int .i64 p.d.i, .int .i64 p.d.l, .int .i64 p.d.n, .slice p.A p.d.bs.length p.c] 30) = Wd := ⟨_, rfl⟩
      obtain ⟨gd, hgd⟩ : ∃ gd, wr.heap.size = gd := ⟨_, rfl⟩
      have bD : Bk Wd gd 30 #[.int .i64 p.d.k, .int .i64 p.d.i, .int .i64 p.d.l, .int .i64 p.d.n, .slice p.A p.d.bs.length p.c] := by rw [← hWd, ← hgd]; exact Bk.new _ _ _
      have SD : CS W0 (gb + 1) (gb + 1) Wd v (PRE ++ eDs ((ds.map DI.d).take k)) := HV.out.quiet (by rw [← hWd]; exact (Fr.refl _ _).alloc _)
      have ngd : ¬ (gd = gb + 1 ∨ v.ownBlock = some gd) := fun h => by
        rcases h with h | h
        · have := HV.out.wr.1.lt; omega
        · have := HV.out.wr.2.lt h; omega
      have K5 := Lib.hid (SD.ints4 p.d.k p.d.i p.d.l p.d.n HDOK.out.k HDOK.out.i HDOK.out.l HDOK.out.n (by rw [List.length_append]; omega))
      have HBD := Lib.hid bD
      have c0 := bD.cell 0
      have c1 := bD.cell 1
      have c2 := bD.cell 2
      have c3 := bD.cell 3
      simp only [List.getElem?_toArray, List.getElem?_cons_zero, List.getElem?_cons_succ] at c0 c1 c2 c3
      have HNG := Lib.hid ngd
      have HSD := Lib.hid SD
      clear bD SD ngd
      go_wp2_with fail
      clear hWd hgd q0 q1 q2 q3 q4
      refine K5.out.mono ?_; rintro e w6 ⟨rfl, v6, S6, f6⟩
      have c4 := (HBD.out.fr f6 HNG.out).cell 4
      simp only [List.getElem?_toArray, List.getElem?_cons_zero, List.getElem?_cons_succ] at c4
      have l4 := (eIs_len [p.d.k, p.d.i, p.d.l, p.d.n] (fun z hz => by simp at hz; rcases hz with rfl | rfl | rfl | rfl; exact HDOK.out.k; exact HDOK.out.i; exact HDOK.out.l; exact HDOK.out.n))
      simp only [List.flatMap_cons, List.flatMap_nil, List.append_nil, List.length_cons, List.length_nil] at l4
      have K6 := Lib.hid (S6.bytes p.A p.c p.d.bs HRB.out (fun ad e h0 => by have := HBB.out ad e h0; have := HGB.out; omega) (by rw [List.length_append, List.length_append]; omega) (by omega))
      clear c0 c1 c2 c3 K5 S6 f6 HBD HNG HSD l4
      go_wp2_with fail
      refine K6.out.mono ?_; rintro e w7 ⟨rfl, v7, S7, _⟩
      have HS7 := Lib.hid S7
      clear K6 S7 c4 hdb hpb hdsum
      go_wp2
      go_roundw
      case rel => exact ⟨k + 1, by omega, by go_num, v7, by
        rw [ST.out]
        have := HS7.out
        unfold eD
        simpa [List.append_assoc] using this⟩
      case measure => simp [intOf]; omega
    · obtain rfl : k = ds.length := by omega
      have hv := HV.out
      rw [List.take_of_length_le (by simp)] at hv
      have hlen : (PRE ++ eDs (ds.map DI.d)).length ≤ 140737488355328 := by
        have h1 := HDS.out ds.length
        rw [List.take_of_length_le (by simp)] at h1
        have := HPRE.out
        rw [List.length_append]; omega
      have KD0 := wDone_any (gb + 1) v _ wr hv.wr hlen
      rw [← HOUT.out] at KD0
      have KD := Lib.hid KD0
      have HNB := Lib.hid hv.nb
      clear hv hlen KD0
      go_wp2_with fail
      refine KD.out.mono ?_; rintro e w8 ⟨A', c', rfl, ho, hf⟩
      have HO := Lib.hid ho
      have HF := Lib.hid hf
      clear KD ho hf
      go_wp2
      go_ret
      have hnw : Fr (fun _ => False) w wr := HFW.out.trans HNB.out (fun z hz h => by have := HGB.out; omega)
      exact ⟨A', c', rfl, HO.out, hnw.trans HF.out.1 (fun _ _ h => h), fun z hz => Nat.le_trans hnw.size (HF.out.2 z hz)⟩
end Go.Proofs.YtblfnbmgijppmaaDoor
