/- A decision, a call, read by the program. -/
import Derived.Test.YtblfnbmgijppmaaDoorKd
import Derived.Test.YtblfnbmgijppmaaDoorGt
namespace Go.Proofs.YtblfnbmgijppmaaDoor
open Go.RowKit

theorem num_lt : ∀ (f i acc : Nat) (l : List UInt8) (u m : Nat), f + i = 10 → acc < 128 ^ i → num f i acc l = .ok u m → u < 18446744073709551616
  | 0, _, _, _, _, _, _, _, h => by unfold num at h; cases h
  | _ + 1, _, _, [], _, _, _, _, h => by unfold num at h; cases h
  | f + 1, i, acc, c :: l, u, m, hf, ha, h => by
    unfold num at h
    split at h
    · exact num_lt f (i + 1) _ l u m (by omega) (acc_next acc c.toNat i ha) h
    · rename_i hc
      split at h
      · cases h
      · rename_i hbad
        injection h with h _
        subst h
        rw [show c.toNat = c.toNat % 128 by omega]
        refine acc_lim acc c.toNat i (by omega) ha ?_
        rcases Nat.lt_or_ge i 9 with h9 | h9
        · exact .inl (by omega)
        · refine .inr ?_
          have : i = 9 := by omega
          subst this
          refine Classical.byContradiction fun hx => hbad (.inr ⟨rfl, ?_⟩)
          omega
theorem rdNum_lt {l : List UInt8} {u m : Nat} (h : rdNum l = .ok u m) : u < 18446744073709551616 := num_lt 10 0 0 l u m rfl (by decide) h
theorem st_whole (xs : List UInt8) (wh : ByteArray) (s : St) : stBetween xs wh (-9223372036854775808) 9223372036854775807 s = stInt xs wh s := by
  cases s with
  | bad er a w0 => rfl
  | at_ k =>
    unfold stBetween stInt srWithin
    simp only
    cases hN : rdNum (xs.drop k) with
    | bad b => rfl
    | ok u m =>
      have := unfN_range u (rdNum_lt hN)
      simp only
      rw [if_neg (by omega)]

theorem RdAt.frK {S : Nat → Prop} {w w' : World} {g : Nat} {A : Option Addr} {n c : Nat} {xs : List UInt8} {s : St} (h : RdAt w g A n c xs s) (hf : Fr S w w') (hg : ¬ S g) (hA : ∀ ad, A = some ad → 0 < n → ¬ S ad.block) : RdAt w' g A n c xs s := by
  cases s with
  | at_ k => exact ⟨h.1, h.2.imp fun _ h => h.imp fun _ h => h.fr hf hg hA⟩
  | bad er a wh => exact ⟨h.1, h.2.imp fun _ h => h.fr hf hg hA⟩
/-- A reader that is used inside a function; B: the function's first block of its own. -/
structure RS (w : World) (B g : Nat) (A : Option Addr) (n c : Nat) (xs : List UInt8) (wk : World) (s : St) : Prop where
  rd : RdAt wk g A n c xs s
  er : ErrT wk
  nb : Fr (fun x => x = g ∨ B ≤ x) w wk
  gl : g < B
  src : ∀ ad, A = some ad → 0 < n → ad.block < B
  hg : g ≠ 1
  el : 1 < B
  sz : B ≤ wk.heap.size
section
variable {w wk w2 : World} {B g : Nat} {A : Option Addr} {n c : Nat} {xs : List UInt8} {s s2 : St}
theorem RS.own {S : Nat → Prop} (h : RS w B g A n c xs wk s) (hf : Fr S wk w2) (hS : ∀ k, S k → B ≤ k) : RS w B g A n c xs w2 s :=
  ⟨h.rd.frK hf (fun e => by have := hS _ e; have := h.gl; omega) (fun ad e h0 e2 => by have := hS _ e2; have := h.src ad e h0; omega), h.er.fr hf (fun e => by have := hS _ e; have := h.el; omega),
    h.nb.trans hf (fun x _ hx => .inr (hS x hx)), h.gl, h.src, h.hg, h.el, Nat.le_trans h.sz hf.size⟩
theorem RS.to (h : RS w B g A n c xs wk s) (hr : RdAt w2 g A n c xs s2) (hf : Fr (fun x => x = g) wk w2) : RS w B g A n c xs w2 s2 :=
  ⟨hr, h.er.fr hf (fun e => h.hg e.symm), h.nb.trans hf (fun _ _ e => .inl e), h.gl, h.src, h.hg, h.el, Nat.le_trans h.sz hf.size⟩
end
theorem whole_any {w wk : World} {B g : Nat} {A : Option Addr} {n c : Nat} {xs : List UInt8} {s : St} (h : RS w B g A n c xs wk s) (wh : ByteArray) :
    Calls Tryd.prog 45 #[.pointer (some ⟨g, 0, none⟩), .string wh] wk fun e w' => e = .returned (.int .i64 (stInt xs wh s).1) ∧ RS w B g A n c xs w' (stInt xs wh s).2 ∧ Fr (fun x => x = g) wk w' := by
  have C0 := rBetween_any h.rd h.er wh h.hg (-9223372036854775808) 9223372036854775807
  rw [st_whole] at C0
  have C := Lib.hid C0
  have H := Lib.hid h
  clear h C0
  generalize (stInt xs wh s).1 = z at *
  generalize (stInt xs wh s).2 = s2 at *
  go_enter Tryd.func45, Tryd.ntmps45
  go_wp2_with fail
  refine C.out.mono ?_; rintro e w1 ⟨rfl, h1, h2⟩
  have H1 := Lib.hid h1
  have H2 := Lib.hid h2
  clear h1 h2 C
  go_wp2
  go_ret
  exact ⟨rfl, H.out.to H1.out H2.out, H2.out⟩
theorem RS.bytes {w wk : World} {B g : Nat} {A : Option Addr} {n c : Nat} {xs : List UInt8} {s : St} (h : RS w B g A n c xs wk s) (wh : ByteArray) (most : Int) :
    Calls Tryd.prog 17 #[.pointer (some ⟨g, 0, none⟩), .string wh, .int .i64 most] wk fun e w' => ∃ A' c', e = .returned (.slice A' (stBytes xs wh most s).1.length c') ∧ Own8 w' 5 (.slice A' (stBytes xs wh most s).1.length c') (stBytes xs wh most s).1 ∧ (∀ k, (Value.slice A' (stBytes xs wh most s).1.length c').ownBlock = some k → wk.heap.size ≤ k) ∧ RS w B g A n c xs w' (stBytes xs wh most s).2 ∧ Fr (fun x => x = g) wk w' := by
  refine (rBytes_any h.rd h.er wh h.hg most).mono ?_
  rintro e w1 ⟨v, rfl, ⟨A', c', rfl, ho, hk⟩, h1, h2⟩
  exact ⟨A', c', rfl, ho, hk, h.to h1 h2, h2⟩

def zD : Array Value := #[.int .i64 0, .int .i64 0, .int .i64 0, .int .i64 0, .slice none 0 0]
set_option maxRecDepth 100000 in
set_option maxHeartbeats 4000000 in
theorem readDec_any {w : World} {g : Nat} {A : Option Addr} {n c : Nat} {xs : List UInt8} {s : St} (h : RS w w.heap.size g A n c xs w s) :
    Calls Tryd.prog 47 #[.pointer (some ⟨g, 0, none⟩)] w fun e w' => ∃ (A' : Option Addr) (c' : Nat), e = .returned (.agg #[.int .i64 (rdDv xs s).k, .int .i64 (rdDv xs s).i, .int .i64 (rdDv xs s).l, .int .i64 (rdDv xs s).n, .slice A' (rdDv xs s).bs.length c']) ∧
      Own8 w' 5 (.slice A' (rdDv xs s).bs.length c') (rdDv xs s).bs ∧ (∀ k, (Value.slice A' (rdDv xs s).bs.length c').ownBlock = some k → w.heap.size ≤ k) ∧ RdAt w' g A n c xs (rdDs xs s) ∧ Fr (fun x => x = g) w w' := by
  obtain ⟨W1, hW⟩ : ∃ W1, (w.alloc (.cells zD 30)).alloc (.cells zD 30) = W1 := ⟨_, rfl⟩
  obtain ⟨ga, hga⟩ : ∃ ga, w.heap.size = ga := ⟨_, rfl⟩
  have fW : Fr (fun _ => False) w W1 := by rw [← hW]; exact ((Fr.refl _ _).alloc _).alloc _
  have b1 : Bk W1 ga 30 zD := by rw [← hW, ← hga]; exact (Bk.new _ _ _).alloc _
  have b2 : Bk W1 (ga + 1) 30 zD := by
    rw [← hW, ← hga]
    have := Bk.new (w.alloc (.cells zD 30)) 30 zD
    simpa using this
  have R1 : RS w ga g A n c xs W1 s := by
    have := h.own fW (fun _ h => h.elim)
    rwa [hga] at this
  have hgl := h.gl
  have HR1 := Lib.hid R1
  have HB1 := Lib.hid b1
  have HB2 := Lib.hid b2
  have HFW := Lib.hid fW
  have HGA := Lib.hid hga
  have K0 := Lib.hid (show Calls Tryd.prog 45 #[.pointer (some ⟨g, 0, none⟩), .string ⟨#[100, 101, 99, 105, 115, 105, 111, 110]⟩] (W1) (fun e w' => e = .returned (.int .i64 (stInt xs wDec s).1) ∧ RS w ga g A n c xs w' (d1 xs s) ∧ Fr (fun x => x = g) (W1) w') from whole_any R1 wDec)
  have HG0 := Lib.hid (show Fr (fun x => x = g ∨ x = ga + 1) W1 W1 from Fr.refl _ _)
  have HR0 := HR1
  have HC0 := HB2
  have hne1 : ¬ ga = g := by omega
  have hne2 : ¬ ga + 1 = g := by omega
  clear h R1 b1 b2 fW hgl
  unfold zD at hW HC0
  go_enter Tryd.func47, Tryd.ntmps47
  go_wp2_with fail
  clear hW hga
  refine K0.out.mono ?_; rintro e w0 ⟨rfl, R, f⟩
  have B := HC0.out.fr f hne2
  have c0 := B.cell 0
  have f0 : w0.frozen? ⟨ga + 1, 0, none⟩ = false := B.frozen 0
  simp only [List.getElem?_toArray, List.getElem?_cons_zero, List.getElem?_cons_succ] at c0
  have HR1 := Lib.hid (show RS w ga g A n c xs (w0.setCell ⟨ga + 1, 0, none⟩ (.int .i64 (stInt xs wDec s).1)) (d1 xs s) from R.own fr_set (fun k e => by omega))
  have HC10 := B.set 0 (.int .i64 (stInt xs wDec s).1)
  simp only [List.setIfInBounds_toArray, List.set_cons_zero, List.set_cons_succ] at HC10
  have HC1 := Lib.hid HC10
  have HG1 := Lib.hid (show Fr (fun x => x = g ∨ x = ga + 1) W1 (w0.setCell ⟨ga + 1, 0, none⟩ (.int .i64 (stInt xs wDec s).1)) from (HG0.out.trans f (fun _ _ e => .inl e)).trans fr_set (fun _ _ e => .inr e))
  have K1 := Lib.hid (show Calls Tryd.prog 45 #[.pointer (some ⟨g, 0, none⟩), .string ⟨#[100, 101, 99, 105, 115, 105, 111, 110]⟩] (w0.setCell ⟨ga + 1, 0, none⟩ (.int .i64 (stInt xs wDec s).1)) (fun e w' => e = .returned (.int .i64 (stInt xs wDec (d1 xs s)).1) ∧ RS w ga g A n c xs w' (d2 xs s) ∧ Fr (fun x => x = g) (w0.setCell ⟨ga + 1, 0, none⟩ (.int .i64 (stInt xs wDec s).1)) w') from whole_any HR1.out wDec)
  clear R f B HC10 K0 HC0 HG0 HR0
  go_wp2_with fail
  clear c0 f0
  refine K1.out.mono ?_; rintro e w1 ⟨rfl, R, f⟩
  have B := HC1.out.fr f hne2
  have c0 := B.cell 1
  have f0 : w1.frozen? ⟨ga + 1, 1, none⟩ = false := B.frozen 1
  simp only [List.getElem?_toArray, List.getElem?_cons_zero, List.getElem?_cons_succ] at c0
  have HR2 := Lib.hid (show RS w ga g A n c xs (w1.setCell ⟨ga + 1, 1, none⟩ (.int .i64 (stInt xs wDec (d1 xs s)).1)) (d2 xs s) from R.own fr_set (fun k e => by omega))
  have HC20 := B.set 1 (.int .i64 (stInt xs wDec (d1 xs s)).1)
  simp only [List.setIfInBounds_toArray, List.set_cons_zero, List.set_cons_succ] at HC20
  have HC2 := Lib.hid HC20
  have HG2 := Lib.hid (show Fr (fun x => x = g ∨ x = ga + 1) W1 (w1.setCell ⟨ga + 1, 1, none⟩ (.int .i64 (stInt xs wDec (d1 xs s)).1)) from (HG1.out.trans f (fun _ _ e => .inl e)).trans fr_set (fun _ _ e => .inr e))
  have K2 := Lib.hid (show Calls Tryd.prog 45 #[.pointer (some ⟨g, 0, none⟩), .string ⟨#[100, 101, 99, 105, 115, 105, 111, 110]⟩] (w1.setCell ⟨ga + 1, 1, none⟩ (.int .i64 (stInt xs wDec (d1 xs s)).1)) (fun e w' => e = .returned (.int .i64 (stInt xs wDec (d2 xs s)).1) ∧ RS w ga g A n c xs w' (d3 xs s) ∧ Fr (fun x => x = g) (w1.setCell ⟨ga + 1, 1, none⟩ (.int .i64 (stInt xs wDec (d1 xs s)).1)) w') from whole_any HR2.out wDec)
  clear R f B HC20 K1 HC1 HG1 HR1
  go_wp2_with fail
  clear c0 f0
  refine K2.out.mono ?_; rintro e w2 ⟨rfl, R, f⟩
  have B := HC2.out.fr f hne2
  have c0 := B.cell 2
  have f0 : w2.frozen? ⟨ga + 1, 2, none⟩ = false := B.frozen 2
  simp only [List.getElem?_toArray, List.getElem?_cons_zero, List.getElem?_cons_succ] at c0
  have HR3 := Lib.hid (show RS w ga g A n c xs (w2.setCell ⟨ga + 1, 2, none⟩ (.int .i64 (stInt xs wDec (d2 xs s)).1)) (d3 xs s) from R.own fr_set (fun k e => by omega))
  have HC30 := B.set 2 (.int .i64 (stInt xs wDec (d2 xs s)).1)
  simp only [List.setIfInBounds_toArray, List.set_cons_zero, List.set_cons_succ] at HC30
  have HC3 := Lib.hid HC30
  have HG3 := Lib.hid (show Fr (fun x => x = g ∨ x = ga + 1) W1 (w2.setCell ⟨ga + 1, 2, none⟩ (.int .i64 (stInt xs wDec (d2 xs s)).1)) from (HG2.out.trans f (fun _ _ e => .inl e)).trans fr_set (fun _ _ e => .inr e))
  have K3 := Lib.hid (show Calls Tryd.prog 45 #[.pointer (some ⟨g, 0, none⟩), .string ⟨#[100, 101, 99, 105, 115, 105, 111, 110]⟩] (w2.setCell ⟨ga + 1, 2, none⟩ (.int .i64 (stInt xs wDec (d2 xs s)).1)) (fun e w' => e = .returned (.int .i64 (stInt xs wDec (d3 xs s)).1) ∧ RS w ga g A n c xs w' (d4 xs s) ∧ Fr (fun x => x = g) (w2.setCell ⟨ga + 1, 2, none⟩ (.int .i64 (stInt xs wDec (d2 xs s)).1)) w') from whole_any HR3.out wDec)
  clear R f B HC30 K2 HC2 HG2 HR2
  go_wp2_with fail
  clear c0 f0
  refine K3.out.mono ?_; rintro e w3 ⟨rfl, R, f⟩
  have B := HC3.out.fr f hne2
  have c0 := B.cell 3
  have f0 : w3.frozen? ⟨ga + 1, 3, none⟩ = false := B.frozen 3
  simp only [List.getElem?_toArray, List.getElem?_cons_zero, List.getElem?_cons_succ] at c0
  have HR4 := Lib.hid (show RS w ga g A n c xs (w3.setCell ⟨ga + 1, 3, none⟩ (.int .i64 (stInt xs wDec (d3 xs s)).1)) (d4 xs s) from R.own fr_set (fun k e => by omega))
  have HC40 := B.set 3 (.int .i64 (stInt xs wDec (d3 xs s)).1)
  simp only [List.setIfInBounds_toArray, List.set_cons_zero, List.set_cons_succ] at HC40
  have HC4 := Lib.hid HC40
  have HG4 := Lib.hid (show Fr (fun x => x = g ∨ x = ga + 1) W1 (w3.setCell ⟨ga + 1, 3, none⟩ (.int .i64 (stInt xs wDec (d3 xs s)).1)) from (HG3.out.trans f (fun _ _ e => .inl e)).trans fr_set (fun _ _ e => .inr e))
  have HG3w := Lib.hid (show Fr (fun x => x = g ∨ x = ga + 1) W1 w3 from HG3.out.trans f (fun _ _ e => .inl e))
  clear R f B HC40 K3 HC3 HG3 HR3
  have K4 := Lib.hid (show Calls Tryd.prog 17 #[.pointer (some ⟨g, 0, none⟩), .string ⟨#[100, 101, 99, 105, 115, 105, 111, 110]⟩, .int .i64 4096] (w3.setCell ⟨ga + 1, 3, none⟩ (.int .i64 (stInt xs wDec (d3 xs s)).1)) _ from HR4.out.bytes wDec 4096)
  go_wp2_with fail
  clear c0 f0
  refine K4.out.mono ?_; rintro e w4 ⟨A', c', rfl, ho, hk, R, f⟩
  have B := HC4.out.fr f hne2
  have c0 := B.cell 0
  have c1 := B.cell 1
  have c2 := B.cell 2
  have c3 := B.cell 3
  have c4 := B.cell 4
  simp only [List.getElem?_toArray, List.getElem?_cons_zero, List.getElem?_cons_succ] at c0 c1 c2 c3 c4
  have f4 : w4.frozen? ⟨ga + 1, 4, none⟩ = false := B.frozen 4
  have HG5 := Lib.hid (HG4.out.trans f (fun _ _ e => .inl e))
  have BA := HB1.out.fr HG5.out (fun h => by omega)
  unfold zD at BA
  have e0 := BA.cell 0
  have e1 := BA.cell 1
  have e2 := BA.cell 2
  have e3 := BA.cell 3
  have e4 := BA.cell 4
  simp only [List.getElem?_toArray, List.getElem?_cons_zero, List.getElem?_cons_succ] at e0 e1 e2 e3 e4
  have g0 : w4.frozen? ⟨ga, 0, none⟩ = false := BA.frozen 0
  have g1 : w4.frozen? ⟨ga, 1, none⟩ = false := BA.frozen 1
  have g2 : w4.frozen? ⟨ga, 2, none⟩ = false := BA.frozen 2
  have g3 : w4.frozen? ⟨ga, 3, none⟩ = false := BA.frozen 3
  have g4 : w4.frozen? ⟨ga, 4, none⟩ = false := BA.frozen 4
  have HO := Lib.hid ho
  have HK := Lib.hid hk
  have HR5 := Lib.hid R
  have HG4b := Lib.hid (show Fr (fun x => x = g ∨ x = ga + 1) W1 w3 from HG3w.out)
  clear ho hk R f B BA K4 HC4 HG4 HR4
  go_wp2
  refine bodyPost_ret (v := .agg #[.int .i64 (stInt xs wDec s).1, .int .i64 (stInt xs wDec (d1 xs s)).1, .int .i64 (stInt xs wDec (d2 xs s)).1, .int .i64 (stInt xs wDec (d3 xs s)).1, .slice A' (stBytes xs wDec 4096 (d4 xs s)).1.length c']) (by simp [results, Tryd.results47, go_sem, e0, e1, e2, e3, e4]) rfl ?_
  have hfin : Fr (fun k => k = ga ∨ k = ga + 1) w4 ((((((w4.setCell ⟨ga + 1, 4, none⟩ (.slice A' (stBytes xs wDec 4096 (d4 xs s)).1.length c')).setCell ⟨ga, 0, none⟩ (.int .i64 (stInt xs wDec s).1)).setCell ⟨ga, 1, none⟩ (.int .i64 (stInt xs wDec (d1 xs s)).1)).setCell ⟨ga, 2, none⟩ (.int .i64 (stInt xs wDec (d2 xs s)).1)).setCell ⟨ga, 3, none⟩ (.int .i64 (stInt xs wDec (d3 xs s)).1)).setCell ⟨ga, 4, none⟩ (.slice A' (stBytes xs wDec 4096 (d4 xs s)).1.length c')) :=
    ((((((Fr.refl _ _).setCell (p := ⟨ga + 1, 4, none⟩) (fun _ => .inr rfl) _).setCell (p := ⟨ga, 0, none⟩) (fun _ => .inl rfl) _).setCell (p := ⟨ga, 1, none⟩) (fun _ => .inl rfl) _).setCell (p := ⟨ga, 2, none⟩) (fun _ => .inl rfl) _).setCell (p := ⟨ga, 3, none⟩) (fun _ => .inl rfl) _).setCell (p := ⟨ga, 4, none⟩) (fun _ => .inl rfl) _
  have hsz : ga + 2 ≤ w4.heap.size := by
    have h1 := HG5.out.size
    have h2 : ga + 1 < W1.heap.size := HB2.out.lt
    omega
  have hkk : ∀ k, (Value.slice A' (stBytes xs wDec 4096 (d4 xs s)).1.length c').ownBlock = some k → ga + 2 ≤ k := fun k e => by
    have h1 := HK.out k e
    simp at h1
    have h2 := HB2.out.lt
    have h3 := HG4b.out.size
    omega
  have hR := HR5.out.own hfin (fun k e => by rcases e with e | e <;> omega)
  exact ⟨A', c', rfl, HO.out.fr hfin (fun k e e2 => by have := hkk k e; rcases e2 with e2 | e2 <;> omega), fun k e => by have h1 := hkk k e; have h2 := HGA.out; show w.heap.size ≤ k; omega, hR.rd, hR.nb.mono (fun x hx e => by
    rcases e with e | e
    · exact e
    · have := HGA.out; omega)⟩
end Go.Proofs.YtblfnbmgijppmaaDoor
