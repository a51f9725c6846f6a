/- ReadCall by the reference. -/
import Derived.Test.YtblfnbmgijppmaaDoorKj
import Derived.Test.YtblfnbmgijppmaaDoorGt
namespace Go.Proofs.YtblfnbmgijppmaaDoor
open Go.RowKit

/-- What the reference's ReadCall answers. -/
def RefReadsC (w : World) (xs : List UInt8) (e : Ending) (w' : World) : Prop :=
  ∃ (x : CI) (er a : Int) (wh : ByteArray), e = .returned (.tuple #[.agg x.cells, .agg #[.int .i64 er, .int .i64 a, .string wh]]) ∧ x.At w' (fun k => w.heap.size ≤ k) ∧ x.cl = rdR xs ∧
    ((stEnd xs (rdCs xs) = none ∧ er = 0 ∧ a = 0 ∧ wh = ⟨#[]⟩) ∨ (stEnd xs (rdCs xs) = some (er, a, wh) ∧ er ≠ 0)) ∧ Fr (fun _ => False) w w'

set_option maxRecDepth 100000 in
set_option maxHeartbeats 16000000 in
theorem refReadC_any (A : Option Addr) (n c : Nat) (xs : List UInt8) (w : World) (hr : Rd8 w A xs) (hn : xs.length = n) (hnc : n ≤ c) (hnb : n ≤ 140737488355328) :
    Calls Tryd.prog 7 #[.slice A n c] w (RefReadsC w xs) := by
  obtain ⟨W, hW⟩ : ∃ W, (((w.alloc (.cells zC 27)).alloc (.cells zF 37)).alloc (.cells #[.slice A n c, .int .i64 0, .int .i64 0, .int .i64 0, .string ⟨#[]⟩] 67)).alloc (.cells zC 27) = W := ⟨_, rfl⟩
  obtain ⟨ga, hga⟩ : ∃ ga, w.heap.size = ga := ⟨_, rfl⟩
  have fW : Fr (fun _ => False) w W := by rw [← hW]; exact ((((Fr.refl _ _).alloc _).alloc _).alloc _).alloc _
  have b1 : Bk W ga 27 zC := by rw [← hW, ← hga]; exact (((Bk.new _ _ _).alloc _).alloc _).alloc _
  have b2 : Bk W (ga + 1) 37 zF := by
    rw [← hW, ← hga]
    have := Bk.new (w.alloc (.cells zC 27)) 37 zF
    rw [show (w.alloc (.cells zC 27)).heap.size = w.heap.size + 1 by simp] at this
    exact (this.alloc _).alloc _
  have b3 : Bk W (ga + 2) 67 #[.slice A n c, .int .i64 0, .int .i64 0, .int .i64 0, .string ⟨#[]⟩] := by
    rw [← hW, ← hga]
    have := Bk.new ((w.alloc (.cells zC 27)).alloc (.cells zF 37)) 67 #[.slice A n c, .int .i64 0, .int .i64 0, .int .i64 0, .string ⟨#[]⟩]
    rw [show ((w.alloc (.cells zC 27)).alloc (.cells zF 37)).heap.size = w.heap.size + 2 by simp] at this
    exact this.alloc _
  have b4 : Bk W (ga + 3) 27 zC := by
    rw [← hW, ← hga]
    have := Bk.new (((w.alloc (.cells zC 27)).alloc (.cells zF 37)).alloc (.cells #[.slice A n c, .int .i64 0, .int .i64 0, .int .i64 0, .string ⟨#[]⟩] 67)) 27 zC
    rw [show (((w.alloc (.cells zC 27)).alloc (.cells zF 37)).alloc (.cells #[.slice A n c, .int .i64 0, .int .i64 0, .int .i64 0, .string ⟨#[]⟩] 67)).heap.size = w.heap.size + 3 by simp] at this
    exact this
  have hsrc : ∀ ad, A = some ad → 0 < n → ad.block < ga := fun ad e h0 => by
    obtain ⟨ad', e2, _, hc⟩ := hr (by omega)
    rw [e] at e2; injection e2 with e2; subst e2
    have := World.block_lt_of_cell? w ⟨ad.block, ad.off + 0, none⟩ (hc 0 (by omega))
    simp only at this; omega
  have R0 : QS W (ga + 3) (ga + 2) A n c xs W (.at_ 0) := ⟨⟨Nat.zero_le _, 0, ⟨#[]⟩, { bk := b3, rd := hr.fr fW (fun _ _ _ h => h), len := hn, cap := hnc, big := by omega, apart := fun ad e h0 => by have := hsrc ad e h0; omega }⟩,
    Fr.refl _ _, by omega, fun ad e h0 => by have := hsrc ad e h0; omega, hnb⟩
  have HR0 := Lib.hid R0
  have HB1 := Lib.hid b1
  have HB2 := Lib.hid b2
  have HB4 := Lib.hid b4
  have HFW := Lib.hid fW
  have HGA := Lib.hid hga
  have K0 := Lib.hid (show Calls Tryd.prog 24 #[.pointer (some ⟨ga + 2, 0, none⟩), .string ⟨#[107, 105, 110, 100]⟩] (W) (fun e w' => e = .returned (.int .i64 (stInt xs wKind (.at_ 0)).1) ∧ QS W (ga + 3) (ga + 2) A n c xs w' (h1 xs) ∧ Fr (fun x => x = ga + 2) (W) w') from R0.int wKind)
  have HG0 := Lib.hid (show Fr (fun x => x = ga + 2 ∨ x = ga + 3) W W from Fr.refl _ _)
  have HC0 := HB4
  clear hr hn hnc hnb fW b1 b2 b3 b4 hsrc R0
  unfold zC zF at hW
  unfold zC at HC0
  go_enter Tryd.func7, Tryd.ntmps7
  go_wp2_with fail
  clear hW hga
  refine K0.out.mono ?_; rintro e w0 ⟨rfl, R, f⟩
  have B := HC0.out.fr f (by omega)
  have c0 := B.cell 0
  have f0 : w0.frozen? ⟨ga + 3, 0, none⟩ = false := B.frozen 0
  simp only [List.getElem?_toArray, List.getElem?_cons_zero, List.getElem?_cons_succ] at c0
  have HR1 := Lib.hid (show QS W (ga + 3) (ga + 2) A n c xs (w0.setCell ⟨ga + 3, 0, none⟩ (.int .i64 (stInt xs wKind (.at_ 0)).1)) (h1 xs) from R.own fr_set (fun k e => by omega))
  have HC10 := B.set 0 (.int .i64 (stInt xs wKind (.at_ 0)).1)
  simp only [List.setIfInBounds_toArray, List.set_cons_zero, List.set_cons_succ] at HC10
  have HC1 := Lib.hid HC10
  have HG1 := Lib.hid (show Fr (fun x => x = ga + 2 ∨ x = ga + 3) W (w0.setCell ⟨ga + 3, 0, none⟩ (.int .i64 (stInt xs wKind (.at_ 0)).1)) from (HG0.out.trans f (fun _ _ e => .inl e)).trans fr_set (fun _ _ e => .inr e))
  have K1 := Lib.hid (show Calls Tryd.prog 24 #[.pointer (some ⟨ga + 2, 0, none⟩), .string ⟨#[102, 108, 111, 119]⟩] (w0.setCell ⟨ga + 3, 0, none⟩ (.int .i64 (stInt xs wKind (.at_ 0)).1)) (fun e w' => e = .returned (.int .i64 (stInt xs wFlow (h1 xs)).1) ∧ QS W (ga + 3) (ga + 2) A n c xs w' (h2 xs) ∧ Fr (fun x => x = ga + 2) (w0.setCell ⟨ga + 3, 0, none⟩ (.int .i64 (stInt xs wKind (.at_ 0)).1)) w') from HR1.out.int wFlow)
  clear R f B HC10 K0 HC0 HG0 HR0
  go_wp2_with fail
  clear c0 f0
  refine K1.out.mono ?_; rintro e w1 ⟨rfl, R, f⟩
  have B := HC1.out.fr f (by omega)
  have c0 := B.cell 1
  have f0 : w1.frozen? ⟨ga + 3, 1, none⟩ = false := B.frozen 1
  simp only [List.getElem?_toArray, List.getElem?_cons_zero, List.getElem?_cons_succ] at c0
  have HR2 := Lib.hid (show QS W (ga + 3) (ga + 2) A n c xs (w1.setCell ⟨ga + 3, 1, none⟩ (.int .i64 (stInt xs wFlow (h1 xs)).1)) (h2 xs) from R.own fr_set (fun k e => by omega))
  have HC20 := B.set 1 (.int .i64 (stInt xs wFlow (h1 xs)).1)
  simp only [List.setIfInBounds_toArray, List.set_cons_zero, List.set_cons_succ] at HC20
  have HC2 := Lib.hid HC20
  have HG2 := Lib.hid (show Fr (fun x => x = ga + 2 ∨ x = ga + 3) W (w1.setCell ⟨ga + 3, 1, none⟩ (.int .i64 (stInt xs wFlow (h1 xs)).1)) from (HG1.out.trans f (fun _ _ e => .inl e)).trans fr_set (fun _ _ e => .inr e))
  have K2 := Lib.hid (show Calls Tryd.prog 24 #[.pointer (some ⟨ga + 2, 0, none⟩), .string ⟨#[108, 105, 115, 116]⟩] (w1.setCell ⟨ga + 3, 1, none⟩ (.int .i64 (stInt xs wFlow (h1 xs)).1)) (fun e w' => e = .returned (.int .i64 (stInt xs wList (h2 xs)).1) ∧ QS W (ga + 3) (ga + 2) A n c xs w' (h3 xs) ∧ Fr (fun x => x = ga + 2) (w1.setCell ⟨ga + 3, 1, none⟩ (.int .i64 (stInt xs wFlow (h1 xs)).1)) w') from HR2.out.int wList)
  clear R f B HC20 K1 HC1 HG1 HR1
  go_wp2_with fail
  clear c0 f0
  refine K2.out.mono ?_; rintro e w2 ⟨rfl, R, f⟩
  have B := HC2.out.fr f (by omega)
  have c0 := B.cell 2
  have f0 : w2.frozen? ⟨ga + 3, 2, none⟩ = false := B.frozen 2
  simp only [List.getElem?_toArray, List.getElem?_cons_zero, List.getElem?_cons_succ] at c0
  have HR3 := Lib.hid (show QS W (ga + 3) (ga + 2) A n c xs (w2.setCell ⟨ga + 3, 2, none⟩ (.int .i64 (stInt xs wList (h2 xs)).1)) (h3 xs) from R.own fr_set (fun k e => by omega))
  have HC30 := B.set 2 (.int .i64 (stInt xs wList (h2 xs)).1)
  simp only [List.setIfInBounds_toArray, List.set_cons_zero, List.set_cons_succ] at HC30
  have HC3 := Lib.hid HC30
  have HG3 := Lib.hid (show Fr (fun x => x = ga + 2 ∨ x = ga + 3) W (w2.setCell ⟨ga + 3, 2, none⟩ (.int .i64 (stInt xs wList (h2 xs)).1)) from (HG2.out.trans f (fun _ _ e => .inl e)).trans fr_set (fun _ _ e => .inr e))
  have K3 := Lib.hid (show Calls Tryd.prog 24 #[.pointer (some ⟨ga + 2, 0, none⟩), .string ⟨#[110]⟩] (w2.setCell ⟨ga + 3, 2, none⟩ (.int .i64 (stInt xs wList (h2 xs)).1)) (fun e w' => e = .returned (.int .i64 (stInt xs wN (h3 xs)).1) ∧ QS W (ga + 3) (ga + 2) A n c xs w' (h4 xs) ∧ Fr (fun x => x = ga + 2) (w2.setCell ⟨ga + 3, 2, none⟩ (.int .i64 (stInt xs wList (h2 xs)).1)) w') from HR3.out.int wN)
  clear R f B HC30 K2 HC2 HG2 HR2
  go_wp2_with fail
  clear c0 f0
  refine K3.out.mono ?_; rintro e w3 ⟨rfl, R, f⟩
  have B := HC3.out.fr f (by omega)
  have c0 := B.cell 3
  have f0 : w3.frozen? ⟨ga + 3, 3, none⟩ = false := B.frozen 3
  simp only [List.getElem?_toArray, List.getElem?_cons_zero, List.getElem?_cons_succ] at c0
  have HR4 := Lib.hid (show QS W (ga + 3) (ga + 2) A n c xs (w3.setCell ⟨ga + 3, 3, none⟩ (.int .i64 (stInt xs wN (h3 xs)).1)) (h4 xs) from R.own fr_set (fun k e => by omega))
  have HC40 := B.set 3 (.int .i64 (stInt xs wN (h3 xs)).1)
  simp only [List.setIfInBounds_toArray, List.set_cons_zero, List.set_cons_succ] at HC40
  have HC4 := Lib.hid HC40
  have HG4 := Lib.hid (show Fr (fun x => x = ga + 2 ∨ x = ga + 3) W (w3.setCell ⟨ga + 3, 3, none⟩ (.int .i64 (stInt xs wN (h3 xs)).1)) from (HG3.out.trans f (fun _ _ e => .inl e)).trans fr_set (fun _ _ e => .inr e))
  have K4 := Lib.hid (show Calls Tryd.prog 24 #[.pointer (some ⟨ga + 2, 0, none⟩), .string ⟨#[116, 111, 107, 101, 110]⟩] (w3.setCell ⟨ga + 3, 3, none⟩ (.int .i64 (stInt xs wN (h3 xs)).1)) (fun e w' => e = .returned (.int .i64 (stInt xs wTok (h4 xs)).1) ∧ QS W (ga + 3) (ga + 2) A n c xs w' (h5 xs) ∧ Fr (fun x => x = ga + 2) (w3.setCell ⟨ga + 3, 3, none⟩ (.int .i64 (stInt xs wN (h3 xs)).1)) w') from HR4.out.int wTok)
  clear R f B HC40 K3 HC3 HG3 HR3
  go_wp2_with fail
  clear c0 f0
  refine K4.out.mono ?_; rintro e w4 ⟨rfl, R, f⟩
  have B := HC4.out.fr f (by omega)
  have c0 := B.cell 4
  have f0 : w4.frozen? ⟨ga + 3, 4, none⟩ = false := B.frozen 4
  simp only [List.getElem?_toArray, List.getElem?_cons_zero, List.getElem?_cons_succ] at c0
  have HR5 := Lib.hid (show QS W (ga + 3) (ga + 2) A n c xs (w4.setCell ⟨ga + 3, 4, none⟩ (.int .i64 (stInt xs wTok (h4 xs)).1)) (h5 xs) from R.own fr_set (fun k e => by omega))
  have HC50 := B.set 4 (.int .i64 (stInt xs wTok (h4 xs)).1)
  simp only [List.setIfInBounds_toArray, List.set_cons_zero, List.set_cons_succ] at HC50
  have HC5 := Lib.hid HC50
  have HG5 := Lib.hid (show Fr (fun x => x = ga + 2 ∨ x = ga + 3) W (w4.setCell ⟨ga + 3, 4, none⟩ (.int .i64 (stInt xs wTok (h4 xs)).1)) from (HG4.out.trans f (fun _ _ e => .inl e)).trans fr_set (fun _ _ e => .inr e))
  have K5 := Lib.hid (show Calls Tryd.prog 24 #[.pointer (some ⟨ga + 2, 0, none⟩), .string ⟨#[116, 111, 107, 101, 110]⟩] (w4.setCell ⟨ga + 3, 4, none⟩ (.int .i64 (stInt xs wTok (h4 xs)).1)) (fun e w' => e = .returned (.int .i64 (stInt xs wTok (h5 xs)).1) ∧ QS W (ga + 3) (ga + 2) A n c xs w' (h6 xs) ∧ Fr (fun x => x = ga + 2) (w4.setCell ⟨ga + 3, 4, none⟩ (.int .i64 (stInt xs wTok (h4 xs)).1)) w') from HR5.out.int wTok)
  clear R f B HC50 K4 HC4 HG4 HR4
  go_wp2_with fail
  clear c0 f0
  refine K5.out.mono ?_; rintro e w5 ⟨rfl, R, f⟩
  have B := HC5.out.fr f (by omega)
  have c0 := B.cell 5
  have f0 : w5.frozen? ⟨ga + 3, 5, none⟩ = false := B.frozen 5
  simp only [List.getElem?_toArray, List.getElem?_cons_zero, List.getElem?_cons_succ] at c0
  have HR6 := Lib.hid (show QS W (ga + 3) (ga + 2) A n c xs (w5.setCell ⟨ga + 3, 5, none⟩ (.int .i64 (stInt xs wTok (h5 xs)).1)) (h6 xs) from R.own fr_set (fun k e => by omega))
  have HC60 := B.set 5 (.int .i64 (stInt xs wTok (h5 xs)).1)
  simp only [List.setIfInBounds_toArray, List.set_cons_zero, List.set_cons_succ] at HC60
  have HC6 := Lib.hid HC60
  have HG6 := Lib.hid (show Fr (fun x => x = ga + 2 ∨ x = ga + 3) W (w5.setCell ⟨ga + 3, 5, none⟩ (.int .i64 (stInt xs wTok (h5 xs)).1)) from (HG5.out.trans f (fun _ _ e => .inl e)).trans fr_set (fun _ _ e => .inr e))
  have K6 := Lib.hid (show Calls Tryd.prog 24 #[.pointer (some ⟨ga + 2, 0, none⟩), .string ⟨#[116, 111, 107, 101, 110]⟩] (w5.setCell ⟨ga + 3, 5, none⟩ (.int .i64 (stInt xs wTok (h5 xs)).1)) (fun e w' => e = .returned (.int .i64 (stInt xs wTok (h6 xs)).1) ∧ QS W (ga + 3) (ga + 2) A n c xs w' (h7 xs) ∧ Fr (fun x => x = ga + 2) (w5.setCell ⟨ga + 3, 5, none⟩ (.int .i64 (stInt xs wTok (h5 xs)).1)) w') from HR6.out.int wTok)
  clear R f B HC60 K5 HC5 HG5 HR5
  go_wp2_with fail
  clear c0 f0
  refine K6.out.mono ?_; rintro e w6 ⟨rfl, R, f⟩
  have B := HC6.out.fr f (by omega)
  have c0 := B.cell 6
  have f0 : w6.frozen? ⟨ga + 3, 6, none⟩ = false := B.frozen 6
  simp only [List.getElem?_toArray, List.getElem?_cons_zero, List.getElem?_cons_succ] at c0
  have HR7 := Lib.hid (show QS W (ga + 3) (ga + 2) A n c xs (w6.setCell ⟨ga + 3, 6, none⟩ (.int .i64 (stInt xs wTok (h6 xs)).1)) (h7 xs) from R.own fr_set (fun k e => by omega))
  have HC70 := B.set 6 (.int .i64 (stInt xs wTok (h6 xs)).1)
  simp only [List.setIfInBounds_toArray, List.set_cons_zero, List.set_cons_succ] at HC70
  have HC7 := Lib.hid HC70
  have HG7 := Lib.hid (show Fr (fun x => x = ga + 2 ∨ x = ga + 3) W (w6.setCell ⟨ga + 3, 6, none⟩ (.int .i64 (stInt xs wTok (h6 xs)).1)) from (HG6.out.trans f (fun _ _ e => .inl e)).trans fr_set (fun _ _ e => .inr e))
  have K7 := Lib.hid (show Calls Tryd.prog 24 #[.pointer (some ⟨ga + 2, 0, none⟩), .string ⟨#[116, 111, 107, 101, 110]⟩] (w6.setCell ⟨ga + 3, 6, none⟩ (.int .i64 (stInt xs wTok (h6 xs)).1)) (fun e w' => e = .returned (.int .i64 (stInt xs wTok (h7 xs)).1) ∧ QS W (ga + 3) (ga + 2) A n c xs w' (h8 xs) ∧ Fr (fun x => x = ga + 2) (w6.setCell ⟨ga + 3, 6, none⟩ (.int .i64 (stInt xs wTok (h6 xs)).1)) w') from HR7.out.int wTok)
  clear R f B HC70 K6 HC6 HG6 HR6
  go_wp2_with fail
  clear c0 f0
  refine K7.out.mono ?_; rintro e w7 ⟨rfl, R, f⟩
  have B := HC7.out.fr f (by omega)
  have c0 := B.cell 7
  have f0 : w7.frozen? ⟨ga + 3, 7, none⟩ = false := B.frozen 7
  simp only [List.getElem?_toArray, List.getElem?_cons_zero, List.getElem?_cons_succ] at c0
  have HR8 := Lib.hid (show QS W (ga + 3) (ga + 2) A n c xs (w7.setCell ⟨ga + 3, 7, none⟩ (.int .i64 (stInt xs wTok (h7 xs)).1)) (h8 xs) from R.own fr_set (fun k e => by omega))
  have HC80 := B.set 7 (.int .i64 (stInt xs wTok (h7 xs)).1)
  simp only [List.setIfInBounds_toArray, List.set_cons_zero, List.set_cons_succ] at HC80
  have HC8 := Lib.hid HC80
  have HG8 := Lib.hid (show Fr (fun x => x = ga + 2 ∨ x = ga + 3) W (w7.setCell ⟨ga + 3, 7, none⟩ (.int .i64 (stInt xs wTok (h7 xs)).1)) from (HG7.out.trans f (fun _ _ e => .inl e)).trans fr_set (fun _ _ e => .inr e))
  have K8 := Lib.hid (show Calls Tryd.prog 25 #[.pointer (some ⟨ga + 2, 0, none⟩), .string ⟨#[100, 97, 116, 97]⟩, .int .i64 4096] (w7.setCell ⟨ga + 3, 7, none⟩ (.int .i64 (stInt xs wTok (h7 xs)).1)) _ from HR8.out.bytes wData 4096)
  have HGW7 := Lib.hid (show Fr (fun x => x = ga + 2 ∨ x = ga + 3) W w7 from HG7.out.trans f (fun _ _ e => .inl e))
  clear R f B HC80 K7 HC7 HG7 HR7
  go_wp2_with fail
  clear c0 f0
  refine K8.out.mono ?_; rintro e w8 ⟨A', c', rfl, ho, hk, R, f⟩
  have B := HC8.out.fr f (by omega)
  have c0 := B.cell 8
  have f0 : w8.frozen? ⟨ga + 3, 8, none⟩ = false := B.frozen 8
  simp only [List.getElem?_toArray, List.getElem?_cons_zero, List.getElem?_cons_succ] at c0
  have HG9 := HG8.out.trans f (fun _ _ e => .inl e)
  have hsz : ga + 4 ≤ w7.heap.size := by
    have h1 := HGW7.out.size
    have h2 : ga + 3 < W.heap.size := HB4.out.lt
    omega
  have hkk : ∀ k, (Value.slice A' (stBytes xs wData 4096 (h8 xs)).1.length c').ownBlock = some k → ga + 4 ≤ k := fun k e => by
    have h1 := hk k e
    simp at h1
    omega
  have hs : Fr (fun k => k = ga + 3) w8 (w8.setCell ⟨ga + 3, 8, none⟩ (.slice A' (stBytes xs wData 4096 (h8 xs)).1.length c')) := fr_set
  have HRC : Hid (QC W ga A n c xs (w8.setCell ⟨ga + 3, 8, none⟩ (.slice A' (stBytes xs wData 4096 (h8 xs)).1.length c')) (h9 xs) ⟨(stInt xs wKind (.at_ 0)).1, (stInt xs wFlow (h1 xs)).1, (stInt xs wList (h2 xs)).1, (stInt xs wN (h3 xs)).1, (stInt xs wTok (h4 xs)).1, (stInt xs wTok (h5 xs)).1, (stInt xs wTok (h6 xs)).1, (stInt xs wTok (h7 xs)).1, A', c', (stBytes xs wData 4096 (h8 xs)).1, none, 0, []⟩) := Lib.hid
    ⟨R.own hs (fun k e => by omega), (HB1.out.fr HG9 (fun h => by omega)).fr hs (by omega), (HB2.out.fr HG9 (fun h => by omega)).fr hs (by omega), by
      have h1 := B.set 8 (.slice A' (stBytes xs wData 4096 (h8 xs)).1.length c')
      simp only [List.setIfInBounds_toArray, List.set_cons_zero, List.set_cons_succ] at h1
      exact h1, OwnD.nil _, From.nil _ _ _, fun p hp => by simp at hp, ho.fr hs (fun k e e2 => by have := hkk k e; omega), fun k e => by have := hkk k e; omega⟩
  have K9 := Lib.hid (show Calls Tryd.prog 26 #[.pointer (some ⟨ga + 2, 0, none⟩), .string ⟨#[99, 111, 117, 110, 116]⟩, .int .i64 0, .int .i64 32] (w8.setCell ⟨ga + 3, 8, none⟩ (.slice A' (stBytes xs wData 4096 (h8 xs)).1.length c')) (fun e w' => e = .returned (.int .i64 (hN xs)) ∧ QS W (ga + 3) (ga + 2) A n c xs w' (h10 xs) ∧ Fr (fun x => x = ga + 2) (w8.setCell ⟨ga + 3, 8, none⟩ (.slice A' (stBytes xs wData 4096 (h8 xs)).1.length c')) w') from HRC.out.rs.between wCount 0 32)
  clear ho hk R f B K8 HC8 HG8 HR8 HG9 hsz hkk hs HGW7
  go_wp2_with fail
  clear c0 f0
  refine K9.out.mono ?_; rintro e w9 ⟨rfl, R, f⟩
  have HRC9 := Lib.hid (HRC.out.far R (f.mono (fun _ _ e => .inl e)))
  clear K9 R f HRC
  go_wp2_with fail
  obtain ⟨M, hM⟩ : ∃ M : Nat, hN xs = M := ⟨(hN xs).toNat, by have := hN_range xs; omega⟩
  have hM32 : M ≤ 32 := by have := hN_range xs; omega
  have HCL : Hid (∀ (lA : Option Addr) (lc : Nat) (ds : List DI), ds.map DI.d = rdV xs M (h10 xs) → CI.cl ⟨(stInt xs wKind (.at_ 0)).1, (stInt xs wFlow (h1 xs)).1, (stInt xs wList (h2 xs)).1, (stInt xs wN (h3 xs)).1, (stInt xs wTok (h4 xs)).1, (stInt xs wTok (h5 xs)).1, (stInt xs wTok (h6 xs)).1, (stInt xs wTok (h7 xs)).1, A', c', (stBytes xs wData 4096 (h8 xs)).1, lA, lc, ds⟩ = rdC xs) := Lib.hid (fun lA lc ds hd => by
    unfold CI.cl rdC
    rw [hM, Int.toNat_natCast, ← hd])
  have HCS : Hid (rdS xs M (h10 xs) = rdCs xs) := Lib.hid (by unfold rdCs; rw [hM, Int.toNat_natCast])
  rw [hM]
  clear hM
  generalize (stInt xs wKind (.at_ 0)).1 = v0 at *
  generalize (stInt xs wFlow (h1 xs)).1 = v1 at *
  generalize (stInt xs wList (h2 xs)).1 = v2 at *
  generalize (stInt xs wN (h3 xs)).1 = v3 at *
  generalize (stInt xs wTok (h4 xs)).1 = v4 at *
  generalize (stInt xs wTok (h5 xs)).1 = v5 at *
  generalize (stInt xs wTok (h6 xs)).1 = v6 at *
  generalize (stInt xs wTok (h7 xs)).1 = v7 at *
  generalize (stBytes xs wData 4096 (h8 xs)).1 = BS at *
  have FR : Hid (∀ w5 w' s, QS W (ga + 3) (ga + 2) A n c xs w5 s → Fr (fun x => x = ga ∨ x = ga + 1) w5 w' → Fr (fun _ => False) w w') := Lib.hid (fun w5 w' s q hf => by
    have h1 := (HFW.out.mono (T := fun x => x = ga + 2 ∨ ga + 3 ≤ x) (fun _ _ h => h.elim)).trans q.nb (fun _ _ h => h)
    have h2 := (h1.mono (T := fun x => ga ≤ x) (fun x _ h => by omega)).trans hf (fun x _ h => by omega)
    exact h2.mono (fun x hx h => by have := HGA.out; omega))
  have FIN : Hid (∀ w5 w' (er a : Int) (wh : ByteArray) (lA : Option Addr) (lc : Nat) (ds : List DI) {s : St}, QC W ga A n c xs w5 s ⟨v0, v1, v2, v3, v4, v5, v6, v7, A', c', BS, lA, lc, ds⟩ → Fr (fun x => x = ga ∨ x = ga + 1) w5 w' →
      ((stEnd xs (rdCs xs) = none ∧ er = 0 ∧ a = 0 ∧ wh = ⟨#[]⟩ ∧ ds.map DI.d = rdV xs M (h10 xs)) ∨ False) → RefReadsC w xs (.returned (.tuple #[.agg #[.int .i64 v0, .int .i64 v1, .int .i64 v2, .int .i64 v3, .int .i64 v4, .int .i64 v5, .int .i64 v6, .int .i64 v7, .slice A' BS.length c', .slice lA ds.length lc], .agg #[.int .i64 er, .int .i64 a, .string wh]])) w') := Lib.hid (fun w5 w' er a wh lA lc ds s q hf ha => by
    rcases ha with ⟨h1, h2, h3, h4, h5⟩ | h
    · have hsz : ∀ k, ga + 4 ≤ k → ¬ (k = ga ∨ k = ga + 1) := fun k hk h => by omega
      have hr := q.row.fr hf (fun k e => hsz k (q.rowB k e))
      have o8 : ∀ {v : Value} {bs : List UInt8}, From (ga + 4) v → Own8 w5 5 v bs → Own8 w' 5 v bs := fun hb ho => ho.fr hf (fun k e => hsz k (hb k e))
      have hG := HGA.out
      have hx : (⟨v0, v1, v2, v3, v4, v5, v6, v7, A', c', BS, lA, lc, ds⟩ : CI).At w' (fun k => w.heap.size ≤ k) := ⟨(o8 q.dataB q.data).rd, (fun ad e _ => by
        have := q.dataB ad.block (by show (Value.slice A' BS.length c').ownBlock = _; simp only at e; rw [e]; rfl)
        show w.heap.size ≤ ad.block; omega), hr.dsAt (fun k e => by have := q.rowB k e; show w.heap.size ≤ k; omega) (fun p hp => ⟨o8 (q.each p hp).2 (q.each p hp).1, fun k e => by have := (q.each p hp).2 k e; show w.heap.size ≤ k; omega⟩)⟩
      exact ⟨⟨v0, v1, v2, v3, v4, v5, v6, v7, A', c', BS, lA, lc, ds⟩, er, a, wh, rfl, hx, by unfold rdR; rw [if_pos h1]; exact HCL.out lA lc ds h5, .inl ⟨h1, h2, h3, h4⟩, FR.out w5 w' _ q.rs hf⟩
    · exact h.elim)
  have FINZ : Hid (∀ w5 w' (er a : Int) (wh : ByteArray) {s : St}, QS W (ga + 3) (ga + 2) A n c xs w5 s → Fr (fun x => x = ga ∨ x = ga + 1) w5 w' → stEnd xs (rdCs xs) = some (er, a, wh) → er ≠ 0 →
      RefReadsC w xs (.returned (.tuple #[.agg #[.int .i64 0, .int .i64 0, .int .i64 0, .int .i64 0, .int .i64 0, .int .i64 0, .int .i64 0, .int .i64 0, .slice none 0 0, .slice none 0 0], .agg #[.int .i64 er, .int .i64 a, .string wh]])) w') := Lib.hid (fun w5 w' er a wh s q hf h1 h2 =>
    ⟨⟨0, 0, 0, 0, 0, 0, 0, 0, none, 0, [], none, 0, []⟩, er, a, wh, rfl, ⟨Rd8.nil _ _, (fun ad e => by cases e), (fun h0 => by simp at h0)⟩, by unfold rdR; rw [if_neg (by rw [h1]; simp)]; rfl, .inr ⟨h1, h2⟩, FR.out w5 w' _ q hf⟩)
  clear HFW HB1 HB2 HB4
  go_loopw [7] (fun i wr => ∃ (k : Nat) (lA : Option Addr) (lc : Nat) (ds : List DI), k ≤ M ∧ i = .int .i64 k ∧ QC W ga A n c xs wr (rdS xs k (h10 xs)) ⟨v0, v1, v2, v3, v4, v5, v6, v7, A', c', BS, lA, lc, ds⟩ ∧ ds.map DI.d = rdV xs k (h10 xs)) (fun i _ => M - (intOf i).toNat)
  case atStart => exact ⟨0, none, 0, [], Nat.zero_le _, rfl, HRC9.out, rfl⟩
  case round =>
    obtain ⟨k, lA, lc, ds, hk, rfl, hrc, hds⟩ := hrel
    have HRC := Lib.hid hrc
    have HDS := Lib.hid hds
    clear hrc hds HRC9
    have hdl : ds.length = k := by have := congrArg List.length HDS.out; rw [List.length_map, rdV_len] at this; exact this
    have hd32 : ds.length ≤ 1048576 := by omega
    have HST : Hid (rdS xs (k + 1) (h10 xs) = rdDs xs (rdS xs k (h10 xs))) := Lib.hid rfl
    have HSV : Hid (rdV xs (k + 1) (h10 xs) = rdV xs k (h10 xs) ++ [rdDv xs (rdS xs k (h10 xs))]) := Lib.hid rfl
    have HBADX : Hid ((rdS xs k (h10 xs)).isBad → rdCs xs = rdS xs k (h10 xs)) := Lib.hid (fun h => by rw [← HCS.out]; exact rdS_bad h hk)
    clear hdl
    by_cases hlt : k < M
    · generalize hs0 : rdS xs k (h10 xs) = s0 at *
      cases s0 with
      | at_ j0 =>
        have c2 : wr.cell? ⟨ga + 2, 2, none⟩ = some (.int .i64 0) := by
          obtain ⟨_, fat, what, hr⟩ := HRC.out.rs.rd
          exact hr.bk.cell 2
        clear hs0 HBADX
        obtain ⟨s0, hs0⟩ : ∃ s0 : St, St.at_ j0 = s0 := ⟨_, rfl⟩
        rw [hs0] at HRC HST HSV
        clear hs0
        have hlt' : (k : Int) < (M : Int) := by omega
        obtain ⟨X0, hX0⟩ : ∃ X0, wr.alloc (.cells zD 30) = X0 := ⟨_, rfl⟩
        obtain ⟨gd, hgd⟩ : ∃ gd, wr.heap.size = gd := ⟨_, rfl⟩
        have fX : Fr (fun _ => False) wr X0 := by rw [← hX0]; exact (Fr.refl _ _).alloc _
        have bX : Bk X0 gd 30 zD := by rw [← hX0, ← hgd]; exact Bk.new _ _ _
        have hgd4 : ga + 4 ≤ gd := by have := HRC.out.loc.lt; omega
        have HQ0 := Lib.hid (HRC.out.rs.own fX (fun _ h => h.elim))
        have HF0 := Lib.hid (show Fr (fun x => x = ga + 2 ∨ gd ≤ x) wr X0 from fX.mono (fun _ _ h => h.elim))
        have HD0 := Lib.hid bX
        have L0 := Lib.hid (show Calls Tryd.prog 24 #[.pointer (some ⟨ga + 2, 0, none⟩), .string ⟨#[100, 101, 99, 105, 115, 105, 111, 110]⟩] (X0) (fun e w' => e = .returned (.int .i64 (stInt xs wDec s0).1) ∧ QS W (ga + 3) (ga + 2) A n c xs w' (d1 xs s0) ∧ Fr (fun x => x = ga + 2) (X0) w') from HQ0.out.int wDec)
        have HGD := Lib.hid hgd
        unfold zD at hX0 HD0
        clear fX bX
        go_wp2_with fail
        clear hX0 hgd c2
        refine L0.out.mono ?_; rintro e x0 ⟨rfl, R, f⟩
        have B := HD0.out.fr f (by omega)
        have c0 := B.cell 0
        have f0 : x0.frozen? ⟨gd, 0, none⟩ = false := B.frozen 0
        simp only [List.getElem?_toArray, List.getElem?_cons_zero, List.getElem?_cons_succ] at c0
        have HQ1 := Lib.hid (show QS W (ga + 3) (ga + 2) A n c xs (x0.setCell ⟨gd, 0, none⟩ (.int .i64 (stInt xs wDec s0).1)) (d1 xs s0) from R.own fr_set (fun k e => by omega))
        have HD10 := B.set 0 (.int .i64 (stInt xs wDec s0).1)
        simp only [List.setIfInBounds_toArray, List.set_cons_zero, List.set_cons_succ] at HD10
        have HD1 := Lib.hid HD10
        have HF1 := Lib.hid (show Fr (fun x => x = ga + 2 ∨ gd ≤ x) wr (x0.setCell ⟨gd, 0, none⟩ (.int .i64 (stInt xs wDec s0).1)) from (HF0.out.trans f (fun _ _ e => .inl e)).trans fr_set (fun _ _ e => .inr (by omega)))
        have L1 := Lib.hid (show Calls Tryd.prog 24 #[.pointer (some ⟨ga + 2, 0, none⟩), .string ⟨#[100, 101, 99, 105, 115, 105, 111, 110]⟩] (x0.setCell ⟨gd, 0, none⟩ (.int .i64 (stInt xs wDec s0).1)) (fun e w' => e = .returned (.int .i64 (stInt xs wDec (d1 xs s0)).1) ∧ QS W (ga + 3) (ga + 2) A n c xs w' (d2 xs s0) ∧ Fr (fun x => x = ga + 2) (x0.setCell ⟨gd, 0, none⟩ (.int .i64 (stInt xs wDec s0).1)) w') from HQ1.out.int wDec)
        clear R f B HD10 L0 HD0 HF0 HQ0
        go_wp2_with fail
        clear c0 f0
        refine L1.out.mono ?_; rintro e x1 ⟨rfl, R, f⟩
        have B := HD1.out.fr f (by omega)
        have c0 := B.cell 1
        have f0 : x1.frozen? ⟨gd, 1, none⟩ = false := B.frozen 1
        simp only [List.getElem?_toArray, List.getElem?_cons_zero, List.getElem?_cons_succ] at c0
        have HQ2 := Lib.hid (show QS W (ga + 3) (ga + 2) A n c xs (x1.setCell ⟨gd, 1, none⟩ (.int .i64 (stInt xs wDec (d1 xs s0)).1)) (d2 xs s0) from R.own fr_set (fun k e => by omega))
        have HD20 := B.set 1 (.int .i64 (stInt xs wDec (d1 xs s0)).1)
        simp only [List.setIfInBounds_toArray, List.set_cons_zero, List.set_cons_succ] at HD20
        have HD2 := Lib.hid HD20
        have HF2 := Lib.hid (show Fr (fun x => x = ga + 2 ∨ gd ≤ x) wr (x1.setCell ⟨gd, 1, none⟩ (.int .i64 (stInt xs wDec (d1 xs s0)).1)) from (HF1.out.trans f (fun _ _ e => .inl e)).trans fr_set (fun _ _ e => .inr (by omega)))
        have L2 := Lib.hid (show Calls Tryd.prog 24 #[.pointer (some ⟨ga + 2, 0, none⟩), .string ⟨#[100, 101, 99, 105, 115, 105, 111, 110]⟩] (x1.setCell ⟨gd, 1, none⟩ (.int .i64 (stInt xs wDec (d1 xs s0)).1)) (fun e w' => e = .returned (.int .i64 (stInt xs wDec (d2 xs s0)).1) ∧ QS W (ga + 3) (ga + 2) A n c xs w' (d3 xs s0) ∧ Fr (fun x => x = ga + 2) (x1.setCell ⟨gd, 1, none⟩ (.int .i64 (stInt xs wDec (d1 xs s0)).1)) w') from HQ2.out.int wDec)
        clear R f B HD20 L1 HD1 HF1 HQ1
        go_wp2_with fail
        clear c0 f0
        refine L2.out.mono ?_; rintro e x2 ⟨rfl, R, f⟩
        have B := HD2.out.fr f (by omega)
        have c0 := B.cell 2
        have f0 : x2.frozen? ⟨gd, 2, none⟩ = false := B.frozen 2
        simp only [List.getElem?_toArray, List.getElem?_cons_zero, List.getElem?_cons_succ] at c0
        have HQ3 := Lib.hid (show QS W (ga + 3) (ga + 2) A n c xs (x2.setCell ⟨gd, 2, none⟩ (.int .i64 (stInt xs wDec (d2 xs s0)).1)) (d3 xs s0) from R.own fr_set (fun k e => by omega))
        have HD30 := B.set 2 (.int .i64 (stInt xs wDec (d2 xs s0)).1)
        simp only [List.setIfInBounds_toArray, List.set_cons_zero, List.set_cons_succ] at HD30
        have HD3 := Lib.hid HD30
        have HF3 := Lib.hid (show Fr (fun x => x = ga + 2 ∨ gd ≤ x) wr (x2.setCell ⟨gd, 2, none⟩ (.int .i64 (stInt xs wDec (d2 xs s0)).1)) from (HF2.out.trans f (fun _ _ e => .inl e)).trans fr_set (fun _ _ e => .inr (by omega)))
        have L3 := Lib.hid (show Calls Tryd.prog 24 #[.pointer (some ⟨ga + 2, 0, none⟩), .string ⟨#[100, 101, 99, 105, 115, 105, 111, 110]⟩] (x2.setCell ⟨gd, 2, none⟩ (.int .i64 (stInt xs wDec (d2 xs s0)).1)) (fun e w' => e = .returned (.int .i64 (stInt xs wDec (d3 xs s0)).1) ∧ QS W (ga + 3) (ga + 2) A n c xs w' (d4 xs s0) ∧ Fr (fun x => x = ga + 2) (x2.setCell ⟨gd, 2, none⟩ (.int .i64 (stInt xs wDec (d2 xs s0)).1)) w') from HQ3.out.int wDec)
        clear R f B HD30 L2 HD2 HF2 HQ2
        go_wp2_with fail
        clear c0 f0
        refine L3.out.mono ?_; rintro e x3 ⟨rfl, R, f⟩
        have B := HD3.out.fr f (by omega)
        have c0 := B.cell 3
        have f0 : x3.frozen? ⟨gd, 3, none⟩ = false := B.frozen 3
        simp only [List.getElem?_toArray, List.getElem?_cons_zero, List.getElem?_cons_succ] at c0
        have HQ4 := Lib.hid (show QS W (ga + 3) (ga + 2) A n c xs (x3.setCell ⟨gd, 3, none⟩ (.int .i64 (stInt xs wDec (d3 xs s0)).1)) (d4 xs s0) from R.own fr_set (fun k e => by omega))
        have HD40 := B.set 3 (.int .i64 (stInt xs wDec (d3 xs s0)).1)
        simp only [List.setIfInBounds_toArray, List.set_cons_zero, List.set_cons_succ] at HD40
        have HD4 := Lib.hid HD40
        have HF4 := Lib.hid (show Fr (fun x => x = ga + 2 ∨ gd ≤ x) wr (x3.setCell ⟨gd, 3, none⟩ (.int .i64 (stInt xs wDec (d3 xs s0)).1)) from (HF3.out.trans f (fun _ _ e => .inl e)).trans fr_set (fun _ _ e => .inr (by omega)))
        have L4 := Lib.hid (show Calls Tryd.prog 25 #[.pointer (some ⟨ga + 2, 0, none⟩), .string ⟨#[100, 101, 99, 105, 115, 105, 111, 110]⟩, .int .i64 4096] (x3.setCell ⟨gd, 3, none⟩ (.int .i64 (stInt xs wDec (d3 xs s0)).1)) _ from HQ4.out.bytes wDec 4096)
        clear R f B HD40 L3 HD3 HF3 HQ3
        go_wp2_with fail
        clear c0 f0
        refine L4.out.mono ?_; rintro e x4 ⟨A2, c2, rfl, ho, hk, R, f⟩
        have B := HD4.out.fr f (by omega)
        have c0 := B.cell 0
        have c1 := B.cell 1
        have c2' := B.cell 2
        have c3 := B.cell 3
        have c4 := B.cell 4
        simp only [List.getElem?_toArray, List.getElem?_cons_zero, List.getElem?_cons_succ] at c0 c1 c2' c3 c4
        have f4 : x4.frozen? ⟨gd, 4, none⟩ = false := B.frozen 4
        have hfx := HF4.out.trans f (fun _ _ e => .inl e)
        have hsF : Fr (fun k => k = gd) x4 (x4.setCell ⟨gd, 4, none⟩ (.slice A2 (stBytes xs wDec 4096 (d4 xs s0)).1.length c2)) := fr_set
        have hkk : ∀ k, (Value.slice A2 (stBytes xs wDec 4096 (d4 xs s0)).1.length c2).ownBlock = some k → gd + 1 ≤ k := fun k e => by
          have h1 := hk k e
          have h2 := HD4.out.lt
          simp at h1 h2
          omega
        have HN := Lib.hid (HRC.out.far (R.own hsF (fun k e => by omega)) ((hfx.trans hsF (fun _ _ e => .inr (by omega))).mono (fun x _ e => by have := HGD.out; omega)))
        have HO := Lib.hid (ho.fr hsF (fun k e e2 => by have := hkk k e; omega))
        have HOB := Lib.hid (show From (ga + 4) (.slice A2 (stBytes xs wDec 4096 (d4 xs s0)).1.length c2) from fun k e => by have := hkk k e; omega)
        obtain ⟨y, hy⟩ : ∃ y, x4.setCell ⟨gd, 4, none⟩ (.slice A2 (stBytes xs wDec 4096 (d4 xs s0)).1.length c2) = y := ⟨_, rfl⟩
        have BY := B.set 4 (.slice A2 (stBytes xs wDec 4096 (d4 xs s0)).1.length c2)
        rw [hy] at HN HO BY
        simp only [List.setIfInBounds_toArray, List.set_cons_zero, List.set_cons_succ] at BY
        have l9 : y.cell? ⟨ga + 3, 9, none⟩ = some (.slice lA ds.length lc) := HN.out.loc.cell 9
        have y0 := BY.cell 0
        have y1 := BY.cell 1
        have y2 := BY.cell 2
        have y3 := BY.cell 3
        have y4 := BY.cell 4
        simp only [List.getElem?_toArray, List.getElem?_cons_zero, List.getElem?_cons_succ] at y0 y1 y2 y3 y4
        have HEV : Hid (rdDv xs s0 = ⟨(stInt xs wDec s0).1, (stInt xs wDec (d1 xs s0)).1, (stInt xs wDec (d2 xs s0)).1, (stInt xs wDec (d3 xs s0)).1, (stBytes xs wDec 4096 (d4 xs s0)).1⟩) := Lib.hid rfl
        have HES : Hid ((stBytes xs wDec 4096 (d4 xs s0)).2 = rdDs xs s0) := Lib.hid rfl
        rw [HES.out] at HN
        clear hk R f B BY hfx hsF hkk ho L4 HD4 HF4 HQ4
        generalize (stInt xs wDec s0).1 = e0 at *
        generalize (stInt xs wDec (d1 xs s0)).1 = e1 at *
        generalize (stInt xs wDec (d2 xs s0)).1 = e2 at *
        generalize (stInt xs wDec (d3 xs s0)).1 = e3 at *
        generalize (stBytes xs wDec 4096 (d4 xs s0)).1 = eb at *
        go_wp2_with (at_builtin; (
          refine wpList_appendD rfl (.tmp 75) (.tmp 77) rfl (.slice lA ds.length lc) ds rfl HN.out.row ⟨⟨e0, e1, e2, e3, eb⟩, A2, c2⟩ y.heap.size rfl rfl hd32 ?_
          intro lb c5 w10 ho3 hf3 hm3
          have l3 := HN.out.loc.fr hf3 (HN.out.row.ne HN.out.loc (by decide))
          have k9 : w10.cell? ⟨ga + 3, 9, none⟩ = some (.slice lA ds.length lc) := l3.cell 9
          have f9 : w10.frozen? ⟨ga + 3, 9, none⟩ = false := l3.frozen 9
          have HP := Lib.hid (HN.out.push (p := ⟨⟨e0, e1, e2, e3, eb⟩, A2, c2⟩) HO.out HOB.out ho3 hf3 hm3)
          clear l3 ho3 hf3 hm3 l9 y0 y1 y2 y3 y4 hy c0 c1 c2' c3 c4 f4))
        go_roundw
        case rel => exact ⟨k + 1, some ⟨lb, 0, none⟩, c5, ds ++ [⟨⟨e0, e1, e2, e3, eb⟩, A2, c2⟩], by omega, by go_num, by rw [HST.out]; exact HP.out, by rw [HSV.out, HEV.out, List.map_append, HDS.out]; rfl⟩
        case measure => simp [intOf]; omega
      | bad er0 a0 wh0 =>
        have hr0 : ∃ p, RR wr (ga + 2) A n c xs p er0 a0 wh0 ∧ er0 ≠ 0 := by
          obtain ⟨he, p, hr⟩ := HRC.out.rs.rd
          exact ⟨p, hr, he⟩
        obtain ⟨p0, hr0, he0⟩ := hr0
        have c2 : wr.cell? ⟨ga + 2, 2, none⟩ = some (.int .i64 er0) := hr0.bk.cell 2
        have he0' : (er0 == 0) = false := by rw [beq_eq_false_iff_ne]; exact he0
        have hlt' : (k : Int) < (M : Int) := by omega
        have hcs : rdCs xs = .bad er0 a0 wh0 := HBADX.out trivial
        have HEND : Hid (stEnd xs (.bad er0 a0 wh0) = stEnd xs (rdCs xs)) := Lib.hid (by rw [hcs])
        have HNO : Hid (stEnd xs (rdCs xs) = none → ds.map DI.d = rdV xs M (h10 xs)) := Lib.hid (fun h => by rw [hcs] at h; simp [stEnd] at h)
        clear hr0 he0 hcs hs0 HBADX HST HSV
        have K := Lib.hid (refEnd_any HRC.out.rs.rd)
        go_wp2_with fail
        refine K.out.mono ?_; rintro e w4 ⟨er, a, wh, rfl, hflt, hf4⟩
        rw [HEND.out] at hflt
        obtain ⟨w5, hw5⟩ : ∃ w5, w4.alloc (.cells #[.int .i64 er, .int .i64 a, .string wh] 37) = w5 := ⟨_, rfl⟩
        obtain ⟨gf, hgf⟩ : ∃ gf, w4.heap.size = gf := ⟨_, rfl⟩
        have f5 : Fr (fun _ => False) w4 w5 := by rw [← hw5]; exact (Fr.refl _ _).alloc _
        have b5 : Bk w5 gf 37 #[.int .i64 er, .int .i64 a, .string wh] := by rw [← hw5, ← hgf]; exact Bk.new _ _ _
        have fq := hf4.trans f5 (fun _ _ h => h)
        have HC5 := Lib.hid (HRC.out.far (HRC.out.rs.own fq (fun _ h => h.elim)) (fq.mono (fun _ _ h => h.elim)))
        have hgf4 : ga + 4 ≤ gf := by have := HRC.out.loc.lt; have := hf4.size; omega
        have z0 := b5.cell 0
        have z1 := b5.cell 1
        have z2 := b5.cell 2
        simp only [List.getElem?_toArray, List.getElem?_cons_zero, List.getElem?_cons_succ] at z0 z1 z2
        have BA := HC5.out.res
        have BF := HC5.out.flt
        have BL := HC5.out.loc
        unfold zC at BA
        unfold zF at BF
        unfold CI.cells at BL
        have e0 := BA.cell 0
        have e1 := BA.cell 1
        have e2 := BA.cell 2
        have e3 := BA.cell 3
        have e4 := BA.cell 4
        have e5 := BA.cell 5
        have e6 := BA.cell 6
        have e7 := BA.cell 7
        have e8 := BA.cell 8
        have e9 := BA.cell 9
        simp only [List.getElem?_toArray, List.getElem?_cons_zero, List.getElem?_cons_succ] at e0 e1 e2 e3 e4 e5 e6 e7 e8 e9
        have g0 : w5.frozen? ⟨ga, 0, none⟩ = false := BA.frozen 0
        have g1 : w5.frozen? ⟨ga, 1, none⟩ = false := BA.frozen 1
        have g2 : w5.frozen? ⟨ga, 2, none⟩ = false := BA.frozen 2
        have g3 : w5.frozen? ⟨ga, 3, none⟩ = false := BA.frozen 3
        have g4 : w5.frozen? ⟨ga, 4, none⟩ = false := BA.frozen 4
        have g5 : w5.frozen? ⟨ga, 5, none⟩ = false := BA.frozen 5
        have g6 : w5.frozen? ⟨ga, 6, none⟩ = false := BA.frozen 6
        have g7 : w5.frozen? ⟨ga, 7, none⟩ = false := BA.frozen 7
        have g8 : w5.frozen? ⟨ga, 8, none⟩ = false := BA.frozen 8
        have g9 : w5.frozen? ⟨ga, 9, none⟩ = false := BA.frozen 9
        have l0 := BL.cell 0
        have l1 := BL.cell 1
        have l2 := BL.cell 2
        have l3 := BL.cell 3
        have l4 := BL.cell 4
        have l5 := BL.cell 5
        have l6 := BL.cell 6
        have l7 := BL.cell 7
        have l8 := BL.cell 8
        have l9 := BL.cell 9
        simp only [List.getElem?_toArray, List.getElem?_cons_zero, List.getElem?_cons_succ] at l0 l1 l2 l3 l4 l5 l6 l7 l8 l9
        have u0 := BF.cell 0
        have t0 : w5.frozen? ⟨ga + 1, 0, none⟩ = false := BF.frozen 0
        have u1 := BF.cell 1
        have t1 : w5.frozen? ⟨ga + 1, 1, none⟩ = false := BF.frozen 1
        have u2 := BF.cell 2
        have t2 : w5.frozen? ⟨ga + 1, 2, none⟩ = false := BF.frozen 2
        simp only [List.getElem?_toArray, List.getElem?_cons_zero, List.getElem?_cons_succ] at u0 u1 u2
        have HZL := Lib.hid (fun w' (hf : Fr (fun x => x = ga ∨ x = ga + 1) w5 w') => b5.fr hf (fun h => by omega))
        clear BA BF BL K hf4 f5 fq b5
        cases hs : stEnd xs (rdCs xs) with
        | none =>
          rw [hs] at hflt
          obtain rfl : er = 0 := hflt
          have HS := Lib.hid hs
          clear hs
          go_wp2_with fail
          clear hw5 hgf
          try go_wp2
          refine bodyPost_ret (v := .tuple #[.agg #[.int .i64 v0, .int .i64 v1, .int .i64 v2, .int .i64 v3, .int .i64 v4, .int .i64 v5, .int .i64 v6, .int .i64 v7, .slice A' BS.length c', .slice lA ds.length lc], .agg #[.int .i64 0, .int .i64 0, .string ⟨#[]⟩]]) (by simp [results, Tryd.results7, go_sem, e0, e1, e2, e3, e4, e5, e6, e7, e8, e9, u0, u1, u2]) rfl ?_
          have hfin : Fr (fun x => x = ga ∨ x = ga + 1) w5 (((((((((((((w5.setCell ⟨ga, 0, none⟩ (.int .i64 v0)).setCell ⟨ga, 1, none⟩ (.int .i64 v1)).setCell ⟨ga, 2, none⟩ (.int .i64 v2)).setCell ⟨ga, 3, none⟩ (.int .i64 v3)).setCell ⟨ga, 4, none⟩ (.int .i64 v4)).setCell ⟨ga, 5, none⟩ (.int .i64 v5)).setCell ⟨ga, 6, none⟩ (.int .i64 v6)).setCell ⟨ga, 7, none⟩ (.int .i64 v7)).setCell ⟨ga, 8, none⟩ (.slice A' BS.length c')).setCell ⟨ga, 9, none⟩ (.slice lA ds.length lc)).setCell ⟨ga + 1, 0, none⟩ (.int .i64 0)).setCell ⟨ga + 1, 1, none⟩ (.int .i64 0)).setCell ⟨ga + 1, 2, none⟩ (.string ⟨#[]⟩)) := (Fr.setCell (S := fun x => x = ga ∨ x = ga + 1) (p := ⟨ga + 1, 2, none⟩) (Fr.setCell (S := fun x => x = ga ∨ x = ga + 1) (p := ⟨ga + 1, 1, none⟩) (Fr.setCell (S := fun x => x = ga ∨ x = ga + 1) (p := ⟨ga + 1, 0, none⟩) (Fr.setCell (S := fun x => x = ga ∨ x = ga + 1) (p := ⟨ga, 9, none⟩) (Fr.setCell (S := fun x => x = ga ∨ x = ga + 1) (p := ⟨ga, 8, none⟩) (Fr.setCell (S := fun x => x = ga ∨ x = ga + 1) (p := ⟨ga, 7, none⟩) (Fr.setCell (S := fun x => x = ga ∨ x = ga + 1) (p := ⟨ga, 6, none⟩) (Fr.setCell (S := fun x => x = ga ∨ x = ga + 1) (p := ⟨ga, 5, none⟩) (Fr.setCell (S := fun x => x = ga ∨ x = ga + 1) (p := ⟨ga, 4, none⟩) (Fr.setCell (S := fun x => x = ga ∨ x = ga + 1) (p := ⟨ga, 3, none⟩) (Fr.setCell (S := fun x => x = ga ∨ x = ga + 1) (p := ⟨ga, 2, none⟩) (Fr.setCell (S := fun x => x = ga ∨ x = ga + 1) (p := ⟨ga, 1, none⟩) (Fr.setCell (S := fun x => x = ga ∨ x = ga + 1) (p := ⟨ga, 0, none⟩) (Fr.refl (fun x => x = ga ∨ x = ga + 1) w5) (fun _ => .inl rfl) _) (fun _ => .inl rfl) _) (fun _ => .inl rfl) _) (fun _ => .inl rfl) _) (fun _ => .inl rfl) _) (fun _ => .inl rfl) _) (fun _ => .inl rfl) _) (fun _ => .inl rfl) _) (fun _ => .inl rfl) _) (fun _ => .inl rfl) _) (fun _ => .inr rfl) _) (fun _ => .inr rfl) _) (fun _ => .inr rfl) _)
          exact FIN.out w5 _ 0 0 ⟨#[]⟩ lA lc ds HC5.out hfin (.inl ⟨HS.out, rfl, rfl, rfl, HNO.out HS.out⟩)
        | some ee =>
          obtain ⟨er', a', wh'⟩ := ee
          rw [hs] at hflt
          obtain ⟨rfl, rfl, rfl, hne⟩ := hflt
          have HS := Lib.hid hs
          have hne1 : (er == 0) = false := by rw [beq_eq_false_iff_ne]; exact hne
          have HNE := Lib.hid hne
          clear hs hne
          go_wp2_with fail
          clear hw5 hgf
          refine wp_region_held_drew (S := fun w' => Fr (fun x => x = ga ∨ x = ga + 1) w5 w') (by kernel_rfl) ((Fr.refl _ _).drew) (fun hHeld => ?_)
          refine wpAnyH_takeD (i := 0) (v := ?_) (some 85) rfl rfl (by kernel_rfl) (by kernel_rfl) (by kernel_rfl) (fun _ _ _ h => h) (Or.inl ⟨by rfl, ?_⟩) (by assumption) ?_
          rotate_left
          · intro w' hSw
            go_simp
            first | done | with_reducible rfl
          try simp only [Act.put, List.setIfInBounds_toArray, List.set_cons_zero, List.set_cons_succ]
          refine wpAnyH_takeD (i := 1) (v := ?_) (some 86) rfl rfl (by kernel_rfl) (by kernel_rfl) (by kernel_rfl) (fun _ _ _ h => h) (Or.inl ⟨by rfl, ?_⟩) (by assumption) ?_
          rotate_left
          · intro w' hSw
            have q0 := (HZL.out w' hSw).cell 0
            have q1 := (HZL.out w' hSw).cell 1
            have q2 := (HZL.out w' hSw).cell 2
            simp only [List.getElem?_toArray, List.getElem?_cons_zero, List.getElem?_cons_succ] at q0 q1 q2
            go_simp
            first | done | with_reducible rfl
          try simp only [Act.put, List.setIfInBounds_toArray, List.set_cons_zero, List.set_cons_succ]
          refine wpAnyH_ready (rs := [2]) (by kernel_rfl) (by simp) ?_
          refine AllReadyH.cons rfl (fun K hK => ?_) AllReadyH.nil
          go_simp
          refine hK.out _ _ ((Fr.setCell (S := fun x => x = ga ∨ x = ga + 1) (p := ⟨ga, 9, none⟩) (Fr.setCell (S := fun x => x = ga ∨ x = ga + 1) (p := ⟨ga, 8, none⟩) (Fr.setCell (S := fun x => x = ga ∨ x = ga + 1) (p := ⟨ga, 7, none⟩) (Fr.setCell (S := fun x => x = ga ∨ x = ga + 1) (p := ⟨ga, 6, none⟩) (Fr.setCell (S := fun x => x = ga ∨ x = ga + 1) (p := ⟨ga, 5, none⟩) (Fr.setCell (S := fun x => x = ga ∨ x = ga + 1) (p := ⟨ga, 4, none⟩) (Fr.setCell (S := fun x => x = ga ∨ x = ga + 1) (p := ⟨ga, 3, none⟩) (Fr.setCell (S := fun x => x = ga ∨ x = ga + 1) (p := ⟨ga, 2, none⟩) (Fr.setCell (S := fun x => x = ga ∨ x = ga + 1) (p := ⟨ga, 1, none⟩) (Fr.setCell (S := fun x => x = ga ∨ x = ga + 1) (p := ⟨ga, 0, none⟩) (Fr.refl (fun x => x = ga ∨ x = ga + 1) w5) (fun _ => .inl rfl) _) (fun _ => .inl rfl) _) (fun _ => .inl rfl) _) (fun _ => .inl rfl) _) (fun _ => .inl rfl) _) (fun _ => .inl rfl) _) (fun _ => .inl rfl) _) (fun _ => .inl rfl) _) (fun _ => .inl rfl) _) (fun _ => .inl rfl) _).drew) (fun hHeld => ?_)
          clear hK K
          try change wpAnyH _ _ _ _ _ _ _ (Act.put _ none _) _
          try simp only [Act.put, List.setIfInBounds_toArray, List.set_cons_zero, List.set_cons_succ]
          refine wpAnyH_ready (rs := [3]) (by kernel_rfl) (by simp) ?_
          refine AllReadyH.cons rfl (fun K hK => ?_) AllReadyH.nil
          go_simp
          refine hK.out _ _ ((Fr.setCell (S := fun x => x = ga ∨ x = ga + 1) (p := ⟨ga + 1, 2, none⟩) (Fr.setCell (S := fun x => x = ga ∨ x = ga + 1) (p := ⟨ga + 1, 1, none⟩) (Fr.setCell (S := fun x => x = ga ∨ x = ga + 1) (p := ⟨ga + 1, 0, none⟩) (Fr.setCell (S := fun x => x = ga ∨ x = ga + 1) (p := ⟨ga, 9, none⟩) (Fr.setCell (S := fun x => x = ga ∨ x = ga + 1) (p := ⟨ga, 8, none⟩) (Fr.setCell (S := fun x => x = ga ∨ x = ga + 1) (p := ⟨ga, 7, none⟩) (Fr.setCell (S := fun x => x = ga ∨ x = ga + 1) (p := ⟨ga, 6, none⟩) (Fr.setCell (S := fun x => x = ga ∨ x = ga + 1) (p := ⟨ga, 5, none⟩) (Fr.setCell (S := fun x => x = ga ∨ x = ga + 1) (p := ⟨ga, 4, none⟩) (Fr.setCell (S := fun x => x = ga ∨ x = ga + 1) (p := ⟨ga, 3, none⟩) (Fr.setCell (S := fun x => x = ga ∨ x = ga + 1) (p := ⟨ga, 2, none⟩) (Fr.setCell (S := fun x => x = ga ∨ x = ga + 1) (p := ⟨ga, 1, none⟩) (Fr.setCell (S := fun x => x = ga ∨ x = ga + 1) (p := ⟨ga, 0, none⟩) (Fr.refl (fun x => x = ga ∨ x = ga + 1) w5) (fun _ => .inl rfl) _) (fun _ => .inl rfl) _) (fun _ => .inl rfl) _) (fun _ => .inl rfl) _) (fun _ => .inl rfl) _) (fun _ => .inl rfl) _) (fun _ => .inl rfl) _) (fun _ => .inl rfl) _) (fun _ => .inl rfl) _) (fun _ => .inl rfl) _) (fun _ => .inr rfl) _) (fun _ => .inr rfl) _) (fun _ => .inr rfl) _).drew) (fun hHeld => ?_)
          clear hK K
          try change wpAnyH _ _ _ _ _ _ _ (Act.put _ none _) _
          try simp only [Act.put, List.setIfInBounds_toArray, List.set_cons_zero, List.set_cons_succ]
          refine wpAnyH_done (by kernel_rfl) ?_ _
          go_wp2
          refine bodyPost_ret (v := .tuple #[.agg #[.int .i64 0, .int .i64 0, .int .i64 0, .int .i64 0, .int .i64 0, .int .i64 0, .int .i64 0, .int .i64 0, .slice none 0 0, .slice none 0 0], .agg #[.int .i64 er, .int .i64 a, .string wh]]) (by simp [results, Tryd.results7, go_sem, e0, e1, e2, e3, e4, e5, e6, e7, e8, e9, u0, u1, u2]) rfl ?_
          exact FINZ.out w5 _ er a wh HC5.out.rs hHeld HS.out HNE.out
    · obtain rfl : k = M := by omega
      have HEND : Hid (stEnd xs (rdS xs k (h10 xs)) = stEnd xs (rdCs xs)) := Lib.hid (by rw [HCS.out])
      have HNO : Hid (stEnd xs (rdCs xs) = none → ds.map DI.d = rdV xs k (h10 xs)) := Lib.hid (fun _ => HDS.out)
      clear HBADX HST HSV
      generalize rdS xs k (h10 xs) = sx at *
      have K := Lib.hid (refEnd_any HRC.out.rs.rd)
      go_wp2_with fail
      refine K.out.mono ?_; rintro e w4 ⟨er, a, wh, rfl, hflt, hf4⟩
      rw [HEND.out] at hflt
      obtain ⟨w5, hw5⟩ : ∃ w5, w4.alloc (.cells #[.int .i64 er, .int .i64 a, .string wh] 37) = w5 := ⟨_, rfl⟩
      obtain ⟨gf, hgf⟩ : ∃ gf, w4.heap.size = gf := ⟨_, rfl⟩
      have f5 : Fr (fun _ => False) w4 w5 := by rw [← hw5]; exact (Fr.refl _ _).alloc _
      have b5 : Bk w5 gf 37 #[.int .i64 er, .int .i64 a, .string wh] := by rw [← hw5, ← hgf]; exact Bk.new _ _ _
      have fq := hf4.trans f5 (fun _ _ h => h)
      have HC5 := Lib.hid (HRC.out.far (HRC.out.rs.own fq (fun _ h => h.elim)) (fq.mono (fun _ _ h => h.elim)))
      have hgf4 : ga + 4 ≤ gf := by have := HRC.out.loc.lt; have := hf4.size; omega
      have z0 := b5.cell 0
      have z1 := b5.cell 1
      have z2 := b5.cell 2
      simp only [List.getElem?_toArray, List.getElem?_cons_zero, List.getElem?_cons_succ] at z0 z1 z2
      have BA := HC5.out.res
      have BF := HC5.out.flt
      have BL := HC5.out.loc
      unfold zC at BA
      unfold zF at BF
      unfold CI.cells at BL
      have e0 := BA.cell 0
      have e1 := BA.cell 1
      have e2 := BA.cell 2
      have e3 := BA.cell 3
      have e4 := BA.cell 4
      have e5 := BA.cell 5
      have e6 := BA.cell 6
      have e7 := BA.cell 7
      have e8 := BA.cell 8
      have e9 := BA.cell 9
      simp only [List.getElem?_toArray, List.getElem?_cons_zero, List.getElem?_cons_succ] at e0 e1 e2 e3 e4 e5 e6 e7 e8 e9
      have g0 : w5.frozen? ⟨ga, 0, none⟩ = false := BA.frozen 0
      have g1 : w5.frozen? ⟨ga, 1, none⟩ = false := BA.frozen 1
      have g2 : w5.frozen? ⟨ga, 2, none⟩ = false := BA.frozen 2
      have g3 : w5.frozen? ⟨ga, 3, none⟩ = false := BA.frozen 3
      have g4 : w5.frozen? ⟨ga, 4, none⟩ = false := BA.frozen 4
      have g5 : w5.frozen? ⟨ga, 5, none⟩ = false := BA.frozen 5
      have g6 : w5.frozen? ⟨ga, 6, none⟩ = false := BA.frozen 6
      have g7 : w5.frozen? ⟨ga, 7, none⟩ = false := BA.frozen 7
      have g8 : w5.frozen? ⟨ga, 8, none⟩ = false := BA.frozen 8
      have g9 : w5.frozen? ⟨ga, 9, none⟩ = false := BA.frozen 9
      have l0 := BL.cell 0
      have l1 := BL.cell 1
      have l2 := BL.cell 2
      have l3 := BL.cell 3
      have l4 := BL.cell 4
      have l5 := BL.cell 5
      have l6 := BL.cell 6
      have l7 := BL.cell 7
      have l8 := BL.cell 8
      have l9 := BL.cell 9
      simp only [List.getElem?_toArray, List.getElem?_cons_zero, List.getElem?_cons_succ] at l0 l1 l2 l3 l4 l5 l6 l7 l8 l9
      have u0 := BF.cell 0
      have t0 : w5.frozen? ⟨ga + 1, 0, none⟩ = false := BF.frozen 0
      have u1 := BF.cell 1
      have t1 : w5.frozen? ⟨ga + 1, 1, none⟩ = false := BF.frozen 1
      have u2 := BF.cell 2
      have t2 : w5.frozen? ⟨ga + 1, 2, none⟩ = false := BF.frozen 2
      simp only [List.getElem?_toArray, List.getElem?_cons_zero, List.getElem?_cons_succ] at u0 u1 u2
      have HZL := Lib.hid (fun w' (hf : Fr (fun x => x = ga ∨ x = ga + 1) w5 w') => b5.fr hf (fun h => by omega))
      clear BA BF BL K hf4 f5 fq b5
      cases hs : stEnd xs (rdCs xs) with
      | none =>
        rw [hs] at hflt
        obtain rfl : er = 0 := hflt
        have HS := Lib.hid hs
        clear hs
        go_wp2_with fail
        clear hw5 hgf
        try go_wp2
        refine bodyPost_ret (v := .tuple #[.agg #[.int .i64 v0, .int .i64 v1, .int .i64 v2, .int .i64 v3, .int .i64 v4, .int .i64 v5, .int .i64 v6, .int .i64 v7, .slice A' BS.length c', .slice lA ds.length lc], .agg #[.int .i64 0, .int .i64 0, .string ⟨#[]⟩]]) (by simp [results, Tryd.results7, go_sem, e0, e1, e2, e3, e4, e5, e6, e7, e8, e9, u0, u1, u2]) rfl ?_
        have hfin : Fr (fun x => x = ga ∨ x = ga + 1) w5 (((((((((((((w5.setCell ⟨ga, 0, none⟩ (.int .i64 v0)).setCell ⟨ga, 1, none⟩ (.int .i64 v1)).setCell ⟨ga, 2, none⟩ (.int .i64 v2)).setCell ⟨ga, 3, none⟩ (.int .i64 v3)).setCell ⟨ga, 4, none⟩ (.int .i64 v4)).setCell ⟨ga, 5, none⟩ (.int .i64 v5)).setCell ⟨ga, 6, none⟩ (.int .i64 v6)).setCell ⟨ga, 7, none⟩ (.int .i64 v7)).setCell ⟨ga, 8, none⟩ (.slice A' BS.length c')).setCell ⟨ga, 9, none⟩ (.slice lA ds.length lc)).setCell ⟨ga + 1, 0, none⟩ (.int .i64 0)).setCell ⟨ga + 1, 1, none⟩ (.int .i64 0)).setCell ⟨ga + 1, 2, none⟩ (.string ⟨#[]⟩)) := (Fr.setCell (S := fun x => x = ga ∨ x = ga + 1) (p := ⟨ga + 1, 2, none⟩) (Fr.setCell (S := fun x => x = ga ∨ x = ga + 1) (p := ⟨ga + 1, 1, none⟩) (Fr.setCell (S := fun x => x = ga ∨ x = ga + 1) (p := ⟨ga + 1, 0, none⟩) (Fr.setCell (S := fun x => x = ga ∨ x = ga + 1) (p := ⟨ga, 9, none⟩) (Fr.setCell (S := fun x => x = ga ∨ x = ga + 1) (p := ⟨ga, 8, none⟩) (Fr.setCell (S := fun x => x = ga ∨ x = ga + 1) (p := ⟨ga, 7, none⟩) (Fr.setCell (S := fun x => x = ga ∨ x = ga + 1) (p := ⟨ga, 6, none⟩) (Fr.setCell (S := fun x => x = ga ∨ x = ga + 1) (p := ⟨ga, 5, none⟩) (Fr.setCell (S := fun x => x = ga ∨ x = ga + 1) (p := ⟨ga, 4, none⟩) (Fr.setCell (S := fun x => x = ga ∨ x = ga + 1) (p := ⟨ga, 3, none⟩) (Fr.setCell (S := fun x => x = ga ∨ x = ga + 1) (p := ⟨ga, 2, none⟩) (Fr.setCell (S := fun x => x = ga ∨ x = ga + 1) (p := ⟨ga, 1, none⟩) (Fr.setCell (S := fun x => x = ga ∨ x = ga + 1) (p := ⟨ga, 0, none⟩) (Fr.refl (fun x => x = ga ∨ x = ga + 1) w5) (fun _ => .inl rfl) _) (fun _ => .inl rfl) _) (fun _ => .inl rfl) _) (fun _ => .inl rfl) _) (fun _ => .inl rfl) _) (fun _ => .inl rfl) _) (fun _ => .inl rfl) _) (fun _ => .inl rfl) _) (fun _ => .inl rfl) _) (fun _ => .inl rfl) _) (fun _ => .inr rfl) _) (fun _ => .inr rfl) _) (fun _ => .inr rfl) _)
        exact FIN.out w5 _ 0 0 ⟨#[]⟩ lA lc ds HC5.out hfin (.inl ⟨HS.out, rfl, rfl, rfl, HNO.out HS.out⟩)
      | some ee =>
        obtain ⟨er', a', wh'⟩ := ee
        rw [hs] at hflt
        obtain ⟨rfl, rfl, rfl, hne⟩ := hflt
        have HS := Lib.hid hs
        have hne1 : (er == 0) = false := by rw [beq_eq_false_iff_ne]; exact hne
        have HNE := Lib.hid hne
        clear hs hne
        go_wp2_with fail
        clear hw5 hgf
        refine wp_region_held_drew (S := fun w' => Fr (fun x => x = ga ∨ x = ga + 1) w5 w') (by kernel_rfl) ((Fr.refl _ _).drew) (fun hHeld => ?_)
        refine wpAnyH_takeD (i := 0) (v := ?_) (some 85) rfl rfl (by kernel_rfl) (by kernel_rfl) (by kernel_rfl) (fun _ _ _ h => h) (Or.inl ⟨by rfl, ?_⟩) (by assumption) ?_
        rotate_left
        · intro w' hSw
          go_simp
          first | done | with_reducible rfl
        try simp only [Act.put, List.setIfInBounds_toArray, List.set_cons_zero, List.set_cons_succ]
        refine wpAnyH_takeD (i := 1) (v := ?_) (some 86) rfl rfl (by kernel_rfl) (by kernel_rfl) (by kernel_rfl) (fun _ _ _ h => h) (Or.inl ⟨by rfl, ?_⟩) (by assumption) ?_
        rotate_left
        · intro w' hSw
          have q0 := (HZL.out w' hSw).cell 0
          have q1 := (HZL.out w' hSw).cell 1
          have q2 := (HZL.out w' hSw).cell 2
          simp only [List.getElem?_toArray, List.getElem?_cons_zero, List.getElem?_cons_succ] at q0 q1 q2
          go_simp
          first | done | with_reducible rfl
        try simp only [Act.put, List.setIfInBounds_toArray, List.set_cons_zero, List.set_cons_succ]
        refine wpAnyH_ready (rs := [2]) (by kernel_rfl) (by simp) ?_
        refine AllReadyH.cons rfl (fun K hK => ?_) AllReadyH.nil
        go_simp
        refine hK.out _ _ ((Fr.setCell (S := fun x => x = ga ∨ x = ga + 1) (p := ⟨ga, 9, none⟩) (Fr.setCell (S := fun x => x = ga ∨ x = ga + 1) (p := ⟨ga, 8, none⟩) (Fr.setCell (S := fun x => x = ga ∨ x = ga + 1) (p := ⟨ga, 7, none⟩) (Fr.setCell (S := fun x => x = ga ∨ x = ga + 1) (p := ⟨ga, 6, none⟩) (Fr.setCell (S := fun x => x = ga ∨ x = ga + 1) (p := ⟨ga, 5, none⟩) (Fr.setCell (S := fun x => x = ga ∨ x = ga + 1) (p := ⟨ga, 4, none⟩) (Fr.setCell (S := fun x => x = ga ∨ x = ga + 1) (p := ⟨ga, 3, none⟩) (Fr.setCell (S := fun x => x = ga ∨ x = ga + 1) (p := ⟨ga, 2, none⟩) (Fr.setCell (S := fun x => x = ga ∨ x = ga + 1) (p := ⟨ga, 1, none⟩) (Fr.setCell (S := fun x => x = ga ∨ x = ga + 1) (p := ⟨ga, 0, none⟩) (Fr.refl (fun x => x = ga ∨ x = ga + 1) w5) (fun _ => .inl rfl) _) (fun _ => .inl rfl) _) (fun _ => .inl rfl) _) (fun _ => .inl rfl) _) (fun _ => .inl rfl) _) (fun _ => .inl rfl) _) (fun _ => .inl rfl) _) (fun _ => .inl rfl) _) (fun _ => .inl rfl) _) (fun _ => .inl rfl) _).drew) (fun hHeld => ?_)
        clear hK K
        try change wpAnyH _ _ _ _ _ _ _ (Act.put _ none _) _
        try simp only [Act.put, List.setIfInBounds_toArray, List.set_cons_zero, List.set_cons_succ]
        refine wpAnyH_ready (rs := [3]) (by kernel_rfl) (by simp) ?_
        refine AllReadyH.cons rfl (fun K hK => ?_) AllReadyH.nil
        go_simp
        refine hK.out _ _ ((Fr.setCell (S := fun x => x = ga ∨ x = ga + 1) (p := ⟨ga + 1, 2, none⟩) (Fr.setCell (S := fun x => x = ga ∨ x = ga + 1) (p := ⟨ga + 1, 1, none⟩) (Fr.setCell (S := fun x => x = ga ∨ x = ga + 1) (p := ⟨ga + 1, 0, none⟩) (Fr.setCell (S := fun x => x = ga ∨ x = ga + 1) (p := ⟨ga, 9, none⟩) (Fr.setCell (S := fun x => x = ga ∨ x = ga + 1) (p := ⟨ga, 8, none⟩) (Fr.setCell (S := fun x => x = ga ∨ x = ga + 1) (p := ⟨ga, 7, none⟩) (Fr.setCell (S := fun x => x = ga ∨ x = ga + 1) (p := ⟨ga, 6, none⟩) (Fr.setCell (S := fun x => x = ga ∨ x = ga + 1) (p := ⟨ga, 5, none⟩) (Fr.setCell (S := fun x => x = ga ∨ x = ga + 1) (p := ⟨ga, 4, none⟩) (Fr.setCell (S := fun x => x = ga ∨ x = ga + 1) (p := ⟨ga, 3, none⟩) (Fr.setCell (S := fun x => x = ga ∨ x = ga + 1) (p := ⟨ga, 2, none⟩) (Fr.setCell (S := fun x => x = ga ∨ x = ga + 1) (p := ⟨ga, 1, none⟩) (Fr.setCell (S := fun x => x = ga ∨ x = ga + 1) (p := ⟨ga, 0, none⟩) (Fr.refl (fun x => x = ga ∨ x = ga + 1) w5) (fun _ => .inl rfl) _) (fun _ => .inl rfl) _) (fun _ => .inl rfl) _) (fun _ => .inl rfl) _) (fun _ => .inl rfl) _) (fun _ => .inl rfl) _) (fun _ => .inl rfl) _) (fun _ => .inl rfl) _) (fun _ => .inl rfl) _) (fun _ => .inl rfl) _) (fun _ => .inr rfl) _) (fun _ => .inr rfl) _) (fun _ => .inr rfl) _).drew) (fun hHeld => ?_)
        clear hK K
        try change wpAnyH _ _ _ _ _ _ _ (Act.put _ none _) _
        try simp only [Act.put, List.setIfInBounds_toArray, List.set_cons_zero, List.set_cons_succ]
        refine wpAnyH_done (by kernel_rfl) ?_ _
        go_wp2
        refine bodyPost_ret (v := .tuple #[.agg #[.int .i64 0, .int .i64 0, .int .i64 0, .int .i64 0, .int .i64 0, .int .i64 0, .int .i64 0, .int .i64 0, .slice none 0 0, .slice none 0 0], .agg #[.int .i64 er, .int .i64 a, .string wh]]) (by simp [results, Tryd.results7, go_sem, e0, e1, e2, e3, e4, e5, e6, e7, e8, e9, u0, u1, u2]) rfl ?_
        exact FINZ.out w5 _ er a wh HC5.out.rs hHeld HS.out HNE.out
end Go.Proofs.YtblfnbmgijppmaaDoor
