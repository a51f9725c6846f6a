/- Two calls that are the same: the law function sameCall. -/
import Derived.Test.YtblfnbmgijppmaaDoorKc
import Derived.Test.YtblfnbmgijppmaaDoorStr
namespace Go.Proofs.YtblfnbmgijppmaaDoor
open Go.RowKit

set_option maxRecDepth 100000 in
set_option maxHeartbeats 8000000 in
theorem sameCall_any (x y : CI) (w : World) {P Q : Nat → Prop} (hx : x.At w P) (hy : y.At w Q) (he : x.cl = y.cl) (hl : x.ds.length ≤ 1048576) :
    Calls Tryd.prog 9 #[.agg x.cells, .agg y.cells] w fun e w' => e = .returned (.bool true) ∧ Fr (fun _ => False) w w' := by
  obtain ⟨a0, a1, a2, a3, t0, t1, t2, t3, bA, bc, bs, lA, lc, ds⟩ := x
  obtain ⟨_, _, _, _, _, _, _, _, bA', bc', _, lA', lc', ds'⟩ := y
  unfold CI.cl at he
  simp only [Cl.mk.injEq] at he
  obtain ⟨rfl, rfl, rfl, rfl, rfl, rfl, rfl, rfl, rfl, hds⟩ := he
  simp only [CI.cells]
  have hlen : ds'.length = ds.length := by have := congrArg List.length hds; simpa using this.symm
  rw [hlen]
  obtain ⟨W, hW⟩ : ∃ W, (w.alloc (.cells #[.int .i64 a0, .int .i64 a1, .int .i64 a2, .int .i64 a3, .int .i64 t0, .int .i64 t1, .int .i64 t2, .int .i64 t3, .slice bA bs.length bc, .slice lA ds.length lc] 27)).alloc (.cells #[.int .i64 a0, .int .i64 a1, .int .i64 a2, .int .i64 a3, .int .i64 t0, .int .i64 t1, .int .i64 t2, .int .i64 t3, .slice bA' bs.length bc', .slice lA' ds.length lc'] 27) = W := ⟨_, rfl⟩
  obtain ⟨gx, hgx⟩ : ∃ gx, w.heap.size = gx := ⟨_, rfl⟩
  have fW : Fr (fun _ => False) w W := by rw [← hW]; exact ((Fr.refl _ _).alloc _).alloc _
  have b1 : Bk W gx 27 #[.int .i64 a0, .int .i64 a1, .int .i64 a2, .int .i64 a3, .int .i64 t0, .int .i64 t1, .int .i64 t2, .int .i64 t3, .slice bA bs.length bc, .slice lA ds.length lc] := by rw [← hW, ← hgx]; exact (Bk.new _ _ _).alloc _
  have b2 : Bk W (gx + 1) 27 #[.int .i64 a0, .int .i64 a1, .int .i64 a2, .int .i64 a3, .int .i64 t0, .int .i64 t1, .int .i64 t2, .int .i64 t3, .slice bA' bs.length bc', .slice lA' ds.length lc'] := by
    rw [← hW, ← hgx]
    have := Bk.new (w.alloc (.cells #[.int .i64 a0, .int .i64 a1, .int .i64 a2, .int .i64 a3, .int .i64 t0, .int .i64 t1, .int .i64 t2, .int .i64 t3, .slice bA bs.length bc, .slice lA ds.length lc] 27)) 27 #[.int .i64 a0, .int .i64 a1, .int .i64 a2, .int .i64 a3, .int .i64 t0, .int .i64 t1, .int .i64 t2, .int .i64 t3, .slice bA' bs.length bc', .slice lA' ds.length lc']
    simpa using this
  have c0 := b1.cell 0
  have c1 := b1.cell 1
  have c2 := b1.cell 2
  have c3 := b1.cell 3
  have c4 := b1.cell 4
  have c5 := b1.cell 5
  have c6 := b1.cell 6
  have c7 := b1.cell 7
  have c8 := b1.cell 8
  have c9 := b1.cell 9
  have e0 := b2.cell 0
  have e1 := b2.cell 1
  have e2 := b2.cell 2
  have e3 := b2.cell 3
  have e4 := b2.cell 4
  have e5 := b2.cell 5
  have e6 := b2.cell 6
  have e7 := b2.cell 7
  have e8 := b2.cell 8
  have e9 := b2.cell 9
  simp only [List.getElem?_toArray, List.getElem?_cons_zero, List.getElem?_cons_succ] at c0 c1 c2 c3 c4 c5 c6 c7 c8 c9 e0 e1 e2 e3 e4 e5 e6 e7 e8 e9
  have s1 := run_str8 (w := W) Tryd.t8 Tryd.underlying5 Tryd.underlying9 bc (hx.rb.fr fW (fun _ _ _ h => h)) rfl
  have s2 := run_str8 (w := W) Tryd.t8 Tryd.underlying5 Tryd.underlying9 bc' (hy.rb.fr fW (fun _ _ _ h => h)) rfl
  simp only at s1 s2
  have HX := Lib.hid (hx.ds.fr fW (fun _ _ h => h))
  have HY := Lib.hid (hy.ds.fr fW (fun _ _ h => h))
  have HDS := Lib.hid hds
  have HLEN := Lib.hid hlen
  have HB1 := Lib.hid b1
  have HB2 := Lib.hid b2
  have HFW := Lib.hid fW
  have hl' : (ds.length : Int) ≤ 1048576 := by simp only at hl; omega
  have hss : ((strOf bs).toList == (strOf bs).toList) = true := by simp
  have hsn : ((strOf bs).toList != (strOf bs).toList) = false := by simp
  clear hx hy hds hlen b1 b2 fW hl
  go_enter Tryd.func9, Tryd.ntmps9
  go_wp2_with fail
  clear hW hgx c0 c1 c2 c3 c4 c5 c6 c7 c8 e0 e1 e2 e3 e4 e5 e6 e7 e8 s1 s2 hss hsn c9 e9
  go_loopw [5] (fun i wr => ∃ k : Nat, k ≤ ds.length ∧ i = .int .i64 k ∧ Fr (fun _ => False) W wr) (fun i _ => ds.length - (intOf i).toNat)
  case atStart => exact ⟨0, Nat.zero_le _, rfl, Fr.refl _ _⟩
  case round =>
    obtain ⟨k, hk, rfl, hf⟩ := hrel
    have c9 := (HB1.out.fr hf (fun h => h)).cell 9
    have e9 := (HB2.out.fr hf (fun h => h)).cell 9
    simp only [List.getElem?_toArray, List.getElem?_cons_zero, List.getElem?_cons_succ] at c9 e9
    have HF := Lib.hid hf
    clear hf
    by_cases hlt : k < ds.length
    · obtain ⟨b, o, rfl, ha⟩ := (HX.out.fr HF.out (fun _ _ h => h)).at_ hlt
      obtain ⟨b', o', rfl, ha'⟩ := (HY.out.fr HF.out (fun _ _ h => h)).at_ (i := k) (by have := HLEN.out; omega)
      have hdd : (ds.getD k default).d = (ds'.getD k default).d := by
        have h1 := congrArg (fun l => l[k]?) HDS.out
        simp only [List.getElem?_map] at h1
        rw [List.getElem?_eq_getElem hlt, List.getElem?_eq_getElem (by have := HLEN.out; omega)] at h1
        simp only [Option.map_some, Option.some.injEq] at h1
        simp [List.getD, hlt, show k < ds'.length by have := HLEN.out; omega, h1]
      generalize ds.getD k default = p at *
      generalize ds'.getD k default = q at *
      obtain ⟨d, pA, pc⟩ := p
      obtain ⟨_, qA, qc⟩ := q
      simp only at hdd
      subst hdd
      obtain ⟨q0, q1, q2, q3, q4⟩ : _ ∧ _ ∧ _ ∧ _ ∧ _ := ⟨ha.c0, ha.c1, ha.c2, ha.c3, ha.c4⟩
      obtain ⟨r0, r1, r2, r3, r4⟩ : _ ∧ _ ∧ _ ∧ _ ∧ _ := ⟨ha'.c0, ha'.c1, ha'.c2, ha'.c3, ha'.c4⟩
      obtain ⟨X, hX⟩ : ∃ X, (wr.alloc (.cells #[.int .i64 d.k, .int .i64 d.i, .int .i64 d.l, .int .i64 d.n, .slice pA d.bs.length pc] 30)).alloc (.cells #[.int .i64 d.k, .int .i64 d.i, .int .i64 d.l, .int .i64 d.n, .slice qA d.bs.length qc] 30) = X := ⟨_, rfl⟩
      obtain ⟨gd, hgd⟩ : ∃ gd, wr.heap.size = gd := ⟨_, rfl⟩
      have bX1 : Bk X gd 30 #[.int .i64 d.k, .int .i64 d.i, .int .i64 d.l, .int .i64 d.n, .slice pA d.bs.length pc] := by rw [← hX, ← hgd]; exact (Bk.new _ _ _).alloc _
      have bX2 : Bk X (gd + 1) 30 #[.int .i64 d.k, .int .i64 d.i, .int .i64 d.l, .int .i64 d.n, .slice qA d.bs.length qc] := by
        rw [← hX, ← hgd]
        have := Bk.new (wr.alloc (.cells #[.int .i64 d.k, .int .i64 d.i, .int .i64 d.l, .int .i64 d.n, .slice pA d.bs.length pc] 30)) 30 #[.int .i64 d.k, .int .i64 d.i, .int .i64 d.l, .int .i64 d.n, .slice qA d.bs.length qc]
        simpa using this
      have x0 := bX1.cell 0
      have x1 := bX1.cell 1
      have x2 := bX1.cell 2
      have x3 := bX1.cell 3
      have x4 := bX1.cell 4
      have z0 := bX2.cell 0
      have z1 := bX2.cell 1
      have z2 := bX2.cell 2
      have z3 := bX2.cell 3
      have z4 := bX2.cell 4
      simp only [List.getElem?_toArray, List.getElem?_cons_zero, List.getElem?_cons_succ] at x0 x1 x2 x3 x4 z0 z1 z2 z3 z4
      clear bX1 bX2
      have fX : Fr (fun _ => False) wr X := by rw [← hX]; exact ((Fr.refl _ _).alloc _).alloc _
      have fX1 : Fr (fun _ => False) wr (wr.alloc (.cells #[.int .i64 d.k, .int .i64 d.i, .int .i64 d.l, .int .i64 d.n, .slice pA d.bs.length pc] 30)) := (Fr.refl _ _).alloc _
      have hb' := (ha'.fr fX1 (fun _ _ h => h))
      obtain ⟨m0, m1, m2, m3, m4⟩ : _ ∧ _ ∧ _ ∧ _ ∧ _ := ⟨hb'.c0, hb'.c1, hb'.c2, hb'.c3, hb'.c4⟩
      have n9 := (HB2.out.fr (HF.out.trans fX1 (fun _ _ h => h)) (fun h => h)).cell 9
      simp only [List.getElem?_toArray, List.getElem?_cons_zero, List.getElem?_cons_succ] at n9
      have s1 := run_str8 (w := X) Tryd.t8 Tryd.underlying5 Tryd.underlying9 pc (ha.rb.fr fX (fun _ _ _ h => h)) rfl
      have s2 := run_str8 (w := X) Tryd.t8 Tryd.underlying5 Tryd.underlying9 qc (ha'.rb.fr fX (fun _ _ _ h => h)) rfl
      simp only at s1 s2 q0 q1 q2 q3 q4 r0 r1 r2 r3 r4 m0 m1 m2 m3 m4
      have hss : ((strOf d.bs).toList == (strOf d.bs).toList) = true := by simp
      have hsn : ((strOf d.bs).toList != (strOf d.bs).toList) = false := by simp
      have HFX := Lib.hid (HF.out.trans fX (fun _ _ h => h))
      have hk0 : (0 : Int) ≤ (k : Int) := by omega
      have hk1 : (k : Int) < (ds.length : Int) := by omega
      clear ha ha' hb' fX fX1
      go_wp2
      clear hX hgd
      go_roundw
      case rel => exact ⟨k + 1, by omega, by go_num, HFX.out⟩
      case measure => simp [intOf]; omega
    · obtain rfl : k = ds.length := by omega
      go_wp2
      go_ret
      exact ⟨rfl, HFW.out.trans HF.out (fun _ _ h => h)⟩
end Go.Proofs.YtblfnbmgijppmaaDoor
