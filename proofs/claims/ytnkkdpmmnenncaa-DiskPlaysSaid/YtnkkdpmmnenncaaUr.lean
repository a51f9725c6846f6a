/- The walk of DiskAll. -/
import Derived.Test.YtnkkdpmmnenncaaUn
import Derived.Test.YtnkkdpmmnenncaaUq
namespace Go.Proofs.Ytnkkdpmmnenncaa
open Go.RowKit Go.Maps

def blkOf (f : UInt8) : List UInt8 := (Z64.set 0 f).set 1 1
theorem blkOf_len (f : UInt8) : (blkOf f).length = 64 := by simp [blkOf, Z64]
theorem blkOf_0 (f : UInt8) : (blkOf f)[0]? = some f := rfl
theorem blkOf_1 (f : UInt8) : (blkOf f)[1]? = some 1 := rfl
def Z31 : List UInt8 := List.replicate (31 * 64) 0
def l0 : DS := DS.new 31 64
/-- Behind so many writes, one a sector. -/
structure LInv (s : DS) (fs : List UInt8) (k : Nat) : Prop where
  N : s.N = 31
  sz : s.sz = 64
  off : s.off = false
  left : s.left = 0
  keep : s.keep = []
  kept : s.kept = Z31
  q : s.q.length = k
  wr : s.writes = k
  at_ : ∀ j, j < k → pAt s.q j = (j, blkOf (fs.getD j 0))
theorem l0_inv (fs : List UInt8) : LInv l0 fs 0 := ⟨rfl, rfl, rfl, rfl, rfl, rfl, rfl, rfl, fun j hj => by omega⟩
theorem LInv.write {s : DS} {fs : List UInt8} {k : Nat} (h : LInv s fs k) (hk : k < 31) : s.wErr (k : Int) (blkOf (fs.getD k 0)) = 0 ∧ LInv (s.write (k : Int) (blkOf (fs.getD k 0))) fs (k + 1) := by
  have he : s.err (k : Int) = 0 := by unfold DS.err; rw [h.off, if_neg (by simp), if_neg (by rw [h.N]; omega)]
  obtain ⟨e1, e2⟩ := write_add he (b := blkOf (fs.getD k 0)) (by rw [blkOf_len, h.sz]) (by rw [h.left]; omega)
  rw [e1, e2, Int.toNat_natCast]
  refine ⟨rfl, h.N, h.sz, h.off, ?_, h.keep, h.kept, ?_, ?_, fun j hj => ?_⟩
  · show s.left - 1 = 0; rw [h.left]
  · show (s.q ++ [_]).length = _; rw [List.length_append, h.q]; rfl
  · show s.writes + 1 = _; rw [h.wr]
  · show pAt (s.q ++ [_]) j = _
    rcases Nat.lt_or_ge j k with h1 | h1
    · rw [pAt_app (by rw [h.q]; exact h1)]; exact h.at_ j h1
    · obtain rfl : j = k := by omega
      have := pAt_last s.q (j, blkOf (fs.getD j 0))
      rw [h.q] at this; exact this
theorem z31_piece (i : Nat) (hi : i < 31) : (pieceOf 64 Z31 i)[0]? = some 0 ∧ (pieceOf 64 Z31 i)[1]? = some 0 := by
  rw [piece_at (by omega), piece_at (by omega)]
  unfold Z31
  rw [List.getElem?_replicate_of_lt (by omega), List.getElem?_replicate_of_lt (by omega)]
  exact ⟨rfl, rfl⟩
/-- What each sector holds behind the cut. -/
theorem LInv.cut {s : DS} {fs : List UInt8} {k : Nat} (h : LInv s fs k) (ok : s.ok) (keep : List Bool) (i : Nat) (hi : i < k) (hk : k ≤ 31) :
    ((s.cut keep).on.err (i : Int) = 0) ∧ ((s.cut keep).on.sz = 64) ∧ ((s.cut keep).on.q.length = 0) ∧ ((s.cut keep).on.read i)[0]? = some (if kOf keep i = true then fs.getD i 0 else 0) ∧ ((s.cut keep).on.read i)[1]? = some (if kOf keep i = true then 1 else 0) := by
  have hp := keepN_own ok (kOf keep) (fun j hj => by rw [h.at_ j (by rw [← h.q]; exact hj)]) i (by rw [h.q]; exact hi) s.q.length (Nat.le_refl _)
  have hr : (s.cut keep).on.read i = pieceOf s.sz (keepN s.sz s.q (kOf keep) s.kept s.q.length) i := read_piece rfl
  have he : (s.cut keep).on.err (i : Int) = 0 := by
    unfold DS.err
    rw [show (s.cut keep).on.off = false from rfl, if_neg (by simp), if_neg (by show ¬ ((i : Int) < 0 ∨ (s.N : Int) ≤ i); rw [h.N]; omega)]
  refine ⟨he, h.sz, rfl, ?_⟩
  rw [hr, hp, h.at_ i hi, h.q]
  by_cases hf : kOf keep i = true
  · rw [if_pos ⟨hi, hf⟩, if_pos hf, if_pos hf]
    exact ⟨blkOf_0 _, blkOf_1 _⟩
  · rw [if_neg (fun h => hf h.2), if_neg hf, if_neg hf, h.sz, h.kept]
    exact z31_piece i (by omega)

theorem l0_new (w : World) :
    Calls Try.prog 10 #[.int .i64 31, .int .i64 64] w fun e w' => ∃ g F, e = .returned (.tuple #[.pointer (some ⟨g, 0, none⟩), .int .i64 0]) ∧ RunF w w' g l0 F := by
  refine (new_any 31 64 w (by omega) (by omega) (by omega) (by omega)).mono ?_
  rintro e w1 ⟨g, F, rfl, h1, h2, h3⟩
  exact ⟨g, F, rfl, h1, h2, h3⟩
theorem Rd8.at_ {w : World} {A : Option Addr} {xs : List UInt8} (h : Rd8 w A xs) {k : Nat} (hk : k < xs.length) : ∃ b o, A = some ⟨b, o, none⟩ ∧ w.cell? ⟨b, o + k, none⟩ = some (.int .u8 ((xs.getD k 0).toNat : Int)) := by
  obtain ⟨⟨b, o, sp⟩, e, hsp, hc⟩ := h (by omega)
  cases hsp
  refine ⟨b, o, e, ?_⟩
  have := hc k hk
  rw [show xs.getD k 0 = xs[k] by simp [List.getD, hk]]
  exact this
theorem RdB.at_ {w : World} {A : Option Addr} {xs : List Bool} (h : RdB w A xs) {k : Nat} (hk : k < xs.length) : ∃ b o, A = some ⟨b, o, none⟩ ∧ w.cell? ⟨b, o + k, none⟩ = some (.bool (kOf xs k)) := by
  obtain ⟨⟨b, o, sp⟩, e, hsp, hc⟩ := h (by omega)
  cases hsp
  refine ⟨b, o, e, ?_⟩
  have := hc k hk
  rw [show kOf xs k = xs[k] by unfold kOf; simp [List.getD, hk]]
  exact this
theorem kOf_past {xs : List Bool} {k : Nat} (h : xs.length ≤ k) : kOf xs k = false := by unfold kOf; simp [List.getD, h]

set_option maxRecDepth 100000 in
set_option maxHeartbeats 4000000 in
theorem all_in (A : Option Addr) (n c : Nat) (fs : List UInt8) (B : Option Addr) (m d : Nat) (ks : List Bool) (w : World) (hr : Rd8 w A fs) (hn : fs.length = n) (hrb : RdB w B ks) (hm : ks.length = m) (hn1 : n ≤ 30) (hm1 : m ≤ 100) :
    Calls Try.prog 5 #[.slice A n c, .slice B m d] w fun e w' => e = .returned (.bool true) ∧ Fr (fun _ => False) w w' := by
  obtain ⟨cur, HC, hj, hsz, hmk⟩ := Try.make64c
  have hc0 := hj 0 (by omega)
  have hc1 := hj 1 (by omega)
  clear hj
  have HR := Lib.hid hr
  have HRB := Lib.hid hrb
  have HN := Lib.hid hn
  have HM := Lib.hid hm
  clear hr hrb hn hm
  go_enter Try.func5, Try.ntmps5
  go_wp2_with fail
  refine (known_any w).mono ?_; rintro e w0 ⟨rfl, hf0⟩
  go_wp2_with fail
  refine (l0_new w0).mono ?_; rintro e w1 ⟨g, F, rfl, h1⟩
  have H1 := Lib.hid (show RunF w w1 g l0 F from ⟨h1.dsk, fun k hk => Nat.le_trans hf0.size (h1.low k hk), hf0.trans h1.fr (fun _ _ h => h)⟩)
  clear h1 hf0
  go_wp2_with fail
  go_loopw [7] (fun i wr => ∃ (k : Nat) (s : DS) (F : Nat → Prop), k ≤ n ∧ i = .int .i64 k ∧ LInv s fs k ∧ RunF w wr g s F) (fun i _ => n - (intOf i).toNat)
  case atStart => exact ⟨0, l0, F, by omega, rfl, l0_inv fs, H1.out⟩
  case round =>
    obtain ⟨k, s, F1, hk, rfl, hinv, hrun⟩ := hrel
    have HI := Lib.hid hinv
    have HX := Lib.hid hrun
    clear hinv hrun H1
    by_cases hlt : k < n
    · obtain ⟨fb, fo, rfl, hcell⟩ := Rd8.at_ (HR.out.fr HX.out.fr (fun _ _ _ h => h)) (k := k) (by rw [HN.out]; exact hlt)
      have hcell2 : (wr.alloc (.cells cur 5)).cell? ⟨fb, fo + k, none⟩ = some (.int .u8 ((fs.getD k 0).toNat : Int)) :=
        (Fr.cell (Fr.alloc (Fr.refl (fun _ => False) wr) (.cells cur 5)) (p := ⟨fb, fo + k, none⟩) (World.block_lt_of_cell? wr _ hcell) (fun h => h)).trans hcell
      have hfb : (((fs.getD k 0).toNat : Nat) : Int) ≤ 255 := by have := (fs.getD k 0).toNat_lt; omega
      have hW := HI.out.write (by omega)
      have C1 := Lib.hid (fun (hl : Loc (wr.alloc (.cells ((cur.setIfInBounds 0 (.int .u8 ((fs.getD k 0).toNat : Int))).setIfInBounds 1 (.int .u8 1)) 5)) wr.heap.size (blkOf (fs.getD k 0))) =>
        RunF.writeL (HX.out.on0 ((Fr.refl _ _).alloc (.cells ((cur.setIfInBounds 0 (.int .u8 ((fs.getD k 0).toNat : Int))).setIfInBounds 1 (.int .u8 1)) 5))) (by rw [HI.out.q]; omega) (by rw [HI.out.wr]; omega) (by rw [HI.out.keep]; simp) (k : Int) wr.heap.size 64 64 _ hl (blkOf_len _) (fun h => by have := HX.out.lt h; omega))
      rw [hW.1] at C1
      have HW := Lib.hid hW.2
      have HL : Hid (Loc (wr.alloc (.cells ((cur.setIfInBounds 0 (.int .u8 ((fs.getD k 0).toNat : Int))).setIfInBounds 1 (.int .u8 1)) 5)) wr.heap.size (blkOf (fs.getD k 0))) := Lib.hid (by
        refine Loc.of (Bk.new wr _ _) ?_
        rw [cur_set HC.out 0]
        have := cur_set (cur := ((Z64.set 0 (fs.getD k 0)).map B8).toArray) (i := 1) (b := 1)
        rw [List.setIfInBounds_toArray]
        unfold blkOf
        rw [List.map_set (i := 1)]; rfl)
      clear hW
      generalize (fs.getD k 0) = f at *
      go_wp2_with fail
      refine (C1.out HL.out).mono ?_; rintro e w3 ⟨rfl, F3, R3, f3, n3⟩
      have HR3 := Lib.hid R3
      clear C1 R3 f3 n3 HL HX HI hcell hcell2
      go_wp2
      go_roundw
      case rel => exact ⟨k + 1, _, F3, by omega, by go_num, HW.out, HR3.out⟩
      case measure => simp [intOf]; omega
    · obtain rfl : k = n := by omega
      clear hmk hc0 hc1 hsz HC
      have hrb2 := HRB.out.fr HX.out.fr (fun _ _ _ h => h)
      have C1 := Lib.hid (HX.out.cut (by rw [HI.out.q]; omega) B m d ks hrb2 HM.out (by omega) (fun ad e h0 h => by
        have h1 := HX.out.low _ h
        have h2 : ad.block < w.heap.size := RdB.lt (w := w) (e ▸ HRB.out) h0
        omega))
      have HK := Lib.hid (fun i hi => HI.out.cut HX.out.dsk.ok ks i hi (by omega))
      have HWR := Lib.hid (show (s.writes : Int) = (k : Int) by rw [HI.out.wr])
      clear hrb2
      go_wp2_with fail
      refine C1.out.mono ?_; rintro e w3 ⟨rfl, F3, R3, f3, n3⟩
      have C2 := Lib.hid R3.onC
      clear C1 R3 f3 n3 HX HI
      go_wp2_with fail
      refine C2.out.mono ?_; rintro e w4 ⟨rfl, F4, R4, f4, n4⟩
      have HR4 := Lib.hid R4
      clear C2 R4 f4 n4
      generalize hs4 : (s.cut ks).on = s4 at *
      have HWR4 := Lib.hid (show (s4.writes : Int) = (k : Int) by rw [← hs4]; exact HWR.out)
      clear hs4 HWR
      go_wp2_with fail
      go_loopw [9] (fun i wr => ∃ (j : Nat), j ≤ k ∧ i = .int .i64 j ∧ RunF w wr g s4 F4) (fun i _ => k - (intOf i).toNat)
      case atStart => exact ⟨0, by omega, rfl, HR4.out⟩
      case round =>
        obtain ⟨j, hj, rfl, hrun⟩ := hrel
        have HX := Lib.hid hrun
        clear hrun HR4
        by_cases hlt2 : j < k
        · obtain ⟨e1, e2, e3, e4, e5⟩ := HK.out j hlt2
          have C3 := Lib.hid (HX.out.read (by rw [e3]; omega) j e1)
          rw [e2] at C3
          have HE4 := Lib.hid e4
          have HE5 := Lib.hid e5
          clear e1 e2 e3 e4 e5
          go_wp2_with fail
          refine C3.out.mono ?_; rintro e w5 ⟨kx, cx, rfl, o5, R5, f5, n5⟩
          have x0 := read_at HE4.out o5
          have x1 := read_at HE5.out o5
          obtain ⟨fb, fo, rfl, hcell⟩ := Rd8.at_ (HR.out.fr R5.fr (fun _ _ _ h => h)) (k := j) (by rw [HN.out]; exact hlt2)
          have HX5 := Lib.hid R5
          have hrb5 := HRB.out.fr R5.fr (fun _ _ _ h => h)
          clear C3 o5 R5 f5 n5 HE4 HE5
          by_cases hjm : j < m
          · obtain ⟨bb, bo, rfl, hbc⟩ := RdB.at_ hrb5 (k := j) (by rw [HM.out]; exact hjm)
            clear hrb5
            generalize (fs.getD j 0) = f at *
            by_cases hkk : kOf ks j = true
            · rw [hkk] at hbc
              rw [if_pos hkk] at x0 x1
              clear hkk
              go_wp2_with fail
              go_quiet (fail)
              go_wp2
              go_roundw
              case rel => exact ⟨j + 1, by omega, by go_num, HX5.out.on0 ((Fr.refl _ _).drewN _)⟩
              case measure => simp [intOf]; omega
            · have hkf : kOf ks j = false := by simpa using hkk
              rw [hkf] at hbc
              rw [if_neg hkk] at x0 x1
              clear hkk hkf
              go_wp2_with fail
              go_quiet (fail)
              go_wp2
              go_roundw
              case rel => exact ⟨j + 1, by omega, by go_num, HX5.out.on0 ((Fr.refl _ _).drewN _)⟩
              case measure => simp [intOf]; omega
          · have hkf : ¬ kOf ks j = true := by rw [kOf_past (by rw [HM.out]; omega)]; simp
            rw [if_neg hkf] at x0 x1
            clear hkf hrb5
            generalize (fs.getD j 0) = f at *
            go_wp2_with fail
            go_quiet (fail)
            go_wp2
            go_roundw
            case rel => exact ⟨j + 1, by omega, by go_num, HX5.out.on0 ((Fr.refl _ _).drewN _)⟩
            case measure => simp [intOf]; omega
        · obtain rfl : j = k := by omega
          have C3 := Lib.hid (writes_any HX.out.dsk)
          rw [HWR4.out] at C3
          go_wp2_with fail
          refine C3.out.mono ?_; rintro e w5 ⟨rfl, rfl⟩
          go_wp2
          go_ret
          exact ⟨rfl, HX.out.fr⟩

set_option maxRecDepth 100000 in
set_option maxHeartbeats 4000000 in
theorem all_any (A : Option Addr) (n c : Nat) (fs : List UInt8) (B : Option Addr) (m d : Nat) (ks : List Bool) (w : World) (hr : Rd8 w A fs) (hn : fs.length = n) (hrb : RdB w B ks) (hm : ks.length = m) (hnc : (n : Int) ≤ 9223372036854775807) (hmc : (m : Int) ≤ 9223372036854775807) :
    Calls Try.prog 5 #[.slice A n c, .slice B m d] w fun e w' => e = .returned (.bool true) ∧ Fr (fun _ => False) w w' := by
  by_cases h1 : n ≤ 30
  · by_cases h2 : m ≤ 100
    · exact all_in A n c fs B m d ks w hr hn hrb hm h1 h2
    · have h2' : (100 : Int) < m := by omega
      have h1' : (n : Int) ≤ 30 := by omega
      have h1f : decide ((30 : Int) < n) = false := by simp; omega
      clear hr hn hrb hm h2
      go_enter Try.func5, Try.ntmps5
      go_wp2_with fail
      refine (known_any w).mono ?_; rintro e w0 ⟨rfl, hf0⟩
      go_wp2
      go_ret
      exact ⟨rfl, hf0⟩
  · have h1' : (30 : Int) < n := by omega
    clear hr hn hrb hm h1
    go_enter Try.func5, Try.ntmps5
    go_wp2_with fail
    refine (known_any w).mono ?_; rintro e w0 ⟨rfl, hf0⟩
    go_wp2
    go_ret
    exact ⟨rfl, hf0⟩
end Go.Proofs.Ytnkkdpmmnenncaa
