/- match: All's closure: it gives each task, list by list. -/
import Derived.Test.YtkinbcmnfpkncaaSc
namespace Go.Proofs.Ytkinbcmnfpkncaa
open Go.RowKit Go.Maps Go.Shelf

attribute [local go_sem] Oper.semAt_some

theorem round_in {n : Nat} {l : Nat} {f : FuncId} {tmps : Array Value} {asg bo : Code} {w : World} {R : Ending → World → Prop} (l2 : Nat) (h : RoundIn Fence.wide n Try.prog l f tmps asg bo w R) : RoundIn (Fence.wide.inRound l2) n Try.prog l f tmps asg bo w R := h

set_option maxRecDepth 100000 in
set_option maxHeartbeats 4000000 in
theorem all_gives {B : Nat} {t : MT Int} {ns : List Int} {ka kb : Nat} {A : Option Addr} {c : Nat} {Q : Option Addr} {cq : Nat} {w : World} (h : AF B t ns ka kb A c Q cq w) (hB : B ≤ w.heap.size) (hr : ∀ x, (t.row x).length ≤ 1048576) (hn : ns.length ≤ 1000000) :
    Gives 8 47 #[.pointer (some ⟨ka, 0, none⟩), .pointer (some ⟨kb, 0, none⟩)] (fun p : Int × Int => #[.int .i64 p.1, .int .i64 p.2]) (Kc B) (fun xs => xs = allM t ns) (fun pre x => (allM t ns)[pre.length]? = some x) w := fun l J W hW hJ hY h0 => by
  have hAF : AF B t ns ka kb A c Q cq W := h.up (fun p u _ hp => (hW.cell (p := p) (World.block_lt_of_cell? w _ hp)).trans hp)
  have hBW : B ≤ W.heap.size := Nat.le_trans hB hW.size
  clear h hB hW
  obtain ⟨b3, hb3⟩ : ∃ b3, W.heap.size = b3 := ⟨_, rfl⟩
  rw [hb3] at hBW hJ hY
  obtain ⟨W1, hW1⟩ : ∃ W1, W.alloc (.cells #[.func (.yield l) #[] #[]] 90) = W1 := ⟨_, rfl⟩
  have HL1 : Hid (LI J B t ns ka kb A c Q cq l b3 [] [] W1) := Lib.hid (by
    rw [← hW1]
    refine ⟨hJ.alloc _ h0, hAF.kc (Kc.fr ((Fr.refl (fun _ => False) _).alloc _) (fun _ h => h.elim)), by rw [← hb3]; exact Bk.new _ _ _, by simp; omega, List.nodup_nil, fun D hD => by cases hD⟩)
  have HJ := Lib.hid hJ
  have HY := Lib.hid hY
  have HR := Lib.hid hr
  have HB : Hid (B ≤ b3) := Lib.hid hBW
  have hna := HL1.out.af.na
  obtain ⟨N, hN⟩ : ∃ N, ns.length = N := ⟨_, rfl⟩
  have HN := Lib.hid hN
  have HNL : Hid (N ≤ 1000000) := Lib.hid (by rw [← hN]; exact hn)
  rw [hN] at hna
  clear hAF hJ hY hr hBW hN hn h0
  refine callsIn_of_wp_marks Try.func47 rfl trivial ?_ rfl
  simp only [Try.ntmps47, List.size_toArray, List.length_cons, List.length_nil, Nat.reduceAdd, Nat.reduceSub, Array.replicate_succ, Array.replicate_zero, List.push_toArray, List.append_toArray, List.nil_append, List.cons_append]
  gi_wp2
  refine wpIn_loop (fun a W' => ∃ (k : Nat) (ds : List Nat) (u4 u5 u10 u11 u12 u13 u14 u15 u16 u17 u25 : Value), k ≤ N ∧ a = { tmps := #[.func (.yield l) #[] #[], .pointer (some ⟨ka, 0, none⟩), .pointer (some ⟨kb, 0, none⟩), .pointer (some ⟨b3, 0, none⟩), u4, u5, undef, .slice A N c, .int .i64 (N : Int), .int .i64 (k : Int), u10, u11, u12, u13, u14, u15, u16, u17, undef, undef, undef, undef, undef, undef, undef, u25], defers := ds.map fun D => { target := .collected D, args := #[] } } ∧ Hid (LI J B t ns ka kb A c Q cq l b3 ds (allM t (ns.take k)) W'))
    (fun a _ => N - (intOf (a.tmps.getD 9 undef)).toNat) ?start ?round
  case start => exact ⟨0, [], _, _, _, _, _, _, _, _, _, _, _, Nat.zero_le _, rfl, HL1⟩
  case round =>
    rintro a W2 ⟨k, ds, u4, u5, u10, u11, u12, u13, u14, u15, u16, u17, u25, hk, rfl, HL⟩
    clear hna hW1 HL1
    by_cases hlt : k < N
    · have di : decide ((k : Int) < (N : Int)) = true := decide_eq_true (by omega)
      have di' : decide (k < N) = true := decide_eq_true hlt
      have k0 : (0 : Int) ≤ (k : Int) := by omega
      have k1 : (k : Int) < (N : Int) := by omega
      have hkl : k < ns.length := by rw [HN.out]; exact hlt
      have hwk := wrap_succ (k := k) (by have := HNL.out; omega)
      have HLT := Lib.hid hlt
      obtain ⟨x, hx⟩ : ∃ x, ns[k] = x := ⟨_, rfl⟩
      have HX := Lib.hid hx
      obtain ⟨b9, o9, rfl, hB9, c9⟩ := HL.out.af.nm k hkl
      obtain ⟨q, o, kk, v, rfl, hBq, -, -, -, -, -⟩ := HL.out.af.row k hkl
      rw [hx] at c9
      obtain ⟨W5, hW5⟩ : ∃ W5, W2.alloc (.cells #[.int .i64 x] 3) = W5 := ⟨_, rfl⟩
      obtain ⟨b5, hb5⟩ : ∃ b5, W2.heap.size = b5 := ⟨_, rfl⟩
      have HL5 : Hid (LI J B t ns ka kb (some ⟨b9, o9, none⟩) c (some ⟨q, o, none⟩) cq l b3 ds (allM t (ns.take k)) W5) := Lib.hid (by rw [← hW5]; exact HL.out.alloc HJ.out _)
      have HB5 : Hid (Bk W5 b5 3 #[.int .i64 x]) := Lib.hid (by rw [← hW5, ← hb5]; exact Bk.new _ _ _)
      have HS5 : Hid (b3 ≤ W5.heap.size ∧ b3 ≤ b5) := Lib.hid ⟨Nat.le_of_lt HL5.out.sz, by rw [← hb5]; exact Nat.le_of_lt HL.out.sz⟩
      have cb := HL5.out.af.nb
      rw [HN.out] at cb
      obtain ⟨q', o', kk', v', e, -, cq', -, ck, hvB, hsl⟩ := HL5.out.af.row k hkl
      injection e with e
      injection e with e1 e2 _
      subst e1 e2
      rw [hx] at hsl
      obtain ⟨r, hrr⟩ : ∃ r, t.row x = r := ⟨_, rfl⟩
      have HRR := Lib.hid hrr
      rw [hrr] at hsl
      have hrl : r.length ≤ 1048576 := by rw [← hrr]; exact HR.out x
      have hds : ∀ D ∈ ds, D < W5.heap.size := fun D hD => (Array.getElem?_eq_some_iff.1 (HL5.out.dd D hD).2).1
      clear hk hlt HL hx hrr hBq hB9
      unfold SeqV at cq'
      gi_wp2
      have HI2 : OwnFrom W5.heap.size (fun (pre : List (Fin r.length)) W' => LI J B t ns ka kb (some ⟨b9, o9, none⟩) c (some ⟨q, o, none⟩) cq l b3 ds (allM t (ns.take k) ++ pre.map fun i => (x, (r.get i).2)) W' ∧ Bk W' b5 3 #[.int .i64 x]) :=
        fun s X Y row hs hg hr => ⟨hs.1.grown HJ.out hg hr HS5.out.1 hds, Bk.grown hs.2 hg (fun r e => (hr r e).2)⟩
      refine range_gives (n := 8) (by omega) (gf := 51) (lb := #[.pointer (some ⟨kk', 0, none⟩)]) rfl (enters_of Try.func51 (by kernel_rfl) rfl)
        (vals_gives 7 (by omega) kk' v' r hrl B hvB W5 ck hsl) (Below.refl _ _) Kc.t (fun X l' o o' _ h ho => Kc.b _ X l' o o' h ho) (fun _ => rfl)
        (fun (pre : List (Fin r.length)) W' => LI J B t ns ka kb (some ⟨b9, o9, none⟩) c (some ⟨q, o, none⟩) cq l b3 ds (allM t (ns.take k) ++ pre.map fun i => (x, (r.get i).2)) W' ∧ Bk W' b5 3 #[.int .i64 x]) HI2 ⟨by simpa using HL5.out, HB5.out⟩
        (fun i a' W' => ∃ Bx, B ≤ Bx ∧ Bk W' Bx 61 #[.int .i64 (r.get i).1, .int .i64 (r.get i).2] ∧ a' = { tmps := #[.func (.yield l) #[] #[], .pointer (some ⟨ka, 0, none⟩), .pointer (some ⟨kb, 0, none⟩), .pointer (some ⟨b3, 0, none⟩), .int .i64 (k : Int), .pointer (some ⟨b5, 0, none⟩), .pointer (some ⟨Bx, 0, none⟩), .slice (some ⟨b9, o9, none⟩) N c, .int .i64 (N : Int), .int .i64 (k : Int), .bool true, .int .i64 (k : Int), .pointer (some ⟨b9, o9 + k, none⟩), .int .i64 x, .slice (some ⟨q, o, none⟩) N cq, .int .i64 (k : Int), .pointer (some ⟨q, o + k, none⟩), SeqV kk', PV (r.get i), undef, undef, undef, undef, undef, undef, u25], defers := [] })
        (fun i a' X Y row hs hg hr => by obtain ⟨Bx, h1, h2, h3⟩ := hs; exact ⟨Bx, h1, Bk.grown h2 hg (fun r e => (hr r e).2), h3⟩) ?assign ?body ?done
      case assign =>
        intro l2 pre i X K hi hK
        have hsz := hi.1.sz
        have hi2 := fun o => HI2.alloc o hi
        have hBX : B ≤ X.heap.size := by have := HB.out; omega
        clear hi HI2
        unfold PV SeqV at *
        gi_wp2
        exact hK _ _ ((KeepsOthers.alloc _ _).from _) (Kc.fr ((Fr.refl (fun _ => False) _).alloc _) (fun _ h => h.elim)) (hi2 _) ⟨X.heap.size, hBX, Bk.new _ _ _, rfl⟩
      case body =>
        rintro l2 pre i a' X ⟨hL, b5k⟩ ⟨Bx, hBx, bX, rfl⟩ hnx
        have c0 := bX.cell 0
        have c1 := bX.cell 1
        have c5 := b5k.cell 0
        have c3 := hL.bx.cell 0
        have HLX := Lib.hid hL
        have HBX := Lib.hid b5k
        obtain ⟨fn, tm, asg, bo, hy, hR⟩ := yield_any 5 (HY.out _ _ X hL.jj (allM_at t ns hkl HX.out HRR.out pre i hnx))
        obtain ⟨y, hyv⟩ : ∃ y, (r.get i).2 = y := ⟨_, rfl⟩
        have HYV := Lib.hid hyv
        rw [hyv] at c1 hR hy
        simp only [List.getElem?_toArray, List.getElem?_cons_zero, List.getElem?_cons_succ] at c0 c1 c5 c3
        clear hL b5k HI2 bX hyv hnx
        unfold PV SeqV
        gi_wp2
        refine (round_in l2 hR).mono ?_
        rintro e W3 ⟨rfl, hJ3, hk3, hkf3⟩
        gi_wp2
        refine ⟨⟨hkf3.size, fun i o hB => hkf3.same i o (by have := HS5.out; omega)⟩, hk3, ⟨?_, HLX.out.af.kc hk3, hk3 _ _ HB.out HLX.out.bx rfl, Nat.lt_of_lt_of_le HLX.out.sz hkf3.size, HLX.out.nd, fun D hD => ⟨(HLX.out.dd D hD).1, hkf3.same _ _ (HLX.out.dd D hD).1 (HLX.out.dd D hD).2 rfl⟩⟩, hk3 _ _ (by have := HS5.out; have := HB.out; omega) HBX.out rfl⟩
        rw [List.map_append, ← List.append_assoc]
        show J (allM t (ns.take k) ++ pre.map (fun i => (x, (r.get i).2)) ++ [(x, (r.get i).2)]) W3
        rw [HYV.out]
        exact hJ3
      case done =>
        rintro D xs W3 hD rfl ⟨hL, b5k⟩ hK
        have hfr : (List.finRange r.length).map (fun i => (x, (r.get i).2)) = (t.row x).map fun p => (x, p.2) := by
          rw [HRR.out]
          exact List.ext_getElem (by simp) (fun i h1 h2 => by simp)
        rw [hfr, ← allM_next t ns hkl HX.out] at hL
        have HL3 : Hid (LI J B t ns ka kb (some ⟨b9, o9, none⟩) c (some ⟨q, o, none⟩) cq l b3 (D :: ds) (allM t (ns.take (k + 1))) W3) := Lib.hid ⟨hL.jj, hL.af, hL.bx, hL.sz, List.nodup_cons.2 ⟨fun e => by have := hds D e; omega, hL.nd⟩, fun D' hD' => by
          rcases List.mem_cons.1 hD' with e | e
          · subst e; exact ⟨by have := HS5.out; omega, hK⟩
          · exact hL.dd D' e⟩
        clear hL b5k hK HI2 hfr
        gi_wp2
        refine ⟨⟨k + 1, D :: ds, _, _, _, _, _, _, _, _, _, _, _, HLT.out, rfl, HL3⟩, ?_⟩
        show N - ((k : Int) + 1).toNat < N - ((k : Int)).toNat
        exact meas_up HLT.out
    · have di : decide ((k : Int) < (N : Int)) = false := decide_eq_false (by omega)
      have di' : decide (k < N) = false := decide_eq_false hlt
      obtain rfl : k = N := by omega
      have htk : ns.take k = ns := List.take_of_length_le (by rw [HN.out]; exact Nat.le_refl _)
      have HL2 := HL.out
      rw [htk] at HL2
      have HL3 := Lib.hid HL2
      clear HL hk hlt htk HL2
      gi_wp2
      exact leaves_marks (B := b3) (fun X => J (allM t ns) X) (fun X D hj hd hB => HJ.out.putObj _ hj hB hd rfl) (fun X hj => ⟨_, results_none rfl _ _ _, ⟨_, rfl⟩, _, rfl, hj⟩) ds W2 HL3.out.nd HL3.out.dd HL3.out.jj
end Go.Proofs.Ytkinbcmnfpkncaa
