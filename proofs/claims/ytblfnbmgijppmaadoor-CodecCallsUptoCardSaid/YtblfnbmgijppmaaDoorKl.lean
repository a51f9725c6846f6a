/- The walk of CodecCalls. -/
import Derived.Test.YtblfnbmgijppmaaDoorKk
import Derived.Test.YtblfnbmgijppmaaDoorKm
import Derived.Test.YtblfnbmgijppmaaDoorKi
namespace Go.Proofs.YtblfnbmgijppmaaDoor
open Go.RowKit

theorem rdR_len (xs : List UInt8) : (rdR xs).L.length ≤ 32 := by
  unfold rdR
  split
  · show (rdV xs (hN xs).toNat (h10 xs)).length ≤ 32
    rw [rdV_len]
    have := hN_range xs
    omega
  · show 0 ≤ 32
    omega
theorem sumD_snoc (l : List Dn) (d : Dn) : sumD (l ++ [d]) = sumD l + (d.bs.length + 1) := by
  induction l with
  | nil => simp [sumD]
  | cons x l ih => show x.bs.length + 1 + sumD (l ++ [d]) = _; rw [ih]; show _ = x.bs.length + 1 + sumD l + _; omega
theorem sound_dec {n : Nat} {xs : List UInt8} {s : St} (hn : xs.length = n) (h : Sound n s) : Sound n (rdDs xs s) :=
  sound_bytes hn (by decide) (sound_int hn (by decide) (sound_int hn (by decide) (sound_int hn (by decide) (sound_int hn (by decide) h))))
theorem sound_decs {n : Nat} {xs : List UInt8} (hn : xs.length = n) (k : Nat) {s : St} (h : Sound n s) : Sound n (rdS xs k s) := by
  induction k with
  | zero => exact h
  | succ k ih => exact sound_dec hn ih
theorem sound_call {n : Nat} {xs : List UInt8} (hn : xs.length = n) : Sound n (rdCs xs) :=
  sound_decs hn _ (sound_between hn (by decide) (sound_bytes hn (by decide) (sound_int hn (by decide) (sound_int hn (by decide) (sound_int hn (by decide) (sound_int hn (by decide) (sound_int hn (by decide) (sound_int hn (by decide) (sound_int hn (by decide) (sound_int hn (by decide) (Nat.zero_le _)))))))))))
theorem sound_end {n : Nat} {xs : List UInt8} {s : St} (hn : xs.length = n) (h : Sound n s) {er a : Int} {wh : ByteArray} (he : stEnd xs s = some (er, a, wh)) : ∃ k p : Nat, er = k ∧ Bad4 k ∧ a = p ∧ p ≤ n ∧ wh.size ≤ 1000000 := by
  cases s with
  | bad er' a' wh' =>
    simp only [stEnd, Option.some.injEq, Prod.mk.injEq] at he
    obtain ⟨rfl, rfl, rfl⟩ := he
    obtain ⟨⟨k, h1, h2⟩, ⟨p, h3, h4⟩, h5⟩ := h
    exact ⟨k, p, h1, h2, h3, h4, h5⟩
  | at_ j =>
    simp only [stEnd] at he
    split at he
    · simp only [Option.some.injEq, Prod.mk.injEq] at he
      obtain ⟨rfl, rfl, rfl⟩ := he
      exact ⟨8, j, rfl, .inr (.inl rfl), rfl, h, by decide⟩
    · cases he

/-- What is asked of the call's decisions one by one. -/
def mayTo (x : CI) : Nat → Bool
  | 0 => decide ((x.bs.length : Int) ≤ 4096) && decide ((x.ds.length : Int) ≤ 32)
  | k + 1 => mayTo x k && decide (((x.ds.getD k default).d.bs.length : Int) ≤ 4096)
theorem mayTo_all (x : CI) : ∀ k, k ≤ x.ds.length → (mayTo x k = true ↔ ((x.bs.length : Int) ≤ 4096 ∧ (x.ds.length : Int) ≤ 32 ∧ ∀ i, i < k → ((x.ds.getD i default).d.bs.length : Int) ≤ 4096))
  | 0, _ => by simp [mayTo]
  | k + 1, h => by
    unfold mayTo
    rw [Bool.and_eq_true, mayTo_all x k (by omega), decide_eq_true_iff]
    constructor
    · rintro ⟨⟨h1, h2, h3⟩, h4⟩
      refine ⟨h1, h2, fun i hi => ?_⟩
      rcases Nat.eq_or_lt_of_le (show i ≤ k by omega) with rfl | h5
      · exact h4
      · exact h3 i h5
    · rintro ⟨h1, h2, h3⟩
      exact ⟨⟨h1, h2, fun i hi => h3 i (by omega)⟩, h3 k (by omega)⟩
theorem mayTo_may (x : CI) : mayTo x x.ds.length = true ↔ x.cl.may := by
  rw [mayTo_all x _ (Nat.le_refl _)]
  unfold Cl.may CI.cl
  simp only [List.length_map]
  constructor
  · rintro ⟨h1, h2, h3⟩
    refine ⟨h1, h2, fun d hd => ?_⟩
    obtain ⟨p, hp, rfl⟩ := List.mem_map.1 hd
    obtain ⟨i, hi, rfl⟩ := List.getElem_of_mem hp
    have := h3 i hi
    simpa [List.getD, hi] using this
  · rintro ⟨h1, h2, h3⟩
    refine ⟨h1, h2, fun i hi => h3 _ (List.mem_map.2 ⟨x.ds[i], List.getElem_mem hi, by simp [List.getD, hi]⟩)⟩

set_option maxRecDepth 100000 in
set_option maxHeartbeats 16000000 in
theorem calls_any (a0 a1 a2 a3 t0 t1 t2 t3 : Int) (bA : Option Addr) (bc : Nat) (bs : List UInt8) (lA : Option Addr) (lc : Nat) (ds : List DI) (B : Option Addr) (nb cb : Nat) (b : List UInt8) (w : World) (hT : Tab w) (hE : ErrT w) (hP : PowT w)
    (hx : (⟨a0, a1, a2, a3, t0, t1, t2, t3, bA, bc, bs, lA, lc, ds⟩ : CI).At w (fun k => k < w.heap.size)) (hok : (⟨a0, a1, a2, a3, t0, t1, t2, t3, bs, ds.map DI.d⟩ : Cl).ok) (hr : Rd8 w B b) (hn : b.length = nb) (hnc : nb ≤ cb)
    (hbs : bs.length ≤ 10485760) (hnb : nb ≤ 10485760) (hds : ds.length ≤ 10485760) (hsum : sumD (ds.map DI.d) ≤ 10485760) :
    Calls Tryd.prog 3 #[.agg #[.int .i64 a0, .int .i64 a1, .int .i64 a2, .int .i64 a3, .int .i64 t0, .int .i64 t1, .int .i64 t2, .int .i64 t3, .slice bA bs.length bc, .slice lA ds.length lc], .slice B nb cb] w fun e w' => e = .returned (.bool true) ∧ Fr (fun _ => False) w w' := by
  obtain ⟨W, hW⟩ : ∃ W, w.alloc (.cells #[.int .i64 a0, .int .i64 a1, .int .i64 a2, .int .i64 a3, .int .i64 t0, .int .i64 t1, .int .i64 t2, .int .i64 t3, .slice bA bs.length bc, .slice lA ds.length lc] 27) = W := ⟨_, rfl⟩
  obtain ⟨gc, hgc⟩ : ∃ gc, w.heap.size = gc := ⟨_, rfl⟩
  have fW : Fr (fun _ => False) w W := by rw [← hW]; exact (Fr.refl _ _).alloc _
  have bW : Bk W gc 27 #[.int .i64 a0, .int .i64 a1, .int .i64 a2, .int .i64 a3, .int .i64 t0, .int .i64 t1, .int .i64 t2, .int .i64 t3, .slice bA bs.length bc, .slice lA ds.length lc] := by rw [← hW, ← hgc]; exact Bk.new _ _ _
  have HX := Lib.hid (fun w' (hf : Fr (fun _ => False) W w') => CI.At.mono (Q := fun k => k < w'.heap.size) (hx.fr (fW.trans hf (fun _ _ h => h)) (fun _ _ h => h)) (fun k (hk : k < w.heap.size) => by have := fW.size; have := hf.size; omega))
  have HCB0 := Lib.hid (fun w' (hf : Fr (fun _ => False) W w') => bW.fr hf (fun h => h))
  have HRB := Lib.hid (fun w' (hf : Fr (fun _ => False) W w') => hr.fr (fW.trans hf (fun _ _ h => h)) (fun _ _ _ h => h))
  have HE := Lib.hid (fun w' (hf : Fr (fun _ => False) W w') => hE.fr (fW.trans hf (fun _ _ h => h)) (fun h => h))
  have HP := Lib.hid (fun w' (hf : Fr (fun _ => False) W w') => hP.fr (fW.trans hf (fun _ _ h => h)) (fun h => h))
  have HT := Lib.hid (hT.fr fW (fun h => h))
  have HFW := Lib.hid fW
  have HOK := Lib.hid hok
  have HN := Lib.hid hn
  have HNC := Lib.hid hnc
  have HSUM := Lib.hid hsum
  have h1i : (bs.length : Int) ≤ 10485760 := by omega
  have h2i : (nb : Int) ≤ 10485760 := by omega
  have h3i : (ds.length : Int) ≤ 10485760 := by omega
  have e1 : IntKind.i64.wrap ((bs.length : Int) + (nb : Int)) = (bs.length : Int) + (nb : Int) := IntWalk.i64_in _ (by omega)
  have K0 := Lib.hid (known_any W HT.out (HE.out W (Fr.refl _ _)))
  clear hT hE hP hx hok hr hn hnc fW bW hsum e1
  go_enter Tryd.func3, Tryd.ntmps3
  go_wp2_with fail
  clear hW hgc
  refine K0.out.mono ?_; rintro e w1 ⟨rfl, hf1⟩
  have B1 := HCB0.out w1 hf1
  have c0 := B1.cell 0
  have c1 := B1.cell 1
  have c2 := B1.cell 2
  have c3 := B1.cell 3
  have c4 := B1.cell 4
  have c5 := B1.cell 5
  have c6 := B1.cell 6
  have c7 := B1.cell 7
  have c8 := B1.cell 8
  have c9 := B1.cell 9
  simp only [List.getElem?_toArray, List.getElem?_cons_zero, List.getElem?_cons_succ] at c0 c1 c2 c3 c4 c5 c6 c7 c8 c9
  have HF1 := Lib.hid hf1
  clear B1 hf1 K0
  go_wp2_with fail
  clear c0 c1 c2 c3 c4 c5 c6 c7 c8 c9
  go_loopw [5, 6] (fun n i wr => ∃ k : Nat, k ≤ ds.length ∧ i = .int .i64 k ∧ n = .int .i64 ((bs.length : Int) + nb + (sumD ((ds.map DI.d).take k) : Nat)) ∧ Fr (fun _ => False) W wr) (fun _ i _ => ds.length - (intOf i).toNat)
  case atStart => exact ⟨0, Nat.zero_le _, rfl, by simp [sumD], HF1.out⟩
  case round =>
    obtain ⟨k, hk, rfl, rfl, hf⟩ := hrel
    have c9 := (HCB0.out wr hf).cell 9
    have c8 := (HCB0.out wr hf).cell 8
    simp only [List.getElem?_toArray, List.getElem?_cons_zero, List.getElem?_cons_succ] at c8 c9
    have HF := Lib.hid hf
    have hst := Nat.le_trans (sumD_take (ds.map DI.d) k) HSUM.out
    clear hf HF1
    by_cases hlt : k < ds.length
    · obtain ⟨b', o', rfl, ha⟩ := (HX.out wr HF.out).ds.at_ hlt
      have hdl : (ds.map DI.d).getD k default = (ds.getD k default).d := by simp [List.getD, hlt]
      have ST : Hid (sumD ((ds.map DI.d).take (k + 1)) = sumD ((ds.map DI.d).take k) + ((ds.getD k default).d.bs.length + 1)) := Lib.hid (by rw [take_succ_getD (by simpa using hlt), sumD_snoc, hdl])
      have hst2 := Nat.le_trans (sumD_take (ds.map DI.d) (k + 1)) HSUM.out
      rw [ST.out] at hst2
      have q4 := ha.c4
      simp only at q4
      generalize sumD ((ds.map DI.d).take k) = z at *
      generalize (ds.getD k default) = p at *
      have hz0 : (z : Int) ≤ 10485760 := by omega
      have hz1 : (p.d.bs.length : Int) ≤ 10485760 := by omega
      have hk0 : (0 : Int) ≤ (k : Int) := by omega
      have hk1 : (k : Int) < (ds.length : Int) := by omega
      clear ha hdl hst hst2
      go_wp2
      go_roundw
      case rel => exact ⟨k + 1, by omega, by go_num, by rw [ST.out]; congr 1; omega, HF.out⟩
      case measure => simp [intOf]; omega
    · obtain rfl : k = ds.length := by omega
      have hte : (ds.map DI.d).take ds.length = ds.map DI.d := List.take_of_length_le (by simp)
      rw [hte] at *
      clear hte
      generalize hZ : sumD (ds.map DI.d) = z at *
      by_cases hbig : (8192 : Int) < (bs.length : Int) + nb + (z : Nat)
      · go_wp2
        go_ret
        exact ⟨rfl, HFW.out.trans HF.out (fun _ _ h => h)⟩
      · have hsmall : (bs.length : Int) + nb + (z : Nat) ≤ 8192 := by omega
        have HBS : Hid (bs.length ≤ 8192) := Lib.hid (by omega)
        have HNB : Hid (nb ≤ 8192) := Lib.hid (by omega)
        have HSM : Hid (sumD (ds.map DI.d) ≤ 8192) := Lib.hid (by omega)
        have HDL : Hid (ds.length ≤ 8192) := Lib.hid (by have := sumD_len (ds.map DI.d); rw [List.length_map] at this; omega)
        have hcl : CI.cl ⟨a0, a1, a2, a3, t0, t1, t2, t3, bA, bc, bs, lA, lc, ds⟩ = ⟨a0, a1, a2, a3, t0, t1, t2, t3, bs, ds.map DI.d⟩ := rfl
        have KC := Lib.hid (call_any _ wr (HX.out wr HF.out) HOK.out HBS.out HSM.out)
        simp only [CI.cells, hcl] at KC
        have KR0 := Lib.hid (fun w' (hf : Fr (fun _ => False) W w') => refCall_any _ w' (HX.out w' hf) HOK.out HBS.out HSM.out)
        simp only [CI.cells, hcl] at KR0
        have HLE : Hid ((eC ⟨a0, a1, a2, a3, t0, t1, t2, t3, bs, ds.map DI.d⟩).length ≤ 500000) := Lib.hid (by
          have h1 := eH_len HOK.out
          have h2 := eDs_len (ds.map DI.d) HOK.out.L
          have h3 := enc_length10 (2 * bs.length) (by have := HBS.out; omega)
          have h4 := eI_len (ds.length : Int) ⟨by omega, by omega⟩
          have h5 := HSM.out
          have h6 := HBS.out
          unfold eC eB
          simp only [List.length_append, List.length_map] at *
          omega)
        have HBK : Hid ((∀ hm : (⟨a0, a1, a2, a3, t0, t1, t2, t3, bs, ds.map DI.d⟩ : Cl).may, rdC (eC ⟨a0, a1, a2, a3, t0, t1, t2, t3, bs, ds.map DI.d⟩) = ⟨a0, a1, a2, a3, t0, t1, t2, t3, bs, ds.map DI.d⟩ ∧ stEnd (eC ⟨a0, a1, a2, a3, t0, t1, t2, t3, bs, ds.map DI.d⟩) (rdCs (eC ⟨a0, a1, a2, a3, t0, t1, t2, t3, bs, ds.map DI.d⟩)) = none) ∧ (¬ (⟨a0, a1, a2, a3, t0, t1, t2, t3, bs, ds.map DI.d⟩ : Cl).may → stEnd (eC ⟨a0, a1, a2, a3, t0, t1, t2, t3, bs, ds.map DI.d⟩) (rdCs (eC ⟨a0, a1, a2, a3, t0, t1, t2, t3, bs, ds.map DI.d⟩)) ≠ none)) := Lib.hid ⟨fun hm => back_yes HOK.out hm, fun hm => back_no HOK.out hm⟩
        have B1 := HCB0.out wr HF.out
        have m0 := B1.cell 0
        have m1 := B1.cell 1
        have m2 := B1.cell 2
        have m3 := B1.cell 3
        have m4 := B1.cell 4
        have m5 := B1.cell 5
        have m6 := B1.cell 6
        have m7 := B1.cell 7
        have m8 := B1.cell 8
        have m9 := B1.cell 9
        simp only [List.getElem?_toArray, List.getElem?_cons_zero, List.getElem?_cons_succ] at m0 m1 m2 m3 m4 m5 m6 m7 m8 m9
        have hd : decide ((8192 : Int) < (bs.length : Int) + (nb : Int) + (z : Nat)) = false := decide_eq_false (by omega)
        clear B1 c8 c9 hst hbig hsmall hZ hcl
        generalize eC ⟨a0, a1, a2, a3, t0, t1, t2, t3, bs, ds.map DI.d⟩ = E at *
        go_wp2_with fail
        clear hd
        refine KC.out.mono ?_; rintro e w2 ⟨A2, c2, rfl, ho2, hf2⟩
        have HF2 := Lib.hid (HF.out.trans hf2.1 (fun _ _ h => h))
        have HO2 := Lib.hid ho2
        clear KC ho2 hf2 m0 m1 m2 m3 m4 m5 m6 m7 m8 m9
        have K3 := Lib.hid (readC_any B nb cb b w2 (HE.out w2 HF2.out) (HRB.out w2 HF2.out) HN.out HNC.out (by have := HNB.out; omega))
        go_wp2_with fail
        refine K3.out.mono ?_; rintro e w3 ⟨⟨d0, d1, d2, d3, d4, d5, d6, d7, dA, dc, dbs, dlA, dlc, dds⟩, v, rfl, hdat, hdcl, herr, hf3⟩
        simp only [CI.cells]
        obtain ⟨W3, hW3⟩ : ∃ W3, w3.alloc (.cells #[.int .i64 d0, .int .i64 d1, .int .i64 d2, .int .i64 d3, .int .i64 d4, .int .i64 d5, .int .i64 d6, .int .i64 d7, .slice dA dbs.length dc, .slice dlA dds.length dlc] 27) = W3 := ⟨_, rfl⟩
        obtain ⟨g3, hg3⟩ : ∃ g3, w3.heap.size = g3 := ⟨_, rfl⟩
        have f3 : Fr (fun _ => False) w3 W3 := by rw [← hW3]; exact (Fr.refl _ _).alloc _
        have b3 : Bk W3 g3 27 #[.int .i64 d0, .int .i64 d1, .int .i64 d2, .int .i64 d3, .int .i64 d4, .int .i64 d5, .int .i64 d6, .int .i64 d7, .slice dA dbs.length dc, .slice dlA dds.length dlc] := by rw [← hW3, ← hg3]; exact Bk.new _ _ _
        have HF3 := Lib.hid ((HF2.out.trans hf3 (fun _ _ h => h)).trans f3 (fun _ _ h => h))
        have HF23 := Lib.hid (hf3.trans f3 (fun _ _ h => h))
        have HDA := Lib.hid (hdat.fr f3 (fun _ _ h => h))
        have HDC := Lib.hid hdcl
        have HDB0 := Lib.hid b3
        have HERR0 := Lib.hid herr
        have HFF3 := Lib.hid f3
        clear K3 hdat hdcl herr hf3 f3 b3
        have K4 := Lib.hid (refReadC_any B nb cb b W3 (HRB.out W3 HF3.out) HN.out HNC.out (by have := HNB.out; omega))
        go_wp2_with fail
        clear hW3 hg3
        refine K4.out.mono ?_; rintro e w4 ⟨⟨g0, g1, g2, g3', g4, g5, g6, g7, gA, gcp, gbs, glA, glc, gds⟩, er, a, wh, rfl, hgat, hgcl, hgerr, hf4⟩
        simp only [CI.cells]
        obtain ⟨w5, hw5⟩ : ∃ w5, (w4.alloc (.cells #[.int .i64 g0, .int .i64 g1, .int .i64 g2, .int .i64 g3', .int .i64 g4, .int .i64 g5, .int .i64 g6, .int .i64 g7, .slice gA gbs.length gcp, .slice glA gds.length glc] 27)).alloc (.cells #[.int .i64 er, .int .i64 a, .string wh] 37) = w5 := ⟨_, rfl⟩
        obtain ⟨gg, hgg⟩ : ∃ gg, w4.heap.size = gg := ⟨_, rfl⟩
        have f5 : Fr (fun _ => False) w4 w5 := by rw [← hw5]; exact ((Fr.refl _ _).alloc _).alloc _
        have b5 : Bk w5 gg 27 #[.int .i64 g0, .int .i64 g1, .int .i64 g2, .int .i64 g3', .int .i64 g4, .int .i64 g5, .int .i64 g6, .int .i64 g7, .slice gA gbs.length gcp, .slice glA gds.length glc] := by rw [← hw5, ← hgg]; exact (Bk.new _ _ _).alloc _
        have b6 : Bk w5 (gg + 1) 37 #[.int .i64 er, .int .i64 a, .string wh] := by
          rw [← hw5, ← hgg]
          have := Bk.new (w4.alloc (.cells #[.int .i64 g0, .int .i64 g1, .int .i64 g2, .int .i64 g3', .int .i64 g4, .int .i64 g5, .int .i64 g6, .int .i64 g7, .slice gA gbs.length gcp, .slice glA gds.length glc] 27)) 37 #[.int .i64 er, .int .i64 a, .string wh]
          simpa using this
        have HF45 := hf4.trans f5 (fun _ _ h => h)
        have HF5 := Lib.hid (HF3.out.trans HF45 (fun _ _ h => h))
        have HCB := Lib.hid (fun w' (hf : Fr (fun _ => False) w5 w') => HCB0.out w' (HF5.out.trans hf (fun _ _ h => h)))
        have HDB := Lib.hid (fun w' (hf : Fr (fun _ => False) w5 w') => HDB0.out.fr (HF45.trans hf (fun _ _ h => h)) (fun h => h))
        have HGB8 := Lib.hid (fun w' (hf : Fr (fun _ => False) w5 w') => b5.fr hf (fun h => h))
        have HFB := Lib.hid (fun w' (hf : Fr (fun _ => False) w5 w') => b6.fr hf (fun h => h))
        have FX := Lib.hid (fun w' (hf : Fr (fun _ => False) w5 w') => run_str8 Tryd.t8 Tryd.underlying5 Tryd.underlying9 c2 (HO2.out.rd.fr ((HF23.out.trans HF45 (fun _ _ h => h)).trans hf (fun _ _ h => h)) (fun _ _ _ h => h)) rfl)
        have KR := Lib.hid (fun w' (hf : Fr (fun _ => False) w5 w') => KR0.out w' (HF5.out.trans hf (fun _ _ h => h)))
        have KS0 := (fun w' (hf : Fr (fun _ => False) w5 w') => sameCall_any _ _ w' (HDA.out.fr (HF45.trans hf (fun _ _ h => h)) (fun _ _ h => h)) (hgat.fr (f5.trans hf (fun _ _ h => h)) (fun _ _ h => h)) (HDC.out.trans hgcl.symm) (by have h1 := congrArg (fun c => c.L.length) HDC.out; simp only [CI.cl, List.length_map] at h1; have h2 := rdR_len b; simp only; omega))
        simp only [CI.cells] at KS0
        have KS := Lib.hid KS0
        have KM : Hid (∀ w', Fr (fun _ => False) w5 w' → Calls Tryd.prog 10 #[v, .agg #[.int .i64 er, .int .i64 a, .string wh]] w' fun e w'' => e = .returned (.bool true) ∧ Fr (fun _ => False) w' w'') := Lib.hid (fun w' hf => by
          have h0 := HERR0.out
          rcases hgerr with ⟨h1, h2, h3, h4⟩ | ⟨h1, h2⟩
          · rw [h1] at h0
            obtain rfl : v = .nilIface := h0
            subst h2 h3 h4
            exact same_none 0 ⟨#[]⟩ w'
          · rw [h1] at h0
            obtain ⟨fb, rfl, hbf, _⟩ := h0
            obtain ⟨kk, pp, rfl, hk4, rfl, hpn, hwh⟩ := sound_end HN.out (sound_call HN.out) h1
            exact same_fault fb kk pp wh w' hk4 (by have := HNB.out; omega) hwh (HP.out w' (HF5.out.trans hf (fun _ _ h => h))) (HE.out w' (HF5.out.trans hf (fun _ _ h => h))) (hbf.fr ((HFF3.out.trans HF45 (fun _ _ h => h)).trans hf (fun _ _ h => h)) (fun h => h)))
        have n1 : ((strOf E).toList == (strOf E).toList) = true := by simp
        have n2 : ((strOf E).toList != (strOf E).toList) = false := by simp
        clear KR0 KS0 K4 hgat hgcl hgerr hf4 f5 b5 b6
        have HF45 := Lib.hid HF45
        go_wp2_with fail
        clear hw5 hgg
        refine wp_region_held_drew (S := fun w' => Fr (fun _ => False) w5 w') (by kernel_rfl) ((Fr.refl _ _).drew) (fun hHeld => ?_)
        refine wpAnyH_takeD (i := 0) (v := ?_) (some 54) rfl rfl (by kernel_rfl) (by kernel_rfl) (by kernel_rfl) (fun _ _ _ h => h) (Or.inl ⟨by rfl, ?_⟩) (by assumption) ?_
        rotate_left
        · intro w' hSw
          go_simp
          first | done | with_reducible rfl
        try simp only [Act.put, List.setIfInBounds_toArray, List.set_cons_zero, List.set_cons_succ]
        refine wpAnyH_takeD (i := 1) (v := ?_) (some 55) rfl rfl (by kernel_rfl) (by kernel_rfl) (by kernel_rfl) (fun _ _ _ h => h) (Or.inl ⟨by rfl, ?_⟩) (by assumption) ?_
        rotate_left
        · intro w' hSw
          have s1 := FX.out w' hSw
          go_simp
          first | done | with_reducible rfl
        try simp only [Act.put, List.setIfInBounds_toArray, List.set_cons_zero, List.set_cons_succ]
        refine wpAnyH_takeD (i := 2) (v := ?_) (some 56) rfl rfl (by kernel_rfl) (by kernel_rfl) (by kernel_rfl) (fun _ _ _ h => h) (Or.inl ⟨by rfl, ?_⟩) (by assumption) ?_
        rotate_left
        · intro w' hSw
          have B := HCB.out w' hSw
          have q0 := B.cell 0
          have q1 := B.cell 1
          have q2 := B.cell 2
          have q3 := B.cell 3
          have q4 := B.cell 4
          have q5 := B.cell 5
          have q6 := B.cell 6
          have q7 := B.cell 7
          have q8 := B.cell 8
          have q9 := B.cell 9
          simp only [List.getElem?_toArray, List.getElem?_cons_zero, List.getElem?_cons_succ] at q0 q1 q2 q3 q4 q5 q6 q7 q8 q9
          go_simp
          first | done | with_reducible rfl
        try simp only [Act.put, List.setIfInBounds_toArray, List.set_cons_zero, List.set_cons_succ]
        refine wpAnyH_ready (rs := [3]) (by kernel_rfl) (by simp) ?_
        refine AllReadyH.cons rfl (fun K hK => ?_) AllReadyH.nil
        go_simp
        refine (KR.out _ hHeld).mono ?_; rintro e w6 ⟨A6, c6, rfl, ho6, hf6⟩
        have s6 := run_str8 Tryd.t8 Tryd.underlying5 Tryd.underlying9 c6 ho6.rd rfl
        try go_simp
        refine hK.out _ _ (hHeld.trans hf6 (fun _ _ h => h)) (fun hHeld => ?_)
        clear hK K
        try change wpAnyH _ _ _ _ _ _ _ (Act.put _ (some 57) _) _
        try simp only [Act.put, List.setIfInBounds_toArray, List.set_cons_zero, List.set_cons_succ]
        refine wpAnyH_ready (rs := [4]) (by kernel_rfl) (by simp) ?_
        refine AllReadyH.cons rfl (fun K hK => ?_) AllReadyH.nil
        go_simp
        refine hK.out _ _ (hHeld) (fun hHeld => ?_)
        clear hK K
        try change wpAnyH _ _ _ _ _ _ _ (Act.put _ (some 58) _) _
        try simp only [Act.put, List.setIfInBounds_toArray, List.set_cons_zero, List.set_cons_succ]
        clear s6 ho6 hf6
        refine wpAnyH_takeD (i := 5) (v := ?_) (some 59) rfl rfl (by kernel_rfl) (by kernel_rfl) (by kernel_rfl) (fun _ _ _ h => h) (Or.inl ⟨by rfl, ?_⟩) (by assumption) ?_
        rotate_left
        · intro w' hSw
          go_simp
          first | done | with_reducible rfl
        try simp only [Act.put, List.setIfInBounds_toArray, List.set_cons_zero, List.set_cons_succ]
        refine wpAnyH_takeD (i := 6) (v := ?_) (some 60) rfl rfl (by kernel_rfl) (by kernel_rfl) (by kernel_rfl) (fun _ _ _ h => h) (Or.inl ⟨by rfl, ?_⟩) (by assumption) ?_
        rotate_left
        · intro w' hSw
          go_simp
          first | done | with_reducible rfl
        try simp only [Act.put, List.setIfInBounds_toArray, List.set_cons_zero, List.set_cons_succ]
        refine wpAnyH_takeD (i := 7) (v := ?_) (some 61) rfl rfl (by kernel_rfl) (by kernel_rfl) (by kernel_rfl) (fun _ _ _ h => h) (Or.inl ⟨by rfl, ?_⟩) (by assumption) ?_
        rotate_left
        · intro w' hSw
          have B := HDB.out w' hSw
          have q0 := B.cell 0
          have q1 := B.cell 1
          have q2 := B.cell 2
          have q3 := B.cell 3
          have q4 := B.cell 4
          have q5 := B.cell 5
          have q6 := B.cell 6
          have q7 := B.cell 7
          have q8 := B.cell 8
          have q9 := B.cell 9
          simp only [List.getElem?_toArray, List.getElem?_cons_zero, List.getElem?_cons_succ] at q0 q1 q2 q3 q4 q5 q6 q7 q8 q9
          go_simp
          first | done | with_reducible rfl
        try simp only [Act.put, List.setIfInBounds_toArray, List.set_cons_zero, List.set_cons_succ]
        refine wpAnyH_takeD (i := 8) (v := ?_) (some 62) rfl rfl (by kernel_rfl) (by kernel_rfl) (by kernel_rfl) (fun _ _ _ h => h) (Or.inl ⟨by rfl, ?_⟩) (by assumption) ?_
        rotate_left
        · intro w' hSw
          have B := HGB8.out w' hSw
          have q0 := B.cell 0
          have q1 := B.cell 1
          have q2 := B.cell 2
          have q3 := B.cell 3
          have q4 := B.cell 4
          have q5 := B.cell 5
          have q6 := B.cell 6
          have q7 := B.cell 7
          have q8 := B.cell 8
          have q9 := B.cell 9
          simp only [List.getElem?_toArray, List.getElem?_cons_zero, List.getElem?_cons_succ] at q0 q1 q2 q3 q4 q5 q6 q7 q8 q9
          go_simp
          first | done | with_reducible rfl
        try simp only [Act.put, List.setIfInBounds_toArray, List.set_cons_zero, List.set_cons_succ]
        refine wpAnyH_ready (rs := [9]) (by kernel_rfl) (by simp) ?_
        refine AllReadyH.cons rfl (fun K hK => ?_) AllReadyH.nil
        go_simp
        refine (KS.out _ hHeld).mono ?_; rintro e w7 ⟨rfl, hf7⟩
        try go_simp
        refine hK.out _ _ (hHeld.trans hf7 (fun _ _ h => h)) (fun hHeld => ?_)
        clear hK K
        try change wpAnyH _ _ _ _ _ _ _ (Act.put _ (some 63) _) _
        try simp only [Act.put, List.setIfInBounds_toArray, List.set_cons_zero, List.set_cons_succ]
        clear hf7
        refine wpAnyH_takeD (i := 10) (v := ?_) (some 64) rfl rfl (by kernel_rfl) (by kernel_rfl) (by kernel_rfl) (fun _ _ _ h => h) (Or.inl ⟨by rfl, ?_⟩) (by assumption) ?_
        rotate_left
        · intro w' hSw
          go_simp
          first | done | with_reducible rfl
        try simp only [Act.put, List.setIfInBounds_toArray, List.set_cons_zero, List.set_cons_succ]
        refine wpAnyH_takeD (i := 11) (v := ?_) (some 65) rfl rfl (by kernel_rfl) (by kernel_rfl) (by kernel_rfl) (fun _ _ _ h => h) (Or.inl ⟨by rfl, ?_⟩) (by assumption) ?_
        rotate_left
        · intro w' hSw
          go_simp
          first | done | with_reducible rfl
        try simp only [Act.put, List.setIfInBounds_toArray, List.set_cons_zero, List.set_cons_succ]
        refine wpAnyH_takeD (i := 12) (v := ?_) (some 66) rfl rfl (by kernel_rfl) (by kernel_rfl) (by kernel_rfl) (fun _ _ _ h => h) (Or.inl ⟨by rfl, ?_⟩) (by assumption) ?_
        rotate_left
        · intro w' hSw
          go_simp
          first | done | with_reducible rfl
        try simp only [Act.put, List.setIfInBounds_toArray, List.set_cons_zero, List.set_cons_succ]
        refine wpAnyH_takeD (i := 13) (v := ?_) (some 67) rfl rfl (by kernel_rfl) (by kernel_rfl) (by kernel_rfl) (fun _ _ _ h => h) (Or.inl ⟨by rfl, ?_⟩) (by assumption) ?_
        rotate_left
        · intro w' hSw
          go_simp
          first | done | with_reducible rfl
        try simp only [Act.put, List.setIfInBounds_toArray, List.set_cons_zero, List.set_cons_succ]
        refine wpAnyH_takeD (i := 14) (v := ?_) (some 68) rfl rfl (by kernel_rfl) (by kernel_rfl) (by kernel_rfl) (fun _ _ _ h => h) (Or.inl ⟨by rfl, ?_⟩) (by assumption) ?_
        rotate_left
        · intro w' hSw
          have B := HFB.out w' hSw
          have q0 := B.cell 0
          have q1 := B.cell 1
          have q2 := B.cell 2
          simp only [List.getElem?_toArray, List.getElem?_cons_zero, List.getElem?_cons_succ] at q0 q1 q2
          go_simp
          first | done | with_reducible rfl
        try simp only [Act.put, List.setIfInBounds_toArray, List.set_cons_zero, List.set_cons_succ]
        refine wpAnyH_ready (rs := [15]) (by kernel_rfl) (by simp) ?_
        refine AllReadyH.cons rfl (fun K hK => ?_) AllReadyH.nil
        go_simp
        refine (KM.out _ hHeld).mono ?_; rintro e w8 ⟨rfl, hf8⟩
        try go_simp
        refine hK.out _ _ (hHeld.trans hf8 (fun _ _ h => h)) (fun hHeld => ?_)
        clear hK K
        try change wpAnyH _ _ _ _ _ _ _ (Act.put _ (some 69) _) _
        try simp only [Act.put, List.setIfInBounds_toArray, List.set_cons_zero, List.set_cons_succ]
        clear hf8
        refine wpAnyH_takeD (i := 16) (v := ?_) (some 70) rfl rfl (by kernel_rfl) (by kernel_rfl) (by kernel_rfl) (fun _ _ _ h => h) (Or.inl ⟨by rfl, ?_⟩) (by assumption) ?_
        rotate_left
        · intro w' hSw
          go_simp
          first | done | with_reducible rfl
        try simp only [Act.put, List.setIfInBounds_toArray, List.set_cons_zero, List.set_cons_succ]
        refine wpAnyH_takeD (i := 17) (v := ?_) (some 71) rfl rfl (by kernel_rfl) (by kernel_rfl) (by kernel_rfl) (fun _ _ _ h => h) (Or.inl ⟨by rfl, ?_⟩) (by assumption) ?_
        rotate_left
        · intro w' hSw
          go_simp
          first | done | with_reducible rfl
        try simp only [Act.put, List.setIfInBounds_toArray, List.set_cons_zero, List.set_cons_succ]
        refine wpAnyH_done (by kernel_rfl) ?_ _
        have HF8 := Lib.hid (HF5.out.trans hHeld (fun _ _ h => h))
        have HRE := Lib.hid (HO2.out.rd.fr ((HF23.out.trans HF45.out (fun _ _ h => h)).trans hHeld (fun _ _ h => h)) (fun _ _ _ h => h))
        have hcap : E.length ≤ c2 := by
          rcases HO2.out.form with ⟨e, h0⟩ | ⟨g, cap, e, h1, _⟩
          · rw [h0]; exact Nat.zero_le _
          · injection e with _ _ e; omega
        have K9 := Lib.hid (readC_any A2 E.length c2 E w8 (HE.out w8 HF8.out) HRE.out rfl hcap (by have := HLE.out; omega))
        clear hHeld hcap
        clear FX KR KS KM HFB HGB8 HDB HCB HF45 HFF3 HERR0 HDB0 HDC HDA HF23 HO2 HRE HF5 HF3 HF2 n1 n2
        go_wp2_with fail
        refine K9.out.mono ?_; rintro e w9 ⟨⟨y0, y1, y2, y3, y4, y5, y6, y7, yA, yc, ybs, ylA, ylc, yds⟩, v2, rfl, hyat, hycl, hyerr, hf9⟩
        simp only [CI.cells]
        obtain ⟨W10, hW10⟩ : ∃ W10, w9.alloc (.cells #[.int .i64 y0, .int .i64 y1, .int .i64 y2, .int .i64 y3, .int .i64 y4, .int .i64 y5, .int .i64 y6, .int .i64 y7, .slice yA ybs.length yc, .slice ylA yds.length ylc] 27) = W10 := ⟨_, rfl⟩
        obtain ⟨g10, hg10⟩ : ∃ g10, w9.heap.size = g10 := ⟨_, rfl⟩
        have f10 : Fr (fun _ => False) w9 W10 := by rw [← hW10]; exact (Fr.refl _ _).alloc _
        have b10 : Bk W10 g10 27 #[.int .i64 y0, .int .i64 y1, .int .i64 y2, .int .i64 y3, .int .i64 y4, .int .i64 y5, .int .i64 y6, .int .i64 y7, .slice yA ybs.length yc, .slice ylA yds.length ylc] := by rw [← hW10, ← hg10]; exact Bk.new _ _ _
        have HF10 := Lib.hid ((HF8.out.trans hf9 (fun _ _ h => h)).trans f10 (fun _ _ h => h))
        have HYAT := Lib.hid (hyat.fr f10 (fun _ _ h => h))
        have HYCL := Lib.hid hycl
        have HYE := Lib.hid hyerr
        have HYB := Lib.hid b10
        clear hyat hycl hyerr b10 f10 hf9 K9
        have B1 := HCB0.out W10 HF10.out
        have c8 := B1.cell 8
        have c9 := B1.cell 9
        simp only [List.getElem?_toArray, List.getElem?_cons_zero, List.getElem?_cons_succ] at c8 c9
        clear B1
        obtain ⟨mt, hmt⟩ : ∃ mt, mayTo ⟨a0, a1, a2, a3, t0, t1, t2, t3, bA, bc, bs, lA, lc, ds⟩ = mt := ⟨_, rfl⟩
        have HM0 : Hid (mt 0 = (decide ((bs.length : Int) ≤ 4096) && decide ((ds.length : Int) ≤ 32))) := Lib.hid (by rw [← hmt]; rfl)
        have HMS : Hid (∀ k, mt (k + 1) = (mt k && decide (((ds.getD k default).d.bs.length : Int) ≤ 4096))) := Lib.hid (by rw [← hmt]; exact fun _ => rfl)
        have HMY : Hid (mt ds.length = true ↔ (⟨a0, a1, a2, a3, t0, t1, t2, t3, bs, ds.map DI.d⟩ : Cl).may) := Lib.hid (by rw [← hmt]; exact mayTo_may ⟨a0, a1, a2, a3, t0, t1, t2, t3, bA, bc, bs, lA, lc, ds⟩)
        clear hmt
        by_cases h4 : (bs.length : Int) ≤ 4096
        · have d4 : decide ((bs.length : Int) ≤ 4096) = true := decide_eq_true h4
          go_wp2_with fail
          clear hW10 hg10 c8 c9
          go_loopw [13, 14] (fun m i wr => ∃ k : Nat, k ≤ ds.length ∧ i = .int .i64 k ∧ m = .bool (mt k) ∧ Fr (fun _ => False) W10 wr) (fun _ i _ => ds.length - (intOf i).toNat)
          case atStart => exact ⟨0, Nat.zero_le _, rfl, by rw [HM0.out, d4]; try simp, Fr.refl _ _⟩
          case round =>
            obtain ⟨k, hk, rfl, rfl, hf⟩ := hrel
            have c9 := (HCB0.out _ (HF10.out.trans hf (fun _ _ h => h))).cell 9
            simp only [List.getElem?_toArray, List.getElem?_cons_zero, List.getElem?_cons_succ] at c9
            have HFR := Lib.hid hf
            clear hf d4 h4 HM0
            by_cases hlt : k < ds.length
            · obtain ⟨b', o', rfl, ha⟩ := (HX.out _ (HF10.out.trans HFR.out (fun _ _ h => h))).ds.at_ hlt
              have q4 := ha.c4
              simp only at q4
              have HK1 : Hid (mt (k + 1) = (mt k && decide (((ds.getD k default).d.bs.length : Int) ≤ 4096))) := Lib.hid (HMS.out k)
              generalize (ds.getD k default) = p at *
              have hk0 : (0 : Int) ≤ (k : Int) := by omega
              have hk1 : (k : Int) < (ds.length : Int) := by omega
              clear ha
              cases hq : mt k
              · rw [hq] at HK1
                clear hq
                go_wp2
                go_roundw
                case rel => exact ⟨k + 1, by omega, by go_num, by rw [HK1.out]; rfl, HFR.out⟩
                case measure => simp [intOf]; omega
              · rw [hq] at HK1
                clear hq
                go_wp2
                go_roundw
                case rel => exact ⟨k + 1, by omega, by go_num, by rw [HK1.out]; rfl, HFR.out⟩
                case measure => simp [intOf]; omega
            · obtain rfl : k = ds.length := by omega
              have HF12 := Lib.hid (HF10.out.trans HFR.out (fun _ _ h => h))
              cases hq : mt ds.length
              · have hm : ¬ _ := fun h => by have := HMY.out.2 h; rw [hq] at this; cases this
                have hne := HBK.out.2 hm
                have hye := HYE.out
                cases hst : stEnd E (rdCs E) with
                | none => exact absurd hst hne
                | some t =>
                  obtain ⟨er2, a2', wh2⟩ := t
                  rw [hst] at hye
                  obtain ⟨fb, rfl, _, _⟩ := hye
                  clear hq hm hne hst
                  go_wp2_with fail
                  go_ret
                  exact ⟨rfl, HFW.out.trans HF12.out (fun _ _ h => h)⟩
              · have hm := HMY.out.1 hq
                obtain ⟨e1, e2⟩ := HBK.out.1 hm
                have hye := HYE.out
                rw [e2] at hye
                obtain rfl : v2 = .nilIface := hye
                have hyl : CI.cl ⟨y0, y1, y2, y3, y4, y5, y6, y7, yA, yc, ybs, ylA, ylc, yds⟩ = CI.cl ⟨a0, a1, a2, a3, t0, t1, t2, t3, bA, bc, bs, lA, lc, ds⟩ := by
                  rw [HYCL.out]; unfold rdR; rw [if_pos e2, e1]; rfl
                have hyn : yds.length = ds.length := by
                  have := congrArg (fun c => c.L.length) hyl
                  simpa [CI.cl] using this
                have KY := Lib.hid (sameCall_any ⟨y0, y1, y2, y3, y4, y5, y6, y7, yA, yc, ybs, ylA, ylc, yds⟩ ⟨a0, a1, a2, a3, t0, t1, t2, t3, bA, bc, bs, lA, lc, ds⟩ _ (HYAT.out.fr HFR.out (fun _ _ h => h)) (HX.out _ HF12.out) hyl (by have := HDL.out; simp only; omega))
                simp only [CI.cells] at KY
                have B1 := HCB0.out _ HF12.out
                have c0 := B1.cell 0
                have c1 := B1.cell 1
                have c2 := B1.cell 2
                have c3 := B1.cell 3
                have c4 := B1.cell 4
                have c5 := B1.cell 5
                have c6 := B1.cell 6
                have c7 := B1.cell 7
                have c8 := B1.cell 8
                have c9 := B1.cell 9
                simp only [List.getElem?_toArray, List.getElem?_cons_zero, List.getElem?_cons_succ] at c0 c1 c2 c3 c4 c5 c6 c7 c8 c9
                have B1 := HYB.out.fr HFR.out (fun h => h)
                have d0 := B1.cell 0
                have d1 := B1.cell 1
                have d2 := B1.cell 2
                have d3 := B1.cell 3
                have d4 := B1.cell 4
                have d5 := B1.cell 5
                have d6 := B1.cell 6
                have d7 := B1.cell 7
                have d8 := B1.cell 8
                have d9 := B1.cell 9
                simp only [List.getElem?_toArray, List.getElem?_cons_zero, List.getElem?_cons_succ] at d0 d1 d2 d3 d4 d5 d6 d7 d8 d9
                clear B1 hq hm e1 e2 hyl hyn
                go_wp2_with fail
                refine KY.out.mono ?_; rintro e w13 ⟨rfl, hf13⟩
                clear KY
                go_wp2_with fail
                go_ret
                exact ⟨rfl, (HFW.out.trans HF12.out (fun _ _ h => h)).trans hf13 (fun _ _ h => h)⟩
        · have d4 : decide ((bs.length : Int) ≤ 4096) = false := decide_eq_false h4
          go_wp2_with fail
          clear hW10 hg10 c8 c9
          go_loopw [13, 14] (fun m i wr => ∃ k : Nat, k ≤ ds.length ∧ i = .int .i64 k ∧ m = .bool (mt k) ∧ Fr (fun _ => False) W10 wr) (fun _ i _ => ds.length - (intOf i).toNat)
          case atStart => exact ⟨0, Nat.zero_le _, rfl, by rw [HM0.out, d4]; try simp, Fr.refl _ _⟩
          case round =>
            obtain ⟨k, hk, rfl, rfl, hf⟩ := hrel
            have c9 := (HCB0.out _ (HF10.out.trans hf (fun _ _ h => h))).cell 9
            simp only [List.getElem?_toArray, List.getElem?_cons_zero, List.getElem?_cons_succ] at c9
            have HFR := Lib.hid hf
            clear hf d4 h4 HM0
            by_cases hlt : k < ds.length
            · obtain ⟨b', o', rfl, ha⟩ := (HX.out _ (HF10.out.trans HFR.out (fun _ _ h => h))).ds.at_ hlt
              have q4 := ha.c4
              simp only at q4
              have HK1 : Hid (mt (k + 1) = (mt k && decide (((ds.getD k default).d.bs.length : Int) ≤ 4096))) := Lib.hid (HMS.out k)
              generalize (ds.getD k default) = p at *
              have hk0 : (0 : Int) ≤ (k : Int) := by omega
              have hk1 : (k : Int) < (ds.length : Int) := by omega
              clear ha
              cases hq : mt k
              · rw [hq] at HK1
                clear hq
                go_wp2
                go_roundw
                case rel => exact ⟨k + 1, by omega, by go_num, by rw [HK1.out]; rfl, HFR.out⟩
                case measure => simp [intOf]; omega
              · rw [hq] at HK1
                clear hq
                go_wp2
                go_roundw
                case rel => exact ⟨k + 1, by omega, by go_num, by rw [HK1.out]; rfl, HFR.out⟩
                case measure => simp [intOf]; omega
            · obtain rfl : k = ds.length := by omega
              have HF12 := Lib.hid (HF10.out.trans HFR.out (fun _ _ h => h))
              cases hq : mt ds.length
              · have hm : ¬ _ := fun h => by have := HMY.out.2 h; rw [hq] at this; cases this
                have hne := HBK.out.2 hm
                have hye := HYE.out
                cases hst : stEnd E (rdCs E) with
                | none => exact absurd hst hne
                | some t =>
                  obtain ⟨er2, a2', wh2⟩ := t
                  rw [hst] at hye
                  obtain ⟨fb, rfl, _, _⟩ := hye
                  clear hq hm hne hst
                  go_wp2_with fail
                  go_ret
                  exact ⟨rfl, HFW.out.trans HF12.out (fun _ _ h => h)⟩
              · have hm := HMY.out.1 hq
                obtain ⟨e1, e2⟩ := HBK.out.1 hm
                have hye := HYE.out
                rw [e2] at hye
                obtain rfl : v2 = .nilIface := hye
                have hyl : CI.cl ⟨y0, y1, y2, y3, y4, y5, y6, y7, yA, yc, ybs, ylA, ylc, yds⟩ = CI.cl ⟨a0, a1, a2, a3, t0, t1, t2, t3, bA, bc, bs, lA, lc, ds⟩ := by
                  rw [HYCL.out]; unfold rdR; rw [if_pos e2, e1]; rfl
                have hyn : yds.length = ds.length := by
                  have := congrArg (fun c => c.L.length) hyl
                  simpa [CI.cl] using this
                have KY := Lib.hid (sameCall_any ⟨y0, y1, y2, y3, y4, y5, y6, y7, yA, yc, ybs, ylA, ylc, yds⟩ ⟨a0, a1, a2, a3, t0, t1, t2, t3, bA, bc, bs, lA, lc, ds⟩ _ (HYAT.out.fr HFR.out (fun _ _ h => h)) (HX.out _ HF12.out) hyl (by have := HDL.out; simp only; omega))
                simp only [CI.cells] at KY
                have B1 := HCB0.out _ HF12.out
                have c0 := B1.cell 0
                have c1 := B1.cell 1
                have c2 := B1.cell 2
                have c3 := B1.cell 3
                have c4 := B1.cell 4
                have c5 := B1.cell 5
                have c6 := B1.cell 6
                have c7 := B1.cell 7
                have c8 := B1.cell 8
                have c9 := B1.cell 9
                simp only [List.getElem?_toArray, List.getElem?_cons_zero, List.getElem?_cons_succ] at c0 c1 c2 c3 c4 c5 c6 c7 c8 c9
                have B1 := HYB.out.fr HFR.out (fun h => h)
                have d0 := B1.cell 0
                have d1 := B1.cell 1
                have d2 := B1.cell 2
                have d3 := B1.cell 3
                have d4 := B1.cell 4
                have d5 := B1.cell 5
                have d6 := B1.cell 6
                have d7 := B1.cell 7
                have d8 := B1.cell 8
                have d9 := B1.cell 9
                simp only [List.getElem?_toArray, List.getElem?_cons_zero, List.getElem?_cons_succ] at d0 d1 d2 d3 d4 d5 d6 d7 d8 d9
                clear B1 hq hm e1 e2 hyl hyn
                go_wp2_with fail
                refine KY.out.mono ?_; rintro e w13 ⟨rfl, hf13⟩
                clear KY
                go_wp2_with fail
                go_ret
                exact ⟨rfl, (HFW.out.trans HF12.out (fun _ _ h => h)).trans hf13 (fun _ _ h => h)⟩
end Go.Proofs.YtblfnbmgijppmaaDoor
