/- ReadCall by the program. -/
import Derived.Test.YtblfnbmgijppmaaDoorKg
namespace Go.Proofs.YtblfnbmgijppmaaDoor
open Go.RowKit

def zCl : Cl := ⟨0, 0, 0, 0, 0, 0, 0, 0, [], []⟩
/-- What a call that is read comes to. -/
def rdR (xs : List UInt8) : Cl := if stEnd xs (rdCs xs) = none then rdC xs else zCl
/-- What ReadCall answers. -/
def ReadsC (w : World) (xs : List UInt8) (e : Ending) (w' : World) : Prop :=
  ∃ (x : CI) (v : Value), e = .returned (.tuple #[.agg x.cells, v]) ∧ x.At w' (fun k => w.heap.size ≤ k) ∧ x.cl = rdR xs ∧ ErrIs w w' v (stEnd xs (rdCs xs)) ∧ Fr (fun _ => False) w w'

set_option maxRecDepth 100000 in
set_option maxHeartbeats 4000000 in
theorem readC_any (A : Option Addr) (n c : Nat) (xs : List UInt8) (w : World) (hE : ErrT w) (hr : Rd8 w A xs) (hn : xs.length = n) (hnc : n ≤ c) (hnb : n ≤ 140737488355328) :
    Calls Tryd.prog 6 #[.slice A n c] w (ReadsC w xs) := by
  obtain ⟨W, hW⟩ : ∃ W, (w.alloc (.cells zC 27)).alloc (.cells #[.slice A n c, .int .i64 0, .int .i64 0, .int .i64 0, .string ⟨#[]⟩] 63) = W := ⟨_, rfl⟩
  obtain ⟨ga, hga⟩ : ∃ ga, w.heap.size = ga := ⟨_, rfl⟩
  have fW : Fr (fun _ => False) w W := by rw [← hW]; exact ((Fr.refl _ _).alloc _).alloc _
  have b1 : Bk W ga 27 zC := by rw [← hW, ← hga]; exact (Bk.new _ _ _).alloc _
  have b2 : Bk W (ga + 1) 63 #[.slice A n c, .int .i64 0, .int .i64 0, .int .i64 0, .string ⟨#[]⟩] := by
    rw [← hW, ← hga]
    have := Bk.new (w.alloc (.cells zC 27)) 63 #[.slice A n c, .int .i64 0, .int .i64 0, .int .i64 0, .string ⟨#[]⟩]
    simpa using this
  have hsz : W.heap.size = ga + 2 := by rw [← hW, ← hga]; simp
  have hEl := hE.lt
  have hsrc : ∀ ad, A = some ad → 0 < n → ad.block < ga := fun ad e h0 => by
    obtain ⟨ad', e2, _, hc⟩ := hr (by omega)
    rw [e] at e2; injection e2 with e2; subst e2
    have := World.block_lt_of_cell? w ⟨ad.block, ad.off + 0, none⟩ (hc 0 (by omega))
    simp only at this; omega
  have R0 : RdAt W (ga + 1) A n c xs (.at_ 0) := ⟨Nat.zero_le _, 0, ⟨#[]⟩,
    { bk := b2, rd := hr.fr fW (fun _ _ _ h => h), len := hn, cap := hnc, big := hnb, apart := fun ad e h0 => by have := hsrc ad e h0; omega
      spot := fun ad e h0 => by
        obtain ⟨ad', e2, hsp, _⟩ := hr (by omega)
        rw [e] at e2; injection e2 with e2; subst e2; exact hsp }⟩
  have K1 := Lib.hid (readCall_any (w := W) (g := ga + 1) (A := A) (n := n) (c := c) (xs := xs) ⟨R0, hE.fr fW (fun h => h), Fr.refl _ _, by omega, fun ad e h0 => by have := hsrc ad e h0; omega, by omega, by omega, Nat.le_refl _⟩)
  have HB1 := Lib.hid b1
  have HFW := Lib.hid fW
  have HGA := Lib.hid hga
  have HSZ := Lib.hid hsz
  unfold zC at hW
  clear hE hr hn hnc hnb fW b1 b2 hsz hEl hsrc R0
  go_enter Tryd.func6, Tryd.ntmps6
  go_wp2_with fail
  clear hW hga
  refine K1.out.mono ?_; rintro e w2 ⟨⟨v0, v1, v2, v3, v4, v5, v6, v7, bA, bc, bs, lA, lc, ds⟩, rfl, hcl, hat, hrd, hf⟩
  simp only [CI.cells]
  obtain ⟨w3, hw3⟩ : ∃ w3, w2.alloc (.cells #[.int .i64 v0, .int .i64 v1, .int .i64 v2, .int .i64 v3, .int .i64 v4, .int .i64 v5, .int .i64 v6, .int .i64 v7, .slice bA bs.length bc, .slice lA ds.length lc] 27) = w3 := ⟨_, rfl⟩
  obtain ⟨gl, hgl⟩ : ∃ gl, w2.heap.size = gl := ⟨_, rfl⟩
  have f3 : Fr (fun _ => False) w2 w3 := by rw [← hw3]; exact (Fr.refl _ _).alloc _
  have b3 : Bk w3 gl 27 #[.int .i64 v0, .int .i64 v1, .int .i64 v2, .int .i64 v3, .int .i64 v4, .int .i64 v5, .int .i64 v6, .int .i64 v7, .slice bA bs.length bc, .slice lA ds.length lc] := by rw [← hw3, ← hgl]; exact Bk.new _ _ _
  have hglt : ga + 2 ≤ gl := by have := hf.size; have := HSZ.out; omega
  have K2 := Lib.hid (rEnd_any (hrd.frK f3 (fun h => h) (fun _ _ _ h => h)))
  have HAT := Lib.hid (hat.fr f3 (fun _ _ h => h))
  have HCL := Lib.hid hcl
  have HB3 := Lib.hid b3
  have HF3 := Lib.hid (hf.trans f3 (fun _ _ h => h.elim))
  have HGL := Lib.hid hglt
  have HS3 := Lib.hid f3.size
  have HG2 := Lib.hid hgl
  clear hcl hat hrd hf K1 f3 b3 hglt
  go_wp2_with fail
  clear hw3 hgl
  refine K2.out.mono ?_; rintro e w4 ⟨v, rfl, herr, hf4⟩
  have BA := (HB1.out.fr HF3.out (by omega)).fr hf4 (fun h => h)
  have BL := HB3.out.fr hf4 (fun h => h)
  unfold zC at BA
  have e0 := BA.cell 0
  have e1 := BA.cell 1
  have e2 := BA.cell 2
  have e3 := BA.cell 3
  have e4 := BA.cell 4
  have e5 := BA.cell 5
  have e6 := BA.cell 6
  have e7 := BA.cell 7
  have e8 := BA.cell 8
  have e9 := BA.cell 9
  simp only [List.getElem?_toArray, List.getElem?_cons_zero, List.getElem?_cons_succ] at e0 e1 e2 e3 e4 e5 e6 e7 e8 e9
  have g0 : w4.frozen? ⟨ga, 0, none⟩ = false := BA.frozen 0
  have g1 : w4.frozen? ⟨ga, 1, none⟩ = false := BA.frozen 1
  have g2 : w4.frozen? ⟨ga, 2, none⟩ = false := BA.frozen 2
  have g3 : w4.frozen? ⟨ga, 3, none⟩ = false := BA.frozen 3
  have g4 : w4.frozen? ⟨ga, 4, none⟩ = false := BA.frozen 4
  have g5 : w4.frozen? ⟨ga, 5, none⟩ = false := BA.frozen 5
  have g6 : w4.frozen? ⟨ga, 6, none⟩ = false := BA.frozen 6
  have g7 : w4.frozen? ⟨ga, 7, none⟩ = false := BA.frozen 7
  have g8 : w4.frozen? ⟨ga, 8, none⟩ = false := BA.frozen 8
  have g9 : w4.frozen? ⟨ga, 9, none⟩ = false := BA.frozen 9
  have c0 := BL.cell 0
  have c1 := BL.cell 1
  have c2 := BL.cell 2
  have c3 := BL.cell 3
  have c4 := BL.cell 4
  have c5 := BL.cell 5
  have c6 := BL.cell 6
  have c7 := BL.cell 7
  have c8 := BL.cell 8
  have c9 := BL.cell 9
  simp only [List.getElem?_toArray, List.getElem?_cons_zero, List.getElem?_cons_succ] at c0 c1 c2 c3 c4 c5 c6 c7 c8 c9
  have HBA := Lib.hid BA
  have HF4 := Lib.hid hf4
  have HF0 := Lib.hid (show Fr (fun k => k = ga + 1) w w4 from ((HFW.out.mono (fun _ _ h => h.elim)).trans HF3.out (fun _ _ h => h)).trans hf4 (fun _ _ h => h.elim))
  have HN4 := Lib.hid (show gl < w4.heap.size from BL.lt)
  clear BA BL hf4 K2
  cases hs : stEnd xs (rdCs xs) with
  | none =>
    rw [hs] at herr
    obtain rfl : v = .nilIface := herr
    have HS := Lib.hid hs
    clear hs
    go_wp2
    refine bodyPost_ret (v := .tuple #[.agg #[.int .i64 v0, .int .i64 v1, .int .i64 v2, .int .i64 v3, .int .i64 v4, .int .i64 v5, .int .i64 v6, .int .i64 v7, .slice bA bs.length bc, .slice lA ds.length lc], .nilIface]) (by simp [results, Tryd.results6, go_sem, e0, e1, e2, e3, e4, e5, e6, e7, e8, e9]) rfl ?_
    have hfin : Fr (fun k => k = ga) w4 ((((((((((w4.setCell ⟨ga, 0, none⟩ (.int .i64 v0)).setCell ⟨ga, 1, none⟩ (.int .i64 v1)).setCell ⟨ga, 2, none⟩ (.int .i64 v2)).setCell ⟨ga, 3, none⟩ (.int .i64 v3)).setCell ⟨ga, 4, none⟩ (.int .i64 v4)).setCell ⟨ga, 5, none⟩ (.int .i64 v5)).setCell ⟨ga, 6, none⟩ (.int .i64 v6)).setCell ⟨ga, 7, none⟩ (.int .i64 v7)).setCell ⟨ga, 8, none⟩ (.slice bA bs.length bc)).setCell ⟨ga, 9, none⟩ (.slice lA ds.length lc)) := (Fr.setCell (S := fun k => k = ga) (p := ⟨ga, 9, none⟩) (Fr.setCell (S := fun k => k = ga) (p := ⟨ga, 8, none⟩) (Fr.setCell (S := fun k => k = ga) (p := ⟨ga, 7, none⟩) (Fr.setCell (S := fun k => k = ga) (p := ⟨ga, 6, none⟩) (Fr.setCell (S := fun k => k = ga) (p := ⟨ga, 5, none⟩) (Fr.setCell (S := fun k => k = ga) (p := ⟨ga, 4, none⟩) (Fr.setCell (S := fun k => k = ga) (p := ⟨ga, 3, none⟩) (Fr.setCell (S := fun k => k = ga) (p := ⟨ga, 2, none⟩) (Fr.setCell (S := fun k => k = ga) (p := ⟨ga, 1, none⟩) (Fr.setCell (S := fun k => k = ga) (p := ⟨ga, 0, none⟩) (Fr.refl (fun k => k = ga) w4) (fun _ => rfl) _) (fun _ => rfl) _) (fun _ => rfl) _) (fun _ => rfl) _) (fun _ => rfl) _) (fun _ => rfl) _) (fun _ => rfl) _) (fun _ => rfl) _) (fun _ => rfl) _) (fun _ => rfl) _)
    have hG := HGA.out
    refine ⟨⟨v0, v1, v2, v3, v4, v5, v6, v7, bA, bc, bs, lA, lc, ds⟩, .nilIface, rfl, ((HAT.out.fr HF4.out (fun _ _ h => h)).fr hfin (fun k hk e => ?_)).mono (fun k hk => ?_), by unfold rdR; rw [if_pos HS.out]; exact HCL.out, by rw [HS.out]; rfl, (HF0.out.trans hfin (fun x hx e => by omega)).mono (fun x hx e => by omega)⟩
    · have h1 : W.heap.size ≤ k := hk
      have := HSZ.out; omega
    · have h1 : W.heap.size ≤ k := hk
      have := HSZ.out
      show w.heap.size ≤ k; omega
  | some er =>
    obtain ⟨er, a, wh⟩ := er
    rw [hs] at herr
    obtain ⟨fb, rfl, hbf, hle⟩ := herr
    have HS := Lib.hid hs
    have HBF := Lib.hid hbf
    have HLE := Lib.hid hle
    clear hs hbf hle
    go_wp2
    refine bodyPost_ret (v := .tuple #[.agg #[.int .i64 0, .int .i64 0, .int .i64 0, .int .i64 0, .int .i64 0, .int .i64 0, .int .i64 0, .int .i64 0, .slice none 0 0, .slice none 0 0], .iface 73 (.pointer (some ⟨fb, 0, none⟩))]) (by simp [results, Tryd.results6, go_sem, e0, e1, e2, e3, e4, e5, e6, e7, e8, e9]) rfl ?_
    have hfin : Fr (fun k => k = ga) w4 ((((((((((w4.setCell ⟨ga, 0, none⟩ (.int .i64 0)).setCell ⟨ga, 1, none⟩ (.int .i64 0)).setCell ⟨ga, 2, none⟩ (.int .i64 0)).setCell ⟨ga, 3, none⟩ (.int .i64 0)).setCell ⟨ga, 4, none⟩ (.int .i64 0)).setCell ⟨ga, 5, none⟩ (.int .i64 0)).setCell ⟨ga, 6, none⟩ (.int .i64 0)).setCell ⟨ga, 7, none⟩ (.int .i64 0)).setCell ⟨ga, 8, none⟩ (.slice none 0 0)).setCell ⟨ga, 9, none⟩ (.slice none 0 0)) := (Fr.setCell (S := fun k => k = ga) (p := ⟨ga, 9, none⟩) (Fr.setCell (S := fun k => k = ga) (p := ⟨ga, 8, none⟩) (Fr.setCell (S := fun k => k = ga) (p := ⟨ga, 7, none⟩) (Fr.setCell (S := fun k => k = ga) (p := ⟨ga, 6, none⟩) (Fr.setCell (S := fun k => k = ga) (p := ⟨ga, 5, none⟩) (Fr.setCell (S := fun k => k = ga) (p := ⟨ga, 4, none⟩) (Fr.setCell (S := fun k => k = ga) (p := ⟨ga, 3, none⟩) (Fr.setCell (S := fun k => k = ga) (p := ⟨ga, 2, none⟩) (Fr.setCell (S := fun k => k = ga) (p := ⟨ga, 1, none⟩) (Fr.setCell (S := fun k => k = ga) (p := ⟨ga, 0, none⟩) (Fr.refl (fun k => k = ga) w4) (fun _ => rfl) _) (fun _ => rfl) _) (fun _ => rfl) _) (fun _ => rfl) _) (fun _ => rfl) _) (fun _ => rfl) _) (fun _ => rfl) _) (fun _ => rfl) _) (fun _ => rfl) _) (fun _ => rfl) _)
    have hG := HGA.out
    have hei : ErrIs w ((((((((((w4.setCell ⟨ga, 0, none⟩ (.int .i64 0)).setCell ⟨ga, 1, none⟩ (.int .i64 0)).setCell ⟨ga, 2, none⟩ (.int .i64 0)).setCell ⟨ga, 3, none⟩ (.int .i64 0)).setCell ⟨ga, 4, none⟩ (.int .i64 0)).setCell ⟨ga, 5, none⟩ (.int .i64 0)).setCell ⟨ga, 6, none⟩ (.int .i64 0)).setCell ⟨ga, 7, none⟩ (.int .i64 0)).setCell ⟨ga, 8, none⟩ (.slice none 0 0)).setCell ⟨ga, 9, none⟩ (.slice none 0 0)) (.iface 73 (.pointer (some ⟨fb, 0, none⟩))) (stEnd xs (rdCs xs)) := by
      rw [HS.out]
      exact ⟨fb, rfl, HBF.out.fr hfin (fun e => by have h1 := HLE.out; have h2 := HS3.out; have h3 := HGL.out; have h4 := HG2.out; omega), by have h1 := HLE.out; have h2 := HS3.out; have h3 := HGL.out; have h4 := HG2.out; omega⟩
    exact ⟨⟨0, 0, 0, 0, 0, 0, 0, 0, none, 0, [], none, 0, []⟩, _, rfl, ⟨Rd8.nil _ _, (fun ad e => by cases e), (fun h0 => by simp at h0)⟩, by unfold rdR; rw [if_neg (by rw [HS.out]; simp)]; rfl, hei, (HF0.out.trans hfin (fun x hx e => by omega)).mono (fun x hx e => by omega)⟩
end Go.Proofs.YtblfnbmgijppmaaDoor
