/- flow: Decide of one decision that closes; known. -/
import Derived.Test.YtkinbcmnfpkncaaDoorXh
import Derived.Test.YtkinbcmnfpkncaaDoorXk
import Derived.Test.YtkinbcmnfpkncaaDoorStr
import Derived.Lib.SlBytesConst
namespace Go.Proofs.YtkinbcmnfpkncaaDoor
open Go.RowKit Go.Maps

set_option maxRecDepth 100000 in
set_option maxHeartbeats 4000000 in
theorem Decide_close {w : World} {g bm : Nat} {A : Option Addr} {n c : Nat} {ps : List VL} {D : DV} {s : FS} (h : FlM w g A n c ps (some bm) D s) (h0 : 0 < n) (hM : MadeT w) (ref turn now t : Int) (ht : s.taskAt ref turn = (t, s.beg)) (hb0 : s.beg ≠ 0) (hlate : s.late = false) (hnow : 0 ≤ now ∧ now ≤ 1099511627776) (hll : (s.L.getD (n - 1) default).a ≤ now) (hst : statL s.L = 1) (hn : n + 2 ≤ 4096) {G : Nat → Prop} (x : DL) (d : List UInt8) (hk : x.k = 5 ∨ x.k = 6 ∨ x.k = 8 ∨ (x.k = 7 ∧ w.cell? ⟨g, 8, none⟩ = some (.bool true))) (hmay : x.may = true) (hr : Rd8 w x.A d) (hd : d.length = x.dl) (hd2 : x.dl ≤ 140737488355328) (hG : ∀ ad, x.A = some ad → 0 < x.dl → G ad.block) (hi : I64 x.i) (hl : I64 x.l) (hx : I64 x.n) (hx0 : 0 ≤ x.n ∧ x.n ≤ 1099511627776) (hGA : ∀ k, G k → ¬ AF g bm (.slice A n c) k) (hGl : ∀ k, G k → k < w.heap.size) (bx ox lc : Nat) (hc : ∀ j u, x.cells[j]? = some u → w.cell? ⟨bx, ox + j, none⟩ = some u) :
    Calls Tryd.prog 24 #[.pointer (some ⟨g, 0, none⟩), .int .i64 ref, .int .i64 turn, .slice (some ⟨bx, ox, none⟩) 1 lc, .int .i64 now] w (LayPost w g bm A n c ps s now [evN 4 s.beg 0 0, closeE x d]) := by
  have hmf : ∀ (fn : Fn) (first cap : Array Value) (w : World), (Instr.makeFunc fn first cap).run Tryd.prog w = .ok (.func fn first cap) w := fun _ _ _ _ => rfl
  have C := Lib.hid (do_ok h h0 69 ⟨ref, turn, 0, 0, none, 0, 0, some ⟨bx, ox, none⟩, 1, lc, now⟩ (by unfold Hd.fits; simp only [Bool.and_eq_true, decide_eq_true_eq]; omega) hll hst (fun _ _ => by kernel_rfl) (Q := LayPost w g bm A n c ps s now [evN 4 s.beg 0 0, closeE x d]) (fun w' hf => by
    have hk' : x.k = 5 ∨ x.k = 6 ∨ x.k = 8 ∨ (x.k = 7 ∧ w'.cell? ⟨g, 8, none⟩ = some (.bool true)) := by
      rcases hk with h | h | h | ⟨h, h9⟩
      · exact .inl h
      · exact .inr (.inl h)
      · exact .inr (.inr (.inl h))
      · exact .inr (.inr (.inr ⟨h, (hf.cell (World.block_lt_of_cell? w _ h9) (fun h => h)).trans h9⟩))
    refine (decide_close (h.fr hf (fun _ _ h => h)) (hM.fr hf (fun h => h)) ⟨ref, turn, 0, 0, none, 0, 0, some ⟨bx, ox, none⟩, 1, lc, now⟩ t ht hb0 hlate hnow hn x d hk' hmay (hr.fr hf (fun _ _ _ h => h)) hd hd2 hG hi hl hx hx0 hGA (fun k hk => Nat.lt_of_lt_of_le (hGl k hk) hf.size) bx ox ⟨rfl, rfl⟩ (fun j u hu => (hf.cell (World.block_lt_of_cell? w _ (hc j u hu)) (fun h => h)).trans (hc j u hu))).mono ?_
    intro e w9 hp
    exact ⟨hp.two, hp.back hf⟩))
  unfold Hd.cells at C
  simp only at C
  clear h h0 hM ht hb0 hlate hnow hll hst hn hk hmay hr hd hd2 hG hi hl hx hx0 hGA hGl hc
  go_enter Tryd.func24, Tryd.ntmps24
  go_wp2_with fail
  refine C.out.mono ?_; rintro e w9 hp
  obtain ⟨v, u, rfl⟩ := hp.two
  go_wp2
  go_ret2
  exact hp
theorem OwnO.one {w : World} {A : Option Addr} {c : Nat} {x : OL} (h : OwnO w (.slice A 1 c) [x]) : ∃ b off, A = some ⟨b, off, none⟩ ∧ ∀ j u, x.cells[j]? = some u → w.cell? ⟨b, off + j, none⟩ = some u := by
  obtain ⟨A', c', e, _, _, hA⟩ := h.row.form
  obtain ⟨b, off, rfl⟩ := hA (by simp)
  injection e with e1 _ e3
  subst e1 e3
  exact ⟨b, off, rfl, fun j u hu => h.row.cell (by simpa [olc] using hu)⟩
theorem one_of {os : List OL} {o : Ou} {m : Nat} (hl : os.length = m) (h : os.map OL.o = [o]) : m = 1 ∧ ∃ x, os = [x] ∧ x.o = o := by
  match os, h with
  | [x], h => simp at h hl; exact ⟨hl.symm, x, rfl, h⟩
def inB : List UInt8 := [105, 110]
def outB : List UInt8 := [111, 117, 116]
def sA : FS := ⟨1, 1, [⟨1, 0, 0, 0, 2, 10, inB⟩, ⟨2, 0, 0, 0, 2, 0, []⟩], 2, 0, 0, false, false, fun _ _ => (0, 0)⟩
def sB : FS := ⟨1, 1, [⟨1, 0, 0, 0, 2, 10, inB⟩, ⟨2, 0, 0, 0, 2, 0, []⟩, ⟨3, 1, 2, 0, 0, 0, []⟩], 2, 3, 0, false, false, fun _ _ => (0, 0)⟩
def sC : FS := ⟨1, 1, [⟨1, 0, 0, 0, 2, 10, inB⟩, ⟨2, 0, 0, 0, 2, 0, []⟩, ⟨3, 1, 2, 0, 0, 0, []⟩, ⟨4, 3, 3, 0, 0, 0, []⟩, ⟨20, 3, 0, 0, 0, 0, outB⟩], 0, 0, 0, false, false, fun _ _ => (0, 0)⟩
theorem stA : (FS.new 1 1).lay 0 [⟨1, 0, 0, 0, 2, 10, inB⟩, evS 2 0] = (sA, [⟨1, 2, 2, 0, 0, 0, 0, []⟩]) := rfl
theorem stB : (sA.lay 1 [evN 3 2 0 0]).1 = sB := rfl
theorem stC : sB.lay 3 [evN 4 3 0 0, closeE ⟨5, 0, 0, 0, none, 3, 3⟩ outB] = (sC, [⟨7, 0, 0, 0, 0, 0, 2, outB⟩]) := rfl
theorem rd8_in (w : World) : Rd8 (w.alloc (.cells #[.int .u8 105, .int .u8 110] 5 (2, 3))) (some ⟨w.heap.size, 0, none⟩) inB := fun _ => by
  refine ⟨_, rfl, rfl, fun j hj => ?_⟩
  have hj' : j < 2 := by simpa [inB] using hj
  have hc := cell_of_row (w.alloc (.cells #[.int .u8 105, .int .u8 110] 5 (2, 3))) w.heap.size j #[.int .u8 105, .int .u8 110] 5 (2, 3) (heap_alloc_new w _)
  rw [Nat.zero_add, hc]
  have : j = 0 ∨ j = 1 := by omega
  rcases this with rfl | rfl <;> rfl
theorem rd8_out (w : World) : Rd8 (w.alloc (.cells #[.int .u8 111, .int .u8 117, .int .u8 116] 5 (3, 4))) (some ⟨w.heap.size, 0, none⟩) outB := fun _ => by
  refine ⟨_, rfl, rfl, fun j hj => ?_⟩
  have hj' : j < 3 := by simpa [outB] using hj
  have hc := cell_of_row (w.alloc (.cells #[.int .u8 111, .int .u8 117, .int .u8 116] 5 (3, 4))) w.heap.size j #[.int .u8 111, .int .u8 117, .int .u8 116] 5 (3, 4) (heap_alloc_new w _)
  rw [Nat.zero_add, hc]
  have : j = 0 ∨ j = 1 ∨ j = 2 := by omega
  rcases this with rfl | rfl | rfl <;> rfl

set_option maxRecDepth 100000 in
set_option maxHeartbeats 8000000 in
theorem known_any (w : World) (hM : MadeT w) : Calls Tryd.prog 6 #[] w fun e w' => e = .returned (.bool true) ∧ Fr (fun _ => False) w w' := by
  have kcI := fun (w : World) => Lib.run_convert_bytes_const (P := Tryd.prog) w 34 5 #[.int .u8 105, .int .u8 110] 2 2 Tryd.underlying34 Tryd.underlying5
  have kcO := fun (w : World) => Lib.run_convert_bytes_const (P := Tryd.prog) w 34 5 #[.int .u8 111, .int .u8 117, .int .u8 116] 3 3 Tryd.underlying34 Tryd.underlying5
  have HM := Lib.hid hM
  have CN := Lib.hid (newF_any 1 1 2 10 (some ⟨w.heap.size, 0, none⟩) 2 2 inB 0 (w.alloc (.cells #[.int .u8 105, .int .u8 110] 5 (2, 3))) (rd8_in w) rfl (by omega) ⟨by omega, by omega⟩ ⟨by omega, by omega⟩ ⟨by omega, by omega⟩ ⟨by omega, by omega⟩ ⟨by omega, by omega⟩ (fun ad e _ => by injection e with e; subst e; simp))
  have HF0 : Hid (Fr (fun _ => False) w (w.alloc (.cells #[.int .u8 105, .int .u8 110] 5 (2, 3)))) := Lib.hid ((Fr.refl _ _).alloc _)
  clear hM
  go_enter Tryd.func6, Tryd.ntmps6
  go_wp2_with fail
  refine CN.out.mono ?_; rintro e w1 ⟨g, bm, A, c, ps, D, Ao, m, co, os, rfl, hl, ho, hfl, hown, hfb, hob, hf1⟩
  rw [stA] at ho hfl
  obtain ⟨rfl, x, rfl, hx⟩ := one_of hl ho
  obtain ⟨b, off, rfl, hcs⟩ := hown.one
  have c0 : w1.cell? ⟨b, off, none⟩ = some (.int .i64 1) := by have := hcs 0 _ rfl; rw [hx] at this; exact this
  have c2 : w1.cell? ⟨b, off + 2, none⟩ = some (.int .i64 2) := by have := hcs 2 _ rfl; rw [hx] at this; exact this
  have HFL := Lib.hid hfl
  have HF1 := Lib.hid (HF0.out.trans hf1 (fun _ _ h => h))
  have HFB : Hid (∀ k, FB g A 2 c ps (some bm) k → w.heap.size ≤ k) := Lib.hid (fun k hk => Nat.le_trans HF0.out.size (hfb k hk))
  have CD := Lib.hid (decides_ok hfl (by omega) 2 0 1 2 rfl (by omega) ⟨by decide, by decide⟩ ⟨by omega, by omega⟩ (by decide) rfl (by omega))
  clear hl ho hfl hown hfb hob hf1 hcs hx CN HF0
  go_wp2_with fail
  clear c0 c2
  refine CD.out.mono ?_; rintro e w2 ⟨A2, c2, ps2, mo2, D2, Ao2, m2, co2, os2, rfl, -, -, hlr, hmo⟩
  obtain rfl := hmo (by intro e he; simp [evN] at he; subst he; rfl)
  have hfl2 := hlr.fl
  rw [stB] at hfl2
  have HFL2 : Hid (FlM w2 g A2 3 c2 ps2 (some bm) D2 sB) := Lib.hid hfl2
  have HF2 : Hid (Fr (fun _ => False) w w2) := Lib.hid (HF1.out.trans hlr.fr (fun y hy e => by
    have h9 : w.heap.size ≤ y := HFB.out y (by
      rcases e with rfl | rfl | e
      · exact .inl rfl
      · exact .inr (.inl rfl)
      · exact .inr (.inr (.inl e)))
    omega))
  have HAF2 : Hid (∀ y, AF g bm (.slice A2 3 c2) y → w.heap.size ≤ y) := Lib.hid (fun y e => by
    rcases e with rfl | rfl | e
    · exact HFB.out _ (.inl rfl)
    · exact HFB.out _ (.inr (.inl rfl))
    · have hmv : Moved w1 (.slice A 2 c) (.slice A2 3 c2) := hlr.mv
      rcases hmv with e2 | ⟨z, e2, hz⟩
      · exact HFB.out _ (.inr (.inr (.inl (e2 ▸ e))))
      · rw [e2] at e; injection e with e; have := HF1.out.size; omega)
  clear hlr hmo hfl2 CD HFL HF1 HFB
  obtain ⟨gO, hgO⟩ : ∃ gO, w2.heap.size = gO := ⟨_, rfl⟩
  obtain ⟨W3, hW3⟩ : ∃ W3, w2.alloc (.cells #[.int .u8 111, .int .u8 117, .int .u8 116] 5 (3, 4)) = W3 := ⟨_, rfl⟩
  have hrd : Rd8 W3 (some ⟨gO, 0, none⟩) outB := by rw [← hW3, ← hgO]; exact rd8_out w2
  have hf23 : Fr (fun _ => False) w2 W3 := by rw [← hW3]; exact (Fr.refl _ _).alloc _
  obtain ⟨gL, hgL⟩ : ∃ gL, W3.heap.size = gL := ⟨_, rfl⟩
  obtain ⟨W4, hW4⟩ : ∃ W4, W3.alloc (.cells #[.int .i64 5, .int .i64 0, .int .i64 0, .int .i64 0, .slice (some ⟨gO, 0, none⟩) 3 3] 59) = W4 := ⟨_, rfl⟩
  have kcO2 := kcO w2
  rw [show (#[Value.int .u8 111, .int .u8 117, .int .u8 116] : Array Value).size = 3 from rfl, hgO, hW3] at kcO2
  have hf34 : Fr (fun _ => False) W3 W4 := by rw [← hW4]; exact (Fr.refl _ _).alloc _
  have hbL : Bk W4 gL 59 #[.int .i64 5, .int .i64 0, .int .i64 0, .int .i64 0, .slice (some ⟨gO, 0, none⟩) 3 3] := by rw [← hW4, ← hgL]; exact Bk.new _ _ _
  have hf24 := hf23.trans hf34 (fun _ _ h => h)
  have hsz : gO < W3.heap.size := by rw [← hW3, ← hgO]; simp
  have HFL4 := Lib.hid (HFL2.out.fr hf24 (fun _ _ h => h))
  have HF4 := Lib.hid (HF2.out.trans hf24 (fun _ _ h => h))
  have HAFL := Lib.hid (fun k (hk : AF g bm (.slice A2 3 c2) k) => AF.lt HFL2.out hk)
  have CD := Lib.hid (Decide_close HFL4.out (by omega) (HM.out.fr HF4.out (fun h => h)) 2 0 3 2 rfl (by decide) rfl ⟨by omega, by omega⟩ (by decide) rfl (by omega) (G := fun k => k = gO) ⟨5, 0, 0, 0, some ⟨gO, 0, none⟩, 3, 3⟩ outB (.inl rfl) rfl (hrd.fr hf34 (fun _ _ _ h => h)) rfl (by show (3 : Nat) ≤ 140737488355328; omega) (fun ad e _ => by injection e with e; subst e; rfl) i64z i64z i64z ⟨Int.le_refl _, by show (0 : Int) ≤ 1099511627776; omega⟩ (fun k hk e => by have := HAFL.out k e; omega) (fun k hk => by have := hf34.size; omega) gL 0 1 (fun j u hu => by rw [Nat.zero_add, hbL.cell]; exact hu))
  clear hrd hf23 hf34 hf24 hsz hbL HFL4 HAFL HFL2 HF2
  go_wp2_with fail
  clear hW3 hW4 hgO hgL kcI kcO kcO2
  refine CD.out.mono ?_; rintro e w5 ⟨A5, c5, ps5, mo5, D5, Ao5, m5, co5, os5, rfl, hl, ho, hlr, -⟩
  have hfl5 := hlr.fl
  have hstC : (sB.lay 3 [evN 4 sB.beg 0 0, closeE ⟨5, 0, 0, 0, some ⟨gO, 0, none⟩, 3, 3⟩ outB]) = (sC, [⟨7, 0, 0, 0, 0, 0, 2, outB⟩]) := rfl
  rw [hstC] at ho hfl5
  have HFL5 : Hid (FlM w5 g A5 5 c5 ps5 mo5 D5 sC) := Lib.hid hfl5
  obtain ⟨rfl, x, rfl, hx⟩ := one_of hl ho
  obtain ⟨b, off, rfl, hcs⟩ := hlr.ou.one
  have c0 : w5.cell? ⟨b, off, none⟩ = some (.int .i64 7) := by have := hcs 0 _ rfl; rw [hx] at this; exact this
  have HF5 : Hid (Fr (fun _ => False) w w5) := Lib.hid (HF4.out.trans hlr.fr (fun y hy e => by have := HAF2.out y e; omega))
  have CS := Lib.hid (status_any hfl5 (by omega))
  rw [show statL sC.L = 2 from rfl] at CS
  have CR := Lib.hid (result_close hfl5 (by omega) rfl)
  have CLn : Hid (∀ w', Fr (fun _ => False) w5 w' → Calls Tryd.prog 13 #[.pointer (some ⟨g, 0, none⟩)] w' fun e w9 => e = .returned (.int .i64 5) ∧ w' = w9) := Lib.hid (fun w' hf => len_any (HFL5.out.fr hf (fun _ _ h => h)))
  clear hl ho hlr hfl5 hcs hx CD HF4 HAF2 hstC HFL5
  go_wp2_with fail
  clear c0
  refine CS.out.mono ?_; rintro e w6 ⟨rfl, rfl⟩
  go_wp2_with fail
  refine CR.out.mono ?_; rintro e w6 ⟨A6, m6, c6, rfl, hm6, ho6, hf6⟩
  obtain rfl : 3 = m6 := hm6
  have s6 := run_str8 Tryd.t8 Tryd.underlying5 Tryd.underlying9 c6 (show Own8 w6 5 (.slice A6 3 c6) outB from ho6).rd (rfl : outB.length = 3)
  have hstr : strOf outB = ⟨#[111, 117, 116]⟩ := rfl
  rw [hstr, show outB.length = 3 from rfl] at s6
  have HF6 := Lib.hid hf6
  clear ho6 hf6 CR CS
  go_wp2_with fail
  clear s6
  refine (CLn.out _ HF6.out).mono ?_; rintro e w7 ⟨rfl, rfl⟩
  go_wp2
  go_ret
  exact ⟨rfl, HF5.out.trans HF6.out (fun _ _ h => h)⟩
end Go.Proofs.YtkinbcmnfpkncaaDoor
