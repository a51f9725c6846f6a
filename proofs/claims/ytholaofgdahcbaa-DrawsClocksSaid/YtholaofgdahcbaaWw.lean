/- The walk of DrawsClocks. -/
import Derived.Test.YtholaofgdahcbaaWv
import Derived.Test.YtholaofgdahcbaaTf
namespace Go.Proofs.Ytholaofgdahcbaa
open Go.RowKit Go.Maps

structure Ac where
  kind : Int
  id : Int
  n : Int
structure AcAt (w : World) (g o : Nat) (x : Ac) : Prop where
  c0 : w.cell? ⟨g, o, none⟩ = some (.int .i64 x.kind)
  c1 : w.cell? ⟨g, o + 1, none⟩ = some (.int .i64 x.id)
  c2 : w.cell? ⟨g, o + 2, none⟩ = some (.int .i64 x.n)
  i1 : I64 x.id
  i2 : I64 x.n
theorem AcAt.fr {S : Nat → Prop} {w w' : World} {g o : Nat} {x : Ac} (h : AcAt w g o x) (hf : Fr S w w') (hS : ∀ k, k < w.heap.size → ¬ S k) : AcAt w' g o x :=
  { h with
    c0 := (hf.cell (World.block_lt_of_cell? w _ h.c0) (hS _ (World.block_lt_of_cell? w _ h.c0))).trans h.c0
    c1 := (hf.cell (World.block_lt_of_cell? w _ h.c1) (hS _ (World.block_lt_of_cell? w _ h.c1))).trans h.c1
    c2 := (hf.cell (World.block_lt_of_cell? w _ h.c2) (hS _ (World.block_lt_of_cell? w _ h.c2))).trans h.c2 }
def Acs (w : World) (A : Option Addr) (l : List Ac) : Prop := 0 < l.length → ∃ g o, A = some ⟨g, o, none⟩ ∧ ∀ i (h : i < l.length), AcAt w g (o + i * 3) l[i]

/-- The clock and the reference's share nothing. -/
theorem apart {w : World} {gc gr nc : Nat} {now now' : Int} {m : Option Nat} {D : DataW Unit} {LV : Value} {l : List (Int × Int)} (hc : Clk w gc now m nc D) (hr : RC w gr now' LV l) : ∀ x, RB gr LV x → ¬ CS gc m x := fun x hx e => by
  have key : ∀ t cs, Bk w x t cs → 49 ≠ t → False := fun t cs hb hne => by
    rcases e with e | e
    · subst e; exact Bk.ne hc.1 hb hne rfl
    · rcases hc.2 with ⟨e2, _⟩ | ⟨b, e2, ha⟩
      · rw [e2] at e; cases e
      · rw [e2] at e; injection e with e; subst e; exact ha.ne hb rfl
  rcases hx with rfl | hx
  · exact key _ _ hr.blk (by decide)
  · obtain ⟨cur, hb⟩ := hr.row.bk hx
    exact key _ _ hb (by decide)
/-- A slice that reads as ints. -/
def RdI (w : World) (A : Option Addr) (xs : List Int) : Prop :=
  0 < xs.length → ∃ d, A = some ⟨d, 0, none⟩ ∧ ∀ j (h : j < xs.length), w.cell? ⟨d, j, none⟩ = some (.int .i64 xs[j])
theorem SlI.rd {w : World} {v : Value} {ys : List Int} (h : SlI w v ys) : ∃ A cap, v = .slice A ys.length cap ∧ RdI w A ys := by
  rcases h with ⟨rfl, rfl⟩ | ⟨d, cap, cur, rfl, hb, hc⟩
  · exact ⟨none, 0, rfl, fun h => by simp at h⟩
  · exact ⟨some ⟨d, 0, none⟩, cap, rfl, fun _ => ⟨d, rfl, fun j hj => (hb.cell j).trans (hc j hj)⟩⟩
theorem OwnI.rd {w : World} {v : Value} {ys : List Int} (h : OwnI w v ys) : ∃ A cap, v = .slice A ys.length cap ∧ RdI w A ys := by
  rcases h.form with ⟨rfl, rfl⟩ | ⟨d, cap, cur, rfl, _, _, hb, hc⟩
  · exact ⟨none, 0, rfl, fun h => by simp at h⟩
  · exact ⟨some ⟨d, 0, none⟩, cap, rfl, fun _ => ⟨d, rfl, fun j hj => (hb.cell j).trans (hc j hj)⟩⟩
theorem RdI.fr0 {w w' : World} {A : Option Addr} {xs : List Int} (h : RdI w A xs) (hf : Fr (fun _ => False) w w') : RdI w' A xs := fun h0 => by
  obtain ⟨d, e, hc⟩ := h h0
  exact ⟨d, e, fun j hj => (hf.cell (p := ⟨d, j, none⟩) (World.block_lt_of_cell? w _ (hc j hj)) (fun h => h)).trans (hc j hj)⟩

theorem tick_ge {now k : Int} (h : 0 ≤ now) : 0 ≤ tickI now k := by unfold tickI; split <;> omega
theorem tick_le {now k : Int} {i : Nat} (h : now ≤ (i : Int) * 1048576) : tickI now k ≤ ((i + 1 : Nat) : Int) * 1048576 := by unfold tickI; split <;> omega
/-- Both clocks as they stand in a round. -/
structure Pr (B gc gr i : Nat) (w0 w : World) (now : Int) (m : Option Nat) (nc : Nat) (D : DataW Unit) (LV : Value) (l : List (Int × Int)) : Prop where
  clk : Clk w gc now m nc D
  ref : RC w gr now LV l
  cl : CL D l
  nc : nc ≤ i
  ll : l.length ≤ i
  now0 : 0 ≤ now
  now1 : now ≤ (i : Int) * 1048576
  mB : ∀ b, m = some b → B ≤ b
  lB : ∀ x, LV.ownBlock = some x → B ≤ x
  fr : Fr (fun _ => False) w0 w
section
variable {B gc gr i : Nat} {w0 w w' : World} {now : Int} {m : Option Nat} {nc : Nat} {D : DataW Unit} {LV : Value} {l : List (Int × Int)}
theorem Pr.fr0 (h : Pr B gc gr i w0 w now m nc D LV l) (hf : Fr (fun _ => False) w w') : Pr B gc gr i w0 w' now m nc D LV l :=
  { h with clk := h.clk.fr hf (fun _ _ h => h), ref := h.ref.fr0 hf, fr := h.fr.trans hf (fun _ _ h => h) }
theorem Pr.mono {i' : Nat} (h : Pr B gc gr i w0 w now m nc D LV l) (hi : i ≤ i') : Pr B gc gr i' w0 w now m nc D LV l :=
  { h with nc := Nat.le_trans h.nc hi, ll := Nat.le_trans h.ll hi, now1 := Int.le_trans h.now1 (by omega) }
/-- Behind a call of the clock's, and one of the reference's. -/
theorem Pr.both {w1 w2 : World} {now' : Int} {m' : Option Nat} {nc' : Nat} {D' : DataW Unit} {LV' : Value} {l' : List (Int × Int)} (h : Pr B gc gr i w0 w now m nc D LV l) (hB : B ≤ w0.heap.size) (hBw : w0.heap.size = B) (hgc : B ≤ gc) (hgr : B ≤ gr)
    (hk : Clk w1 gc now' m' nc' D') (hf : Fr (CS gc m) w w1) (hm : m' = m ∨ ∃ b, m' = some b ∧ w.heap.size ≤ b) (hr : RC w2 gr now' LV' l') (hf2 : Fr (fun k => k = gr) w1 w2) (hl : LV' = LV ∨ ∀ x, LV'.ownBlock = some x → w1.heap.size ≤ x)
    (hr1 : RC w1 gr now LV l) (hcl : CL D' l') (hn : nc' ≤ i + 1) (hll : l'.length ≤ i + 1) (h0 : 0 ≤ now') (h1 : now' ≤ ((i + 1 : Nat) : Int) * 1048576) : Pr B gc gr (i + 1) w0 w2 now' m' nc' D' LV' l' := by
  have hws := h.fr.size
  have hw1 := hf.size
  refine ⟨hk.fr hf2 (fun k hk2 e => (apart hk hr1) gr (.inl rfl) (e ▸ hk2)), hr, hcl, hn, hll, h0, h1, fun b e => ?_, fun x e => ?_, ?_⟩
  · rcases hm with e2 | ⟨b', e2, hb⟩
    · exact h.mB b (by rw [← e2]; exact e)
    · rw [e2] at e; injection e with e; omega
  · rcases hl with e2 | e2
    · exact h.lB x (by rw [← e2]; exact e)
    · have := e2 x e; omega
  · refine (h.fr.trans hf (fun y hy e => ?_)).trans hf2 (fun y hy e => by omega)
    rcases e with e | e
    · omega
    · have := h.mB y e; omega
end

set_option maxRecDepth 100000 in
set_option maxHeartbeats 8000000 in
theorem clocks_any (A : Option Addr) (n c : Nat) (acts : List Ac) (w : World) (h : Acs w A acts) (hn : acts.length = n) :
    Calls Try.prog 3 #[.slice A n c] w fun e w' => e = .returned (.bool true) ∧ Fr (fun _ => False) w w' := by
  generalize hB : w.heap.size = B at *
  have HB := Lib.hid hB
  have HACS := Lib.hid h
  have HN := Lib.hid hn
  clear hB h hn
  by_cases h4 : (400 : Int) < n
  · go_enter Try.func3, Try.ntmps3
    go_wp2_with fail
    refine (known_any w).mono ?_; rintro e w1 ⟨rfl, hf1⟩
    go_wp2
    go_ret
    exact ⟨rfl, hf1⟩
  · have hn4 : (n : Int) ≤ 400 := by omega
    clear h4
    go_enter Try.func3, Try.ntmps3
    go_wp2_with fail
    refine (known_any w).mono ?_; rintro e w1 ⟨rfl, hf1⟩
    go_wp2_with fail
    refine (newClock_any w1).mono ?_; rintro e w2 ⟨rfl, hw2⟩
    have hc2 : Clk w2 w1.heap.size 0 none 0 (.map []) := by rw [hw2]; exact clk_new w1 0
    have hf2 : Fr (fun _ => False) w w2 := hf1.trans (by rw [hw2]; exact (Fr.refl _ _).alloc _) (fun _ _ h => h)
    have hgB : B ≤ w1.heap.size := by have := hf1.size; have := HB.out; omega
    have hz2 : w2.heap.size = w1.heap.size + 1 := by rw [hw2]; simp
    clear hw2 hf1
    generalize w1.heap.size = gc at *
    have HGC := Lib.hid hgB
    have HZ2 := Lib.hid hz2
    clear hgB hz2
    go_wp2_with fail
    have hp3 : Pr B gc w2.heap.size 0 w (w2.alloc (.cells #[.int .i64 0, .slice none 0 0] 29)) 0 none 0 (.map []) (.slice none 0 0) [] :=
      ⟨hc2.fr ((Fr.refl (fun _ => False) w2).alloc _) (fun _ _ h => h), ⟨Bk.new w2 _ _, Row.nil _ _ _⟩, CL.nil, Nat.le_refl _, Nat.le_refl _, by omega, by omega, (fun b e => by cases e), (fun x e => by simp [Value.ownBlock] at e), hf2.alloc _⟩
    have HP3 := Lib.hid hp3
    have HGR := Lib.hid (show B ≤ w2.heap.size by have := HGC.out; have := HZ2.out; omega)
    clear hc2 hf2 HZ2 hp3
    generalize w2.alloc (.cells #[.int .i64 0, .slice none 0 0] 29) = w3 at *
    generalize w2.heap.size = gr at *
    go_loopw [5] (fun u wr => ∃ (i : Nat) (now : Int) (m : Option Nat) (nc : Nat) (D : DataW Unit) (LV : Value) (l : List (Int × Int)), u = .int .i64 i ∧ i ≤ n ∧ Hid (Pr B gc gr i w wr now m nc D LV l)) (fun u _ => n - (intOf u).toNat)
    case atStart => exact ⟨0, 0, none, 0, _, _, [], rfl, Nat.zero_le _, HP3⟩
    case round =>
      clear HP3
      obtain ⟨i, now, m, nc, D, LV, l, rfl, hi, H⟩ := hrel
      by_cases hlt : i < n
      · have hltz : (i : Int) < (n : Int) := by omega
        obtain ⟨bA, oA, rfl, hall⟩ := HACS.out (by have := HN.out; omega)
        obtain ⟨a, ha⟩ : ∃ a, acts[i]'(by have := HN.out; omega) = a := ⟨_, rfl⟩
        have hat := (hall i (by have := HN.out; omega)).fr H.out.fr (fun _ _ h => h)
        rw [ha] at hat
        have d0 := hat.c0
        have d1 := hat.c1
        have d2 := hat.c2
        have HI1 := Lib.hid hat.i1
        have HI2 := Lib.hid hat.i2
        obtain ⟨ak, aid, an⟩ := a
        simp only at d0 d1 d2 HI1 HI2
        obtain ⟨ga, hga⟩ : ∃ ga, wr.heap.size = ga := ⟨_, rfl⟩
        obtain ⟨w5, hw5⟩ : ∃ w5, wr.alloc (.cells #[.int .i64 ak, .int .i64 aid, .int .i64 an] 31) = w5 := ⟨_, rfl⟩
        have hb5 : Bk w5 ga 31 #[.int .i64 ak, .int .i64 aid, .int .i64 an] := by rw [← hw5, ← hga]; exact Bk.new wr _ _
        have HW5 := Lib.hid (show Pr B gc gr i w w5 now m nc D LV l from by rw [← hw5]; exact H.out.fr0 ((Fr.refl _ _).alloc _))
        have hgan : ∀ k, CS gc m k ∨ k = gr → k ≠ ga := fun k hk e => by
          have hlt : k < wr.heap.size := by
            rcases hk with hk | hk
            · rcases hk with hk | hk
              · rw [hk]; exact H.out.clk.1.lt
              · rcases H.out.clk.2 with ⟨e2, _⟩ | ⟨b, e2, hb⟩
                · rw [e2] at hk; cases hk
                · rw [e2] at hk; injection hk with hk; rw [← hk]; exact hb.lt
            · rw [hk]; exact H.out.ref.blk.lt
          omega
        have HA := Lib.hid (fun w' (hf : Fr (fun k => CS gc m k ∨ k = gr) w5 w') => show w'.cell? ⟨ga, 0, none⟩ = some (.int .i64 ak) ∧ w'.cell? ⟨ga, 1, none⟩ = some (.int .i64 aid) ∧ w'.cell? ⟨ga, 2, none⟩ = some (.int .i64 an) from by
          have := hb5.fr hf (fun e => hgan ga e rfl)
          exact ⟨this.cell 0, this.cell 1, this.cell 2⟩)
        have HNW := Lib.hid (show now ≤ 419430400 from by have := H.out.now1; omega)
        have HL := Lib.hid (show l.length ≤ 1000000 from by have := H.out.ll; omega)
        have HNC := Lib.hid (show nc ≤ 1000000 from by have := H.out.nc; omega)
        have k0 : w5.cell? ⟨ga, 0, none⟩ = some (.int .i64 ak) := hb5.cell 0
        clear hat hall ha hb5 hgan H
        have H := HW5
        clear HW5
        by_cases h1 : ak = 1
        · subst h1
          go_wp2_with fail
          clear hga hw5 d0 d1 d2 k0
          have HKD := Lib.hid (show Clk w5.drew gc now m nc D from H.out.clk.fr ((Fr.refl (fun _ => False) _).drew) (fun _ _ h => h))
          have HRD := Lib.hid (H.out.ref.fr0 (Fr.refl _ w5).drew)
          go_wp2_with fail
          refine wp_region_held_drew (S := fun w' => Fr (fun k => CS gc m k ∨ k = gr) w5 w') (by kernel_rfl) ((Fr.refl _ _).drew) (fun hHeld => ?_)
          refine wpAnyH_takeD (i := 0) (v := ?_) (some 38) rfl rfl (by kernel_rfl) (by kernel_rfl) (by kernel_rfl) (fun _ _ _ h => h) (Or.inl ⟨by rfl, ?_⟩) (by assumption) ?_
          rotate_left
          · intro w' hSw
            go_simp
            first | done | with_reducible rfl
          try simp only [Go.Act.put, List.setIfInBounds_toArray, List.set_cons_zero, List.set_cons_succ]
          refine wpAnyH_takeD (i := 1) (v := ?_) (some 39) rfl rfl (by kernel_rfl) (by kernel_rfl) (by kernel_rfl) (fun _ _ _ h => h) (Or.inl ⟨by rfl, ?_⟩) (by assumption) ?_
          rotate_left
          · intro w' hSw
            go_simp
            first | done | with_reducible rfl
          try simp only [Go.Act.put, List.setIfInBounds_toArray, List.set_cons_zero, List.set_cons_succ]
          refine wpAnyH_takeD (i := 2) (v := ?_) (some 40) rfl rfl (by kernel_rfl) (by kernel_rfl) (by kernel_rfl) (fun _ _ _ h => h) (Or.inl ⟨by rfl, ?_⟩) (by assumption) ?_
          rotate_left
          · intro w' hSw
            obtain ⟨q0, q1, q2⟩ := HA.out w' hSw
            go_simp
            first | done | with_reducible rfl
          try simp only [Go.Act.put, List.setIfInBounds_toArray, List.set_cons_zero, List.set_cons_succ]
          refine wpAnyH_takeD (i := 4) (v := ?_) (some 42) rfl rfl (by kernel_rfl) (by kernel_rfl) (by kernel_rfl) (fun _ _ _ h => h) (Or.inl ⟨by rfl, ?_⟩) (by assumption) ?_
          rotate_left
          · intro w' hSw
            go_simp
            first | done | with_reducible rfl
          try simp only [Go.Act.put, List.setIfInBounds_toArray, List.set_cons_zero, List.set_cons_succ]
          refine wpAnyH_takeD (i := 5) (v := ?_) (some 43) rfl rfl (by kernel_rfl) (by kernel_rfl) (by kernel_rfl) (fun _ _ _ h => h) (Or.inl ⟨by rfl, ?_⟩) (by assumption) ?_
          rotate_left
          · intro w' hSw
            go_simp
            first | done | with_reducible rfl
          try simp only [Go.Act.put, List.setIfInBounds_toArray, List.set_cons_zero, List.set_cons_succ]
          refine wpAnyH_takeD (i := 6) (v := ?_) (some 44) rfl rfl (by kernel_rfl) (by kernel_rfl) (by kernel_rfl) (fun _ _ _ h => h) (Or.inl ⟨by rfl, ?_⟩) (by assumption) ?_
          rotate_left
          · intro w' hSw
            obtain ⟨q0, q1, q2⟩ := HA.out w' hSw
            go_simp
            first | done | with_reducible rfl
          try simp only [Go.Act.put, List.setIfInBounds_toArray, List.set_cons_zero, List.set_cons_succ]
          refine wpAnyH_ready (rs := [3]) (by kernel_rfl) (by simp) ?_
          refine AllReadyH.cons rfl (fun K hK => ?_) AllReadyH.nil
          go_simp
          refine (tick_any gc now an m nc D w5.drew HKD.out H.out.now0 (by have := HNW.out; omega)).mono ?_; rintro e v1 ⟨rfl, hk1, hf1⟩
          have HK1 := Lib.hid hk1
          have HF1 := Lib.hid hf1
          have HM1 := Lib.hid (show m = m ∨ _ from .inl rfl : m = m ∨ ∃ b, m = some b ∧ w5.heap.size ≤ b)
          have HR1 := Lib.hid (H.out.ref.fr0 (Fr.refl _ _).drew |>.fr hf1 (apart HKD.out HRD.out))
          try go_simp
          refine hK.out _ _ (hHeld.trans (hf1.mono (fun _ _ e => Or.inl e)) (fun _ _ e => e)) (fun hHeld => ?_)
          clear hK K
          try change wpAnyH _ _ _ _ _ _ _ (Go.Act.put _ (some 41) _) _
          try simp only [Go.Act.put, List.setIfInBounds_toArray, List.set_cons_zero, List.set_cons_succ]
          clear hk1 hf1
          refine wpAnyH_ready (rs := [7]) (by kernel_rfl) (by simp) ?_
          refine AllReadyH.cons rfl (fun K hK => ?_) AllReadyH.nil
          go_simp
          refine (rtick_any gr now an LV l v1 HR1.out H.out.now0 (by have := HNW.out; omega)).mono ?_; rintro e v2 ⟨rfl, hr2, hf2, hl2⟩
          have HR2 := Lib.hid hr2
          have HF2 := Lib.hid hf2
          have HL2 := Lib.hid hl2
          try go_simp
          refine hK.out _ _ (hHeld.trans (hf2.mono (fun _ _ e => Or.inr e)) (fun _ _ e => e)) (fun hHeld => ?_)
          clear hK K
          try change wpAnyH _ _ _ _ _ _ _ (Go.Act.put _ (some 45) _) _
          try simp only [Go.Act.put, List.setIfInBounds_toArray, List.set_cons_zero, List.set_cons_succ]
          clear hr2 hf2 hl2
          refine wpAnyH_takeD (i := 8) (v := ?_) (some 46) rfl rfl (by kernel_rfl) (by kernel_rfl) (by kernel_rfl) (fun _ _ _ h => h) (Or.inl ⟨by rfl, ?_⟩) (by assumption) ?_
          rotate_left
          · intro w' hSw
            go_simp
            first | done | with_reducible rfl
          try simp only [Go.Act.put, List.setIfInBounds_toArray, List.set_cons_zero, List.set_cons_succ]
          refine wpAnyH_done (by kernel_rfl) ?_ _
          clear hHeld
          have hpr := H.out.both (w1 := v1) (w2 := v2) (Nat.le_of_eq HB.out.symm) HB.out HGC.out HGR.out HK1.out ((Fr.refl _ _).drew.trans HF1.out (fun _ _ e => e)) HM1.out HR2.out HF2.out HL2.out HR1.out H.out.cl (by have := H.out.nc; omega) (by have := H.out.ll; omega) (tick_ge H.out.now0) (tick_le (i := i) H.out.now1)
          obtain ⟨nowx, mx, ncx, Dx, LVx, lx, hpx⟩ : ∃ nowx mx ncx Dx LVx lx, Pr B gc gr (i + 1) w v2 nowx mx ncx Dx LVx lx := ⟨_, _, _, _, _, _, hpr⟩
          have HP := Lib.hid hpx
          clear hpx
          clear hpr HK1 HF1 HM1 HR1 HR2 HF2 HL2 HKD HRD HA
          clear H
          have CN := Lib.hid (cnext_any gc mx ncx nowx Dx v2 HP.out.clk)
          go_wp2_with fail
          refine CN.out.mono ?_; rintro e w7 ⟨t7, is7, rfl, hn7, hf7⟩
          obtain ⟨et, eis⟩ := HP.out.cl.next hn7
          have HP7 := Lib.hid (HP.out.fr0 hf7)
          have C7 := rnext_any gr nowx LVx lx w7 HP7.out.ref
          rw [← et, ← eis] at C7
          have HC7 := Lib.hid C7
          clear CN hn7 hf7 et eis C7 HP
          go_wp2_with fail
          refine HC7.out.mono ?_; rintro e w8 ⟨rfl, rfl⟩
          clear HC7
          have CW := Lib.hid (fun w' (hf : Fr (fun _ => False) w8 w') => now_any gc nowx mx ncx Dx w' ((HP7.out.fr0 hf).clk))
          have HT := Lib.hid (fun w' (hf : Fr (fun _ => False) w8 w') => show w'.cell? ⟨gr, 0, none⟩ = some (.int .i64 nowx) from (HP7.out.fr0 hf).ref.blk.cell 0)
          go_wp2_with fail
          refine wp_region_held_drew (S := fun w' => Fr (fun _ => False) w8 w') (by kernel_rfl) ((Fr.refl _ _).drew) (fun hHeld => ?_)
          refine wpAnyH_takeD (i := 0) (v := ?_) (some 109) rfl rfl (by kernel_rfl) (by kernel_rfl) (by kernel_rfl) (fun _ _ _ h => h) (Or.inl ⟨by rfl, ?_⟩) (by assumption) ?_
          rotate_left
          · intro w' hSw
            go_simp
            first | done | with_reducible rfl
          try simp only [Go.Act.put, List.setIfInBounds_toArray, List.set_cons_zero, List.set_cons_succ]
          refine wpAnyH_takeD (i := 1) (v := ?_) (some 110) rfl rfl (by kernel_rfl) (by kernel_rfl) (by kernel_rfl) (fun _ _ _ h => h) (Or.inl ⟨by rfl, ?_⟩) (by assumption) ?_
          rotate_left
          · intro w' hSw
            go_simp
            first | done | with_reducible rfl
          try simp only [Go.Act.put, List.setIfInBounds_toArray, List.set_cons_zero, List.set_cons_succ]
          refine wpAnyH_takeD (i := 2) (v := ?_) (some 111) rfl rfl (by kernel_rfl) (by kernel_rfl) (by kernel_rfl) (fun _ _ _ h => h) (Or.inl ⟨by rfl, ?_⟩) (by assumption) ?_
          rotate_left
          · intro w' hSw
            go_simp
            first | done | with_reducible rfl
          try simp only [Go.Act.put, List.setIfInBounds_toArray, List.set_cons_zero, List.set_cons_succ]
          refine wpAnyH_takeD (i := 3) (v := ?_) (some 112) rfl rfl (by kernel_rfl) (by kernel_rfl) (by kernel_rfl) (fun _ _ _ h => h) (Or.inl ⟨by rfl, ?_⟩) (by assumption) ?_
          rotate_left
          · intro w' hSw
            go_simp
            first | done | with_reducible rfl
          try simp only [Go.Act.put, List.setIfInBounds_toArray, List.set_cons_zero, List.set_cons_succ]
          refine wpAnyH_takeD (i := 4) (v := ?_) (some 113) rfl rfl (by kernel_rfl) (by kernel_rfl) (by kernel_rfl) (fun _ _ _ h => h) (Or.inl ⟨by rfl, ?_⟩) (by assumption) ?_
          rotate_left
          · intro w' hSw
            go_simp
            first | done | with_reducible rfl
          try simp only [Go.Act.put, List.setIfInBounds_toArray, List.set_cons_zero, List.set_cons_succ]
          refine wpAnyH_takeD (i := 5) (v := ?_) (some 114) rfl rfl (by kernel_rfl) (by kernel_rfl) (by kernel_rfl) (fun _ _ _ h => h) (Or.inl ⟨by rfl, ?_⟩) (by assumption) ?_
          rotate_left
          · intro w' hSw
            go_simp
            first | done | with_reducible rfl
          try simp only [Go.Act.put, List.setIfInBounds_toArray, List.set_cons_zero, List.set_cons_succ]
          refine wpAnyH_takeD (i := 6) (v := ?_) (some 115) rfl rfl (by kernel_rfl) (by kernel_rfl) (by kernel_rfl) (fun _ _ _ h => h) (Or.inl ⟨by rfl, ?_⟩) (by assumption) ?_
          rotate_left
          · intro w' hSw
            go_simp
            first | done | with_reducible rfl
          try simp only [Go.Act.put, List.setIfInBounds_toArray, List.set_cons_zero, List.set_cons_succ]
          refine wpAnyH_takeD (i := 7) (v := ?_) (some 116) rfl rfl (by kernel_rfl) (by kernel_rfl) (by kernel_rfl) (fun _ _ _ h => h) (Or.inl ⟨by rfl, ?_⟩) (by assumption) ?_
          rotate_left
          · intro w' hSw
            go_simp
            first | done | with_reducible rfl
          try simp only [Go.Act.put, List.setIfInBounds_toArray, List.set_cons_zero, List.set_cons_succ]
          refine wpAnyH_takeD (i := 8) (v := ?_) (some 117) rfl rfl (by kernel_rfl) (by kernel_rfl) (by kernel_rfl) (fun _ _ _ h => h) (Or.inl ⟨by rfl, ?_⟩) (by assumption) ?_
          rotate_left
          · intro w' hSw
            go_simp
            first | done | with_reducible rfl
          try simp only [Go.Act.put, List.setIfInBounds_toArray, List.set_cons_zero, List.set_cons_succ]
          refine wpAnyH_takeD (i := 9) (v := ?_) (some 118) rfl rfl (by kernel_rfl) (by kernel_rfl) (by kernel_rfl) (fun _ _ _ h => h) (Or.inl ⟨by rfl, ?_⟩) (by assumption) ?_
          rotate_left
          · intro w' hSw
            go_simp
            first | done | with_reducible rfl
          try simp only [Go.Act.put, List.setIfInBounds_toArray, List.set_cons_zero, List.set_cons_succ]
          refine wpAnyH_takeD (i := 11) (v := ?_) (some 120) rfl rfl (by kernel_rfl) (by kernel_rfl) (by kernel_rfl) (fun _ _ _ h => h) (Or.inl ⟨by rfl, ?_⟩) (by assumption) ?_
          rotate_left
          · intro w' hSw
            go_simp
            first | done | with_reducible rfl
          try simp only [Go.Act.put, List.setIfInBounds_toArray, List.set_cons_zero, List.set_cons_succ]
          refine wpAnyH_takeD (i := 12) (v := ?_) (some 121) rfl rfl (by kernel_rfl) (by kernel_rfl) (by kernel_rfl) (fun _ _ _ h => h) (Or.inl ⟨by rfl, ?_⟩) (by assumption) ?_
          rotate_left
          · intro w' hSw
            go_simp
            first | done | with_reducible rfl
          try simp only [Go.Act.put, List.setIfInBounds_toArray, List.set_cons_zero, List.set_cons_succ]
          refine wpAnyH_takeD (i := 13) (v := ?_) (some 122) rfl rfl (by kernel_rfl) (by kernel_rfl) (by kernel_rfl) (fun _ _ _ h => h) (Or.inl ⟨by rfl, ?_⟩) (by assumption) ?_
          rotate_left
          · intro w' hSw
            go_simp
            first | done | with_reducible rfl
          try simp only [Go.Act.put, List.setIfInBounds_toArray, List.set_cons_zero, List.set_cons_succ]
          refine wpAnyH_takeD (i := 14) (v := ?_) (some 123) rfl rfl (by kernel_rfl) (by kernel_rfl) (by kernel_rfl) (fun _ _ _ h => h) (Or.inl ⟨by rfl, ?_⟩) (by assumption) ?_
          rotate_left
          · intro w' hSw
            have q0 := HT.out w' hSw
            go_simp
            first | done | with_reducible rfl
          try simp only [Go.Act.put, List.setIfInBounds_toArray, List.set_cons_zero, List.set_cons_succ]
          refine wpAnyH_ready (rs := [10]) (by kernel_rfl) (by simp) ?_
          refine AllReadyH.cons rfl (fun K hK => ?_) AllReadyH.nil
          go_simp
          refine (CW.out _ hHeld).mono ?_; rintro e w9 ⟨rfl, rfl⟩
          try go_simp
          refine hK.out _ _ (hHeld) (fun hHeld => ?_)
          clear hK K
          try change wpAnyH _ _ _ _ _ _ _ (Go.Act.put _ (some 119) _) _
          try simp only [Go.Act.put, List.setIfInBounds_toArray, List.set_cons_zero, List.set_cons_succ]
          refine wpAnyH_takeD (i := 15) (v := ?_) (some 124) rfl rfl (by kernel_rfl) (by kernel_rfl) (by kernel_rfl) (fun _ _ _ h => h) (Or.inl ⟨by rfl, ?_⟩) (by assumption) ?_
          rotate_left
          · intro w' hSw
            go_simp
            first | done | with_reducible rfl
          try simp only [Go.Act.put, List.setIfInBounds_toArray, List.set_cons_zero, List.set_cons_succ]
          refine wpAnyH_takeD (i := 16) (v := ?_) (some 125) rfl rfl (by kernel_rfl) (by kernel_rfl) (by kernel_rfl) (fun _ _ _ h => h) (Or.inl ⟨by rfl, ?_⟩) (by assumption) ?_
          rotate_left
          · intro w' hSw
            go_simp
            first | done | with_reducible rfl
          try simp only [Go.Act.put, List.setIfInBounds_toArray, List.set_cons_zero, List.set_cons_succ]
          refine wpAnyH_done (by kernel_rfl) ?_ _
          have HF9 := Lib.hid hHeld
          clear hHeld CW HT
          have HP9 := Lib.hid (HP7.out.fr0 HF9.out)
          clear HP7 HF9
          generalize w8.drew = w9 at *
          go_wp2
          go_roundw
          case rel => exact ⟨i + 1, nowx, mx, ncx, Dx, LVx, lx, by go_num, by omega, HP9⟩
          case measure => simp [intOf]; omega
        have e1 : (ak == 1) = false := by simpa using h1
        clear h1
        by_cases h2 : ak = 2
        · subst h2
          go_wp2_with fail
          clear hga hw5 d0 d1 d2 k0
          have HKD := Lib.hid (show Clk w5.drew gc now m nc D from H.out.clk.fr ((Fr.refl (fun _ => False) _).drew) (fun _ _ h => h))
          have HRD := Lib.hid (H.out.ref.fr0 (Fr.refl _ w5).drew)
          go_wp2_with fail
          refine wp_region_held_drew (S := fun w' => Fr (fun k => CS gc m k ∨ k = gr) w5 w') (by kernel_rfl) ((Fr.refl _ _).drew) (fun hHeld => ?_)
          refine wpAnyH_takeD (i := 0) (v := ?_) (some 49) rfl rfl (by kernel_rfl) (by kernel_rfl) (by kernel_rfl) (fun _ _ _ h => h) (Or.inl ⟨by rfl, ?_⟩) (by assumption) ?_
          rotate_left
          · intro w' hSw
            go_simp
            first | done | with_reducible rfl
          try simp only [Go.Act.put, List.setIfInBounds_toArray, List.set_cons_zero, List.set_cons_succ]
          refine wpAnyH_takeD (i := 1) (v := ?_) (some 50) rfl rfl (by kernel_rfl) (by kernel_rfl) (by kernel_rfl) (fun _ _ _ h => h) (Or.inl ⟨by rfl, ?_⟩) (by assumption) ?_
          rotate_left
          · intro w' hSw
            go_simp
            first | done | with_reducible rfl
          try simp only [Go.Act.put, List.setIfInBounds_toArray, List.set_cons_zero, List.set_cons_succ]
          refine wpAnyH_takeD (i := 2) (v := ?_) (some 51) rfl rfl (by kernel_rfl) (by kernel_rfl) (by kernel_rfl) (fun _ _ _ h => h) (Or.inl ⟨by rfl, ?_⟩) (by assumption) ?_
          rotate_left
          · intro w' hSw
            obtain ⟨q0, q1, q2⟩ := HA.out w' hSw
            go_simp
            first | done | with_reducible rfl
          try simp only [Go.Act.put, List.setIfInBounds_toArray, List.set_cons_zero, List.set_cons_succ]
          refine wpAnyH_takeD (i := 3) (v := ?_) (some 52) rfl rfl (by kernel_rfl) (by kernel_rfl) (by kernel_rfl) (fun _ _ _ h => h) (Or.inl ⟨by rfl, ?_⟩) (by assumption) ?_
          rotate_left
          · intro w' hSw
            go_simp
            first | done | with_reducible rfl
          try simp only [Go.Act.put, List.setIfInBounds_toArray, List.set_cons_zero, List.set_cons_succ]
          refine wpAnyH_takeD (i := 4) (v := ?_) (some 53) rfl rfl (by kernel_rfl) (by kernel_rfl) (by kernel_rfl) (fun _ _ _ h => h) (Or.inl ⟨by rfl, ?_⟩) (by assumption) ?_
          rotate_left
          · intro w' hSw
            obtain ⟨q0, q1, q2⟩ := HA.out w' hSw
            go_simp
            first | done | with_reducible rfl
          try simp only [Go.Act.put, List.setIfInBounds_toArray, List.set_cons_zero, List.set_cons_succ]
          refine wpAnyH_takeD (i := 6) (v := ?_) (some 55) rfl rfl (by kernel_rfl) (by kernel_rfl) (by kernel_rfl) (fun _ _ _ h => h) (Or.inl ⟨by rfl, ?_⟩) (by assumption) ?_
          rotate_left
          · intro w' hSw
            go_simp
            first | done | with_reducible rfl
          try simp only [Go.Act.put, List.setIfInBounds_toArray, List.set_cons_zero, List.set_cons_succ]
          refine wpAnyH_takeD (i := 7) (v := ?_) (some 56) rfl rfl (by kernel_rfl) (by kernel_rfl) (by kernel_rfl) (fun _ _ _ h => h) (Or.inl ⟨by rfl, ?_⟩) (by assumption) ?_
          rotate_left
          · intro w' hSw
            go_simp
            first | done | with_reducible rfl
          try simp only [Go.Act.put, List.setIfInBounds_toArray, List.set_cons_zero, List.set_cons_succ]
          refine wpAnyH_takeD (i := 8) (v := ?_) (some 57) rfl rfl (by kernel_rfl) (by kernel_rfl) (by kernel_rfl) (fun _ _ _ h => h) (Or.inl ⟨by rfl, ?_⟩) (by assumption) ?_
          rotate_left
          · intro w' hSw
            obtain ⟨q0, q1, q2⟩ := HA.out w' hSw
            go_simp
            first | done | with_reducible rfl
          try simp only [Go.Act.put, List.setIfInBounds_toArray, List.set_cons_zero, List.set_cons_succ]
          refine wpAnyH_takeD (i := 9) (v := ?_) (some 58) rfl rfl (by kernel_rfl) (by kernel_rfl) (by kernel_rfl) (fun _ _ _ h => h) (Or.inl ⟨by rfl, ?_⟩) (by assumption) ?_
          rotate_left
          · intro w' hSw
            go_simp
            first | done | with_reducible rfl
          try simp only [Go.Act.put, List.setIfInBounds_toArray, List.set_cons_zero, List.set_cons_succ]
          refine wpAnyH_takeD (i := 10) (v := ?_) (some 59) rfl rfl (by kernel_rfl) (by kernel_rfl) (by kernel_rfl) (fun _ _ _ h => h) (Or.inl ⟨by rfl, ?_⟩) (by assumption) ?_
          rotate_left
          · intro w' hSw
            obtain ⟨q0, q1, q2⟩ := HA.out w' hSw
            go_simp
            first | done | with_reducible rfl
          try simp only [Go.Act.put, List.setIfInBounds_toArray, List.set_cons_zero, List.set_cons_succ]
          refine wpAnyH_ready (rs := [5]) (by kernel_rfl) (by simp) ?_
          refine AllReadyH.cons rfl (fun K hK => ?_) AllReadyH.nil
          go_simp
          refine (set_any gc now aid an m nc D w5.drew HKD.out HI1.out HI2.out (by have := HNC.out; omega)).mono ?_; rintro e v1 ⟨rfl, m', hk1, hf1, hm1⟩
          have HK1 := Lib.hid hk1
          have HF1 := Lib.hid hf1
          have HM1 := Lib.hid hm1
          have HR1 := Lib.hid (H.out.ref.fr0 (Fr.refl _ _).drew |>.fr hf1 (apart HKD.out HRD.out))
          try go_simp
          refine hK.out _ _ (hHeld.trans (hf1.mono (fun _ _ e => Or.inl e)) (fun _ _ e => e)) (fun hHeld => ?_)
          clear hK K
          try change wpAnyH _ _ _ _ _ _ _ (Go.Act.put _ (some 54) _) _
          try simp only [Go.Act.put, List.setIfInBounds_toArray, List.set_cons_zero, List.set_cons_succ]
          clear hk1 hf1 hm1
          refine wpAnyH_ready (rs := [11]) (by kernel_rfl) (by simp) ?_
          refine AllReadyH.cons rfl (fun K hK => ?_) AllReadyH.nil
          go_simp
          refine (rset_any gr now aid an LV l v1 HR1.out HL.out H.out.cl.nd).mono ?_; rintro e v2 ⟨rfl, LV2, hr2, hf2, hl2⟩
          have HR2 := Lib.hid hr2
          have HF2 := Lib.hid hf2
          have HL2 := Lib.hid hl2
          try go_simp
          refine hK.out _ _ (hHeld.trans (hf2.mono (fun _ _ e => Or.inr e)) (fun _ _ e => e)) (fun hHeld => ?_)
          clear hK K
          try change wpAnyH _ _ _ _ _ _ _ (Go.Act.put _ (some 60) _) _
          try simp only [Go.Act.put, List.setIfInBounds_toArray, List.set_cons_zero, List.set_cons_succ]
          clear hr2 hf2 hl2
          refine wpAnyH_takeD (i := 12) (v := ?_) (some 61) rfl rfl (by kernel_rfl) (by kernel_rfl) (by kernel_rfl) (fun _ _ _ h => h) (Or.inl ⟨by rfl, ?_⟩) (by assumption) ?_
          rotate_left
          · intro w' hSw
            go_simp
            first | done | with_reducible rfl
          try simp only [Go.Act.put, List.setIfInBounds_toArray, List.set_cons_zero, List.set_cons_succ]
          refine wpAnyH_done (by kernel_rfl) ?_ _
          clear hHeld
          have hpr := H.out.both (w1 := v1) (w2 := v2) (Nat.le_of_eq HB.out.symm) HB.out HGC.out HGR.out HK1.out ((Fr.refl _ _).drew.trans HF1.out (fun _ _ e => e)) HM1.out HR2.out HF2.out HL2.out HR1.out (H.out.cl.set now aid an) (by have := H.out.nc; omega) (Nat.le_trans (setL_len _ _ _) (by have := H.out.ll; omega)) H.out.now0 (by have := H.out.now1; omega)
          obtain ⟨nowx, mx, ncx, Dx, LVx, lx, hpx⟩ : ∃ nowx mx ncx Dx LVx lx, Pr B gc gr (i + 1) w v2 nowx mx ncx Dx LVx lx := ⟨_, _, _, _, _, _, hpr⟩
          have HP := Lib.hid hpx
          clear hpx
          clear hpr HK1 HF1 HM1 HR1 HR2 HF2 HL2 HKD HRD HA
          clear H
          have CN := Lib.hid (cnext_any gc mx ncx nowx Dx v2 HP.out.clk)
          go_wp2_with fail
          refine CN.out.mono ?_; rintro e w7 ⟨t7, is7, rfl, hn7, hf7⟩
          obtain ⟨et, eis⟩ := HP.out.cl.next hn7
          have HP7 := Lib.hid (HP.out.fr0 hf7)
          have C7 := rnext_any gr nowx LVx lx w7 HP7.out.ref
          rw [← et, ← eis] at C7
          have HC7 := Lib.hid C7
          clear CN hn7 hf7 et eis C7 HP
          go_wp2_with fail
          refine HC7.out.mono ?_; rintro e w8 ⟨rfl, rfl⟩
          clear HC7
          have CW := Lib.hid (fun w' (hf : Fr (fun _ => False) w8 w') => now_any gc nowx mx ncx Dx w' ((HP7.out.fr0 hf).clk))
          have HT := Lib.hid (fun w' (hf : Fr (fun _ => False) w8 w') => show w'.cell? ⟨gr, 0, none⟩ = some (.int .i64 nowx) from (HP7.out.fr0 hf).ref.blk.cell 0)
          go_wp2_with fail
          refine wp_region_held_drew (S := fun w' => Fr (fun _ => False) w8 w') (by kernel_rfl) ((Fr.refl _ _).drew) (fun hHeld => ?_)
          refine wpAnyH_takeD (i := 0) (v := ?_) (some 109) rfl rfl (by kernel_rfl) (by kernel_rfl) (by kernel_rfl) (fun _ _ _ h => h) (Or.inl ⟨by rfl, ?_⟩) (by assumption) ?_
          rotate_left
          · intro w' hSw
            go_simp
            first | done | with_reducible rfl
          try simp only [Go.Act.put, List.setIfInBounds_toArray, List.set_cons_zero, List.set_cons_succ]
          refine wpAnyH_takeD (i := 1) (v := ?_) (some 110) rfl rfl (by kernel_rfl) (by kernel_rfl) (by kernel_rfl) (fun _ _ _ h => h) (Or.inl ⟨by rfl, ?_⟩) (by assumption) ?_
          rotate_left
          · intro w' hSw
            go_simp
            first | done | with_reducible rfl
          try simp only [Go.Act.put, List.setIfInBounds_toArray, List.set_cons_zero, List.set_cons_succ]
          refine wpAnyH_takeD (i := 2) (v := ?_) (some 111) rfl rfl (by kernel_rfl) (by kernel_rfl) (by kernel_rfl) (fun _ _ _ h => h) (Or.inl ⟨by rfl, ?_⟩) (by assumption) ?_
          rotate_left
          · intro w' hSw
            go_simp
            first | done | with_reducible rfl
          try simp only [Go.Act.put, List.setIfInBounds_toArray, List.set_cons_zero, List.set_cons_succ]
          refine wpAnyH_takeD (i := 3) (v := ?_) (some 112) rfl rfl (by kernel_rfl) (by kernel_rfl) (by kernel_rfl) (fun _ _ _ h => h) (Or.inl ⟨by rfl, ?_⟩) (by assumption) ?_
          rotate_left
          · intro w' hSw
            go_simp
            first | done | with_reducible rfl
          try simp only [Go.Act.put, List.setIfInBounds_toArray, List.set_cons_zero, List.set_cons_succ]
          refine wpAnyH_takeD (i := 4) (v := ?_) (some 113) rfl rfl (by kernel_rfl) (by kernel_rfl) (by kernel_rfl) (fun _ _ _ h => h) (Or.inl ⟨by rfl, ?_⟩) (by assumption) ?_
          rotate_left
          · intro w' hSw
            go_simp
            first | done | with_reducible rfl
          try simp only [Go.Act.put, List.setIfInBounds_toArray, List.set_cons_zero, List.set_cons_succ]
          refine wpAnyH_takeD (i := 5) (v := ?_) (some 114) rfl rfl (by kernel_rfl) (by kernel_rfl) (by kernel_rfl) (fun _ _ _ h => h) (Or.inl ⟨by rfl, ?_⟩) (by assumption) ?_
          rotate_left
          · intro w' hSw
            go_simp
            first | done | with_reducible rfl
          try simp only [Go.Act.put, List.setIfInBounds_toArray, List.set_cons_zero, List.set_cons_succ]
          refine wpAnyH_takeD (i := 6) (v := ?_) (some 115) rfl rfl (by kernel_rfl) (by kernel_rfl) (by kernel_rfl) (fun _ _ _ h => h) (Or.inl ⟨by rfl, ?_⟩) (by assumption) ?_
          rotate_left
          · intro w' hSw
            go_simp
            first | done | with_reducible rfl
          try simp only [Go.Act.put, List.setIfInBounds_toArray, List.set_cons_zero, List.set_cons_succ]
          refine wpAnyH_takeD (i := 7) (v := ?_) (some 116) rfl rfl (by kernel_rfl) (by kernel_rfl) (by kernel_rfl) (fun _ _ _ h => h) (Or.inl ⟨by rfl, ?_⟩) (by assumption) ?_
          rotate_left
          · intro w' hSw
            go_simp
            first | done | with_reducible rfl
          try simp only [Go.Act.put, List.setIfInBounds_toArray, List.set_cons_zero, List.set_cons_succ]
          refine wpAnyH_takeD (i := 8) (v := ?_) (some 117) rfl rfl (by kernel_rfl) (by kernel_rfl) (by kernel_rfl) (fun _ _ _ h => h) (Or.inl ⟨by rfl, ?_⟩) (by assumption) ?_
          rotate_left
          · intro w' hSw
            go_simp
            first | done | with_reducible rfl
          try simp only [Go.Act.put, List.setIfInBounds_toArray, List.set_cons_zero, List.set_cons_succ]
          refine wpAnyH_takeD (i := 9) (v := ?_) (some 118) rfl rfl (by kernel_rfl) (by kernel_rfl) (by kernel_rfl) (fun _ _ _ h => h) (Or.inl ⟨by rfl, ?_⟩) (by assumption) ?_
          rotate_left
          · intro w' hSw
            go_simp
            first | done | with_reducible rfl
          try simp only [Go.Act.put, List.setIfInBounds_toArray, List.set_cons_zero, List.set_cons_succ]
          refine wpAnyH_takeD (i := 11) (v := ?_) (some 120) rfl rfl (by kernel_rfl) (by kernel_rfl) (by kernel_rfl) (fun _ _ _ h => h) (Or.inl ⟨by rfl, ?_⟩) (by assumption) ?_
          rotate_left
          · intro w' hSw
            go_simp
            first | done | with_reducible rfl
          try simp only [Go.Act.put, List.setIfInBounds_toArray, List.set_cons_zero, List.set_cons_succ]
          refine wpAnyH_takeD (i := 12) (v := ?_) (some 121) rfl rfl (by kernel_rfl) (by kernel_rfl) (by kernel_rfl) (fun _ _ _ h => h) (Or.inl ⟨by rfl, ?_⟩) (by assumption) ?_
          rotate_left
          · intro w' hSw
            go_simp
            first | done | with_reducible rfl
          try simp only [Go.Act.put, List.setIfInBounds_toArray, List.set_cons_zero, List.set_cons_succ]
          refine wpAnyH_takeD (i := 13) (v := ?_) (some 122) rfl rfl (by kernel_rfl) (by kernel_rfl) (by kernel_rfl) (fun _ _ _ h => h) (Or.inl ⟨by rfl, ?_⟩) (by assumption) ?_
          rotate_left
          · intro w' hSw
            go_simp
            first | done | with_reducible rfl
          try simp only [Go.Act.put, List.setIfInBounds_toArray, List.set_cons_zero, List.set_cons_succ]
          refine wpAnyH_takeD (i := 14) (v := ?_) (some 123) rfl rfl (by kernel_rfl) (by kernel_rfl) (by kernel_rfl) (fun _ _ _ h => h) (Or.inl ⟨by rfl, ?_⟩) (by assumption) ?_
          rotate_left
          · intro w' hSw
            have q0 := HT.out w' hSw
            go_simp
            first | done | with_reducible rfl
          try simp only [Go.Act.put, List.setIfInBounds_toArray, List.set_cons_zero, List.set_cons_succ]
          refine wpAnyH_ready (rs := [10]) (by kernel_rfl) (by simp) ?_
          refine AllReadyH.cons rfl (fun K hK => ?_) AllReadyH.nil
          go_simp
          refine (CW.out _ hHeld).mono ?_; rintro e w9 ⟨rfl, rfl⟩
          try go_simp
          refine hK.out _ _ (hHeld) (fun hHeld => ?_)
          clear hK K
          try change wpAnyH _ _ _ _ _ _ _ (Go.Act.put _ (some 119) _) _
          try simp only [Go.Act.put, List.setIfInBounds_toArray, List.set_cons_zero, List.set_cons_succ]
          refine wpAnyH_takeD (i := 15) (v := ?_) (some 124) rfl rfl (by kernel_rfl) (by kernel_rfl) (by kernel_rfl) (fun _ _ _ h => h) (Or.inl ⟨by rfl, ?_⟩) (by assumption) ?_
          rotate_left
          · intro w' hSw
            go_simp
            first | done | with_reducible rfl
          try simp only [Go.Act.put, List.setIfInBounds_toArray, List.set_cons_zero, List.set_cons_succ]
          refine wpAnyH_takeD (i := 16) (v := ?_) (some 125) rfl rfl (by kernel_rfl) (by kernel_rfl) (by kernel_rfl) (fun _ _ _ h => h) (Or.inl ⟨by rfl, ?_⟩) (by assumption) ?_
          rotate_left
          · intro w' hSw
            go_simp
            first | done | with_reducible rfl
          try simp only [Go.Act.put, List.setIfInBounds_toArray, List.set_cons_zero, List.set_cons_succ]
          refine wpAnyH_done (by kernel_rfl) ?_ _
          have HF9 := Lib.hid hHeld
          clear hHeld CW HT
          have HP9 := Lib.hid (HP7.out.fr0 HF9.out)
          clear HP7 HF9
          generalize w8.drew = w9 at *
          go_wp2
          go_roundw
          case rel => exact ⟨i + 1, nowx, mx, ncx, Dx, LVx, lx, by go_num, by omega, HP9⟩
          case measure => simp [intOf]; omega
        have e2 : (ak == 2) = false := by simpa using h2
        clear h2
        by_cases h3 : ak = 3
        · subst h3
          go_wp2_with fail
          clear hga hw5 d0 d1 d2 k0
          have HKD := Lib.hid (show Clk w5.drew gc now m nc D from H.out.clk.fr ((Fr.refl (fun _ => False) _).drew) (fun _ _ h => h))
          have HRD := Lib.hid (H.out.ref.fr0 (Fr.refl _ w5).drew)
          have CDr := rdrop_any gr now aid LV l
          rw [H.out.cl.any aid] at CDr
          have HCDr := Lib.hid CDr
          clear CDr
          go_wp2_with fail
          refine wp_region_held_drew (S := fun w' => Fr (fun k => CS gc m k ∨ k = gr) w5 w') (by kernel_rfl) ((Fr.refl _ _).drew) (fun hHeld => ?_)
          refine wpAnyH_takeD (i := 0) (v := ?_) (some 64) rfl rfl (by kernel_rfl) (by kernel_rfl) (by kernel_rfl) (fun _ _ _ h => h) (Or.inl ⟨by rfl, ?_⟩) (by assumption) ?_
          rotate_left
          · intro w' hSw
            go_simp
            first | done | with_reducible rfl
          try simp only [Go.Act.put, List.setIfInBounds_toArray, List.set_cons_zero, List.set_cons_succ]
          refine wpAnyH_takeD (i := 1) (v := ?_) (some 65) rfl rfl (by kernel_rfl) (by kernel_rfl) (by kernel_rfl) (fun _ _ _ h => h) (Or.inl ⟨by rfl, ?_⟩) (by assumption) ?_
          rotate_left
          · intro w' hSw
            go_simp
            first | done | with_reducible rfl
          try simp only [Go.Act.put, List.setIfInBounds_toArray, List.set_cons_zero, List.set_cons_succ]
          refine wpAnyH_takeD (i := 2) (v := ?_) (some 66) rfl rfl (by kernel_rfl) (by kernel_rfl) (by kernel_rfl) (fun _ _ _ h => h) (Or.inl ⟨by rfl, ?_⟩) (by assumption) ?_
          rotate_left
          · intro w' hSw
            obtain ⟨q0, q1, q2⟩ := HA.out w' hSw
            go_simp
            first | done | with_reducible rfl
          try simp only [Go.Act.put, List.setIfInBounds_toArray, List.set_cons_zero, List.set_cons_succ]
          refine wpAnyH_takeD (i := 4) (v := ?_) (some 68) rfl rfl (by kernel_rfl) (by kernel_rfl) (by kernel_rfl) (fun _ _ _ h => h) (Or.inl ⟨by rfl, ?_⟩) (by assumption) ?_
          rotate_left
          · intro w' hSw
            go_simp
            first | done | with_reducible rfl
          try simp only [Go.Act.put, List.setIfInBounds_toArray, List.set_cons_zero, List.set_cons_succ]
          refine wpAnyH_takeD (i := 5) (v := ?_) (some 69) rfl rfl (by kernel_rfl) (by kernel_rfl) (by kernel_rfl) (fun _ _ _ h => h) (Or.inl ⟨by rfl, ?_⟩) (by assumption) ?_
          rotate_left
          · intro w' hSw
            go_simp
            first | done | with_reducible rfl
          try simp only [Go.Act.put, List.setIfInBounds_toArray, List.set_cons_zero, List.set_cons_succ]
          refine wpAnyH_takeD (i := 6) (v := ?_) (some 70) rfl rfl (by kernel_rfl) (by kernel_rfl) (by kernel_rfl) (fun _ _ _ h => h) (Or.inl ⟨by rfl, ?_⟩) (by assumption) ?_
          rotate_left
          · intro w' hSw
            obtain ⟨q0, q1, q2⟩ := HA.out w' hSw
            go_simp
            first | done | with_reducible rfl
          try simp only [Go.Act.put, List.setIfInBounds_toArray, List.set_cons_zero, List.set_cons_succ]
          refine wpAnyH_ready (rs := [3]) (by kernel_rfl) (by simp) ?_
          refine AllReadyH.cons rfl (fun K hK => ?_) AllReadyH.nil
          go_simp
          refine (drop_any gc now aid m nc D w5.drew HKD.out HI1.out).mono ?_; rintro e v1 ⟨rfl, hk1, hf1'⟩; have hf1 : Fr (CS gc m) w5.drew v1 := hf1'.mono (fun _ _ e => .inr e)
          have HK1 := Lib.hid hk1
          have HF1 := Lib.hid hf1
          have HM1 := Lib.hid (show m = m ∨ _ from .inl rfl : m = m ∨ ∃ b, m = some b ∧ w5.heap.size ≤ b)
          have HR1 := Lib.hid (H.out.ref.fr0 (Fr.refl _ _).drew |>.fr hf1 (apart HKD.out HRD.out))
          try go_simp
          refine hK.out _ _ (hHeld.trans (hf1.mono (fun _ _ e => Or.inl e)) (fun _ _ e => e)) (fun hHeld => ?_)
          clear hK K
          try change wpAnyH _ _ _ _ _ _ _ (Go.Act.put _ (some 67) _) _
          try simp only [Go.Act.put, List.setIfInBounds_toArray, List.set_cons_zero, List.set_cons_succ]
          clear hk1 hf1 hf1'
          refine wpAnyH_ready (rs := [7]) (by kernel_rfl) (by simp) ?_
          refine AllReadyH.cons rfl (fun K hK => ?_) AllReadyH.nil
          go_simp
          refine (HCDr.out v1 HR1.out HL.out H.out.cl.nd).mono ?_; rintro e v2 ⟨rfl, LV2, hr2, hf2, hl2⟩
          have HR2 := Lib.hid hr2
          have HF2 := Lib.hid hf2
          have HL2 := Lib.hid hl2
          try go_simp
          refine hK.out _ _ (hHeld.trans (hf2.mono (fun _ _ e => Or.inr e)) (fun _ _ e => e)) (fun hHeld => ?_)
          clear hK K
          try change wpAnyH _ _ _ _ _ _ _ (Go.Act.put _ (some 71) _) _
          try simp only [Go.Act.put, List.setIfInBounds_toArray, List.set_cons_zero, List.set_cons_succ]
          clear hr2 hf2 hl2
          refine wpAnyH_takeD (i := 8) (v := ?_) (some 72) rfl rfl (by kernel_rfl) (by kernel_rfl) (by kernel_rfl) (fun _ _ _ h => h) (Or.inl ⟨by rfl, ?_⟩) (by assumption) ?_
          rotate_left
          · intro w' hSw
            go_simp
            first | done | with_reducible rfl
          try simp only [Go.Act.put, List.setIfInBounds_toArray, List.set_cons_zero, List.set_cons_succ]
          refine wpAnyH_done (by kernel_rfl) ?_ _
          clear hHeld
          have hpr := H.out.both (w1 := v1) (w2 := v2) (Nat.le_of_eq HB.out.symm) HB.out HGC.out HGR.out HK1.out ((Fr.refl _ _).drew.trans HF1.out (fun _ _ e => e)) HM1.out HR2.out HF2.out HL2.out HR1.out (H.out.cl.drop aid) (by have := H.out.nc; omega) (Nat.le_trans (List.length_filter_le _ _) (by have := H.out.ll; omega)) H.out.now0 (by have := H.out.now1; omega)
          obtain ⟨nowx, mx, ncx, Dx, LVx, lx, hpx⟩ : ∃ nowx mx ncx Dx LVx lx, Pr B gc gr (i + 1) w v2 nowx mx ncx Dx LVx lx := ⟨_, _, _, _, _, _, hpr⟩
          have HP := Lib.hid hpx
          clear hpx
          clear hpr HK1 HF1 HM1 HR1 HR2 HF2 HL2 HKD HRD HA
          clear H
          have CN := Lib.hid (cnext_any gc mx ncx nowx Dx v2 HP.out.clk)
          go_wp2_with fail
          refine CN.out.mono ?_; rintro e w7 ⟨t7, is7, rfl, hn7, hf7⟩
          obtain ⟨et, eis⟩ := HP.out.cl.next hn7
          have HP7 := Lib.hid (HP.out.fr0 hf7)
          have C7 := rnext_any gr nowx LVx lx w7 HP7.out.ref
          rw [← et, ← eis] at C7
          have HC7 := Lib.hid C7
          clear CN hn7 hf7 et eis C7 HP
          go_wp2_with fail
          refine HC7.out.mono ?_; rintro e w8 ⟨rfl, rfl⟩
          clear HC7
          have CW := Lib.hid (fun w' (hf : Fr (fun _ => False) w8 w') => now_any gc nowx mx ncx Dx w' ((HP7.out.fr0 hf).clk))
          have HT := Lib.hid (fun w' (hf : Fr (fun _ => False) w8 w') => show w'.cell? ⟨gr, 0, none⟩ = some (.int .i64 nowx) from (HP7.out.fr0 hf).ref.blk.cell 0)
          go_wp2_with fail
          refine wp_region_held_drew (S := fun w' => Fr (fun _ => False) w8 w') (by kernel_rfl) ((Fr.refl _ _).drew) (fun hHeld => ?_)
          refine wpAnyH_takeD (i := 0) (v := ?_) (some 109) rfl rfl (by kernel_rfl) (by kernel_rfl) (by kernel_rfl) (fun _ _ _ h => h) (Or.inl ⟨by rfl, ?_⟩) (by assumption) ?_
          rotate_left
          · intro w' hSw
            go_simp
            first | done | with_reducible rfl
          try simp only [Go.Act.put, List.setIfInBounds_toArray, List.set_cons_zero, List.set_cons_succ]
          refine wpAnyH_takeD (i := 1) (v := ?_) (some 110) rfl rfl (by kernel_rfl) (by kernel_rfl) (by kernel_rfl) (fun _ _ _ h => h) (Or.inl ⟨by rfl, ?_⟩) (by assumption) ?_
          rotate_left
          · intro w' hSw
            go_simp
            first | done | with_reducible rfl
          try simp only [Go.Act.put, List.setIfInBounds_toArray, List.set_cons_zero, List.set_cons_succ]
          refine wpAnyH_takeD (i := 2) (v := ?_) (some 111) rfl rfl (by kernel_rfl) (by kernel_rfl) (by kernel_rfl) (fun _ _ _ h => h) (Or.inl ⟨by rfl, ?_⟩) (by assumption) ?_
          rotate_left
          · intro w' hSw
            go_simp
            first | done | with_reducible rfl
          try simp only [Go.Act.put, List.setIfInBounds_toArray, List.set_cons_zero, List.set_cons_succ]
          refine wpAnyH_takeD (i := 3) (v := ?_) (some 112) rfl rfl (by kernel_rfl) (by kernel_rfl) (by kernel_rfl) (fun _ _ _ h => h) (Or.inl ⟨by rfl, ?_⟩) (by assumption) ?_
          rotate_left
          · intro w' hSw
            go_simp
            first | done | with_reducible rfl
          try simp only [Go.Act.put, List.setIfInBounds_toArray, List.set_cons_zero, List.set_cons_succ]
          refine wpAnyH_takeD (i := 4) (v := ?_) (some 113) rfl rfl (by kernel_rfl) (by kernel_rfl) (by kernel_rfl) (fun _ _ _ h => h) (Or.inl ⟨by rfl, ?_⟩) (by assumption) ?_
          rotate_left
          · intro w' hSw
            go_simp
            first | done | with_reducible rfl
          try simp only [Go.Act.put, List.setIfInBounds_toArray, List.set_cons_zero, List.set_cons_succ]
          refine wpAnyH_takeD (i := 5) (v := ?_) (some 114) rfl rfl (by kernel_rfl) (by kernel_rfl) (by kernel_rfl) (fun _ _ _ h => h) (Or.inl ⟨by rfl, ?_⟩) (by assumption) ?_
          rotate_left
          · intro w' hSw
            go_simp
            first | done | with_reducible rfl
          try simp only [Go.Act.put, List.setIfInBounds_toArray, List.set_cons_zero, List.set_cons_succ]
          refine wpAnyH_takeD (i := 6) (v := ?_) (some 115) rfl rfl (by kernel_rfl) (by kernel_rfl) (by kernel_rfl) (fun _ _ _ h => h) (Or.inl ⟨by rfl, ?_⟩) (by assumption) ?_
          rotate_left
          · intro w' hSw
            go_simp
            first | done | with_reducible rfl
          try simp only [Go.Act.put, List.setIfInBounds_toArray, List.set_cons_zero, List.set_cons_succ]
          refine wpAnyH_takeD (i := 7) (v := ?_) (some 116) rfl rfl (by kernel_rfl) (by kernel_rfl) (by kernel_rfl) (fun _ _ _ h => h) (Or.inl ⟨by rfl, ?_⟩) (by assumption) ?_
          rotate_left
          · intro w' hSw
            go_simp
            first | done | with_reducible rfl
          try simp only [Go.Act.put, List.setIfInBounds_toArray, List.set_cons_zero, List.set_cons_succ]
          refine wpAnyH_takeD (i := 8) (v := ?_) (some 117) rfl rfl (by kernel_rfl) (by kernel_rfl) (by kernel_rfl) (fun _ _ _ h => h) (Or.inl ⟨by rfl, ?_⟩) (by assumption) ?_
          rotate_left
          · intro w' hSw
            go_simp
            first | done | with_reducible rfl
          try simp only [Go.Act.put, List.setIfInBounds_toArray, List.set_cons_zero, List.set_cons_succ]
          refine wpAnyH_takeD (i := 9) (v := ?_) (some 118) rfl rfl (by kernel_rfl) (by kernel_rfl) (by kernel_rfl) (fun _ _ _ h => h) (Or.inl ⟨by rfl, ?_⟩) (by assumption) ?_
          rotate_left
          · intro w' hSw
            go_simp
            first | done | with_reducible rfl
          try simp only [Go.Act.put, List.setIfInBounds_toArray, List.set_cons_zero, List.set_cons_succ]
          refine wpAnyH_takeD (i := 11) (v := ?_) (some 120) rfl rfl (by kernel_rfl) (by kernel_rfl) (by kernel_rfl) (fun _ _ _ h => h) (Or.inl ⟨by rfl, ?_⟩) (by assumption) ?_
          rotate_left
          · intro w' hSw
            go_simp
            first | done | with_reducible rfl
          try simp only [Go.Act.put, List.setIfInBounds_toArray, List.set_cons_zero, List.set_cons_succ]
          refine wpAnyH_takeD (i := 12) (v := ?_) (some 121) rfl rfl (by kernel_rfl) (by kernel_rfl) (by kernel_rfl) (fun _ _ _ h => h) (Or.inl ⟨by rfl, ?_⟩) (by assumption) ?_
          rotate_left
          · intro w' hSw
            go_simp
            first | done | with_reducible rfl
          try simp only [Go.Act.put, List.setIfInBounds_toArray, List.set_cons_zero, List.set_cons_succ]
          refine wpAnyH_takeD (i := 13) (v := ?_) (some 122) rfl rfl (by kernel_rfl) (by kernel_rfl) (by kernel_rfl) (fun _ _ _ h => h) (Or.inl ⟨by rfl, ?_⟩) (by assumption) ?_
          rotate_left
          · intro w' hSw
            go_simp
            first | done | with_reducible rfl
          try simp only [Go.Act.put, List.setIfInBounds_toArray, List.set_cons_zero, List.set_cons_succ]
          refine wpAnyH_takeD (i := 14) (v := ?_) (some 123) rfl rfl (by kernel_rfl) (by kernel_rfl) (by kernel_rfl) (fun _ _ _ h => h) (Or.inl ⟨by rfl, ?_⟩) (by assumption) ?_
          rotate_left
          · intro w' hSw
            have q0 := HT.out w' hSw
            go_simp
            first | done | with_reducible rfl
          try simp only [Go.Act.put, List.setIfInBounds_toArray, List.set_cons_zero, List.set_cons_succ]
          refine wpAnyH_ready (rs := [10]) (by kernel_rfl) (by simp) ?_
          refine AllReadyH.cons rfl (fun K hK => ?_) AllReadyH.nil
          go_simp
          refine (CW.out _ hHeld).mono ?_; rintro e w9 ⟨rfl, rfl⟩
          try go_simp
          refine hK.out _ _ (hHeld) (fun hHeld => ?_)
          clear hK K
          try change wpAnyH _ _ _ _ _ _ _ (Go.Act.put _ (some 119) _) _
          try simp only [Go.Act.put, List.setIfInBounds_toArray, List.set_cons_zero, List.set_cons_succ]
          refine wpAnyH_takeD (i := 15) (v := ?_) (some 124) rfl rfl (by kernel_rfl) (by kernel_rfl) (by kernel_rfl) (fun _ _ _ h => h) (Or.inl ⟨by rfl, ?_⟩) (by assumption) ?_
          rotate_left
          · intro w' hSw
            go_simp
            first | done | with_reducible rfl
          try simp only [Go.Act.put, List.setIfInBounds_toArray, List.set_cons_zero, List.set_cons_succ]
          refine wpAnyH_takeD (i := 16) (v := ?_) (some 125) rfl rfl (by kernel_rfl) (by kernel_rfl) (by kernel_rfl) (fun _ _ _ h => h) (Or.inl ⟨by rfl, ?_⟩) (by assumption) ?_
          rotate_left
          · intro w' hSw
            go_simp
            first | done | with_reducible rfl
          try simp only [Go.Act.put, List.setIfInBounds_toArray, List.set_cons_zero, List.set_cons_succ]
          refine wpAnyH_done (by kernel_rfl) ?_ _
          have HF9 := Lib.hid hHeld
          clear hHeld CW HT
          have HP9 := Lib.hid (HP7.out.fr0 HF9.out)
          clear HP7 HF9
          generalize w8.drew = w9 at *
          go_wp2
          go_roundw
          case rel => exact ⟨i + 1, nowx, mx, ncx, Dx, LVx, lx, by go_num, by omega, HP9⟩
          case measure => simp [intOf]; omega
        have e3 : (ak == 3) = false := by simpa using h3
        clear h3
        by_cases h4 : ak = 4
        · subst h4
          go_wp2_with fail
          clear hga hw5 d0 d1 d2 k0 HA
          refine (due_any gc m nc now D w5 H.out.clk (by have := HNC.out; omega)).mono ?_
          rintro e v1 ⟨x, ys, rfl, hdue, hsl, hfrx, hk1, hf1', hyl⟩
          have hf1 : Fr (CS gc m) w5 v1 := hf1'.mono (fun _ _ e => .inr e)
          have hr1 := H.out.ref.fr hf1 (apart H.out.clk H.out.ref)
          have HK1 := Lib.hid hk1
          have HF1 := Lib.hid hf1
          have HR1 := Lib.hid hr1
          have HDUE := Lib.hid hdue
          have HSL := Lib.hid hsl
          have HFX := Lib.hid hfrx
          clear hdue hsl hfrx hk1 hf1' hf1 hr1
          go_wp2_with fail
          refine (rdue_any gr now LV l v1 HR1.out HL.out).mono ?_
          rintro e v2 ⟨y, q, LV2, rfl, hown, hfry, hq1, hq2, hq3, hr2, hf2, hl2⟩
          obtain ⟨hys, hcl⟩ := H.out.cl.due HDUE.out hq1 hq2 hq3
          rw [← hys] at hown
          have hsl2 : SlI v2 x ys := HSL.out.fr hf2 (fun k hk e => by have h1 := HFX.out k hk; have h2 := H.out.ref.blk.lt; omega)
          obtain ⟨AX, cx, rfl, hrx⟩ := hsl2.rd
          obtain ⟨AY, cy, rfl, hry⟩ := hown.rd
          have HPR := Lib.hid (H.out.both (w1 := v1) (w2 := v2) (Nat.le_of_eq HB.out.symm) HB.out HGC.out HGR.out HK1.out HF1.out (.inl rfl) hr2 hf2 hl2 HR1.out hcl (by have := H.out.nc; omega) (by have := H.out.ll; simp; omega) H.out.now0 (by have := H.out.now1; omega))
          have HRX := Lib.hid hrx
          have HRY := Lib.hid hry
          obtain ⟨L, hL⟩ : ∃ L, ys.length = L := ⟨_, rfl⟩
          have HLL := Lib.hid hL
          rw [hL] at hyl ⊢
          have hL9 : (L : Int) ≤ 1048576 := hyl
          clear hown hfry hq1 hq2 hq3 hr2 hf2 hl2 hys hcl hsl2 hrx hry hL HK1 HF1 HR1 HSL HFX
          go_wp2
          generalize v2 = vb at *
          go_loopw [9] (fun u wr => ∃ k : Nat, u = .int .i64 k ∧ k ≤ L ∧ Hid (Fr (fun _ => False) vb wr)) (fun u _ => L - (intOf u).toNat)
          case atStart => exact ⟨0, rfl, Nat.zero_le _, Lib.hid (Fr.refl _ _)⟩
          case round =>
            obtain ⟨k, rfl, hk, HFB⟩ := hrel
            by_cases hkl : k < L
            · have hklz : (k : Int) < (L : Int) := by omega
              have hky : k < ys.length := by rw [HLL.out]; exact hkl
              obtain ⟨dx, rfl, hcx⟩ := HRX.out (by omega)
              obtain ⟨dy, rfl, hcy⟩ := HRY.out (by omega)
              obtain ⟨z, hz⟩ : ∃ z, ys[k] = z := ⟨_, rfl⟩
              have HC := Lib.hid (fun w' (hf : Fr (fun _ => False) wr w') => show w'.cell? ⟨dx, k, none⟩ = some (.int .i64 z) ∧ w'.cell? ⟨dy, k, none⟩ = some (.int .i64 z) from by
                have f9 := HFB.out.trans hf (fun _ _ h => h)
                have a1 := hcx k hky
                have a2 := hcy k hky
                rw [hz] at a1 a2
                exact ⟨(f9.cell (p := ⟨dx, k, none⟩) (World.block_lt_of_cell? vb _ a1) (fun h => h)).trans a1, (f9.cell (p := ⟨dy, k, none⟩) (World.block_lt_of_cell? vb _ a2) (fun h => h)).trans a2⟩)
              clear hcx hcy hz
              go_wp2_with fail
              refine wp_region_held_drew (S := fun w' => Fr (fun _ => False) wr w') (by kernel_rfl) ((Fr.refl _ _).drew) (fun hHeld => ?_)
              refine wpAnyH_takeD (i := 0) (v := ?_) (some 90) rfl rfl (by kernel_rfl) (by kernel_rfl) (by kernel_rfl) (fun _ _ _ h => h) (Or.inl ⟨by rfl, ?_⟩) (by assumption) ?_
              rotate_left
              · intro w' hSw
                go_simp
                first | done | with_reducible rfl
              try simp only [Go.Act.put, List.setIfInBounds_toArray, List.set_cons_zero, List.set_cons_succ]
              refine wpAnyH_takeD (i := 1) (v := ?_) (some 91) rfl rfl (by kernel_rfl) (by kernel_rfl) (by kernel_rfl) (fun _ _ _ h => h) (Or.inl ⟨by rfl, ?_⟩) (by assumption) ?_
              rotate_left
              · intro w' hSw
                go_simp
                first | done | with_reducible rfl
              try simp only [Go.Act.put, List.setIfInBounds_toArray, List.set_cons_zero, List.set_cons_succ]
              refine wpAnyH_takeD (i := 2) (v := ?_) (some 92) rfl rfl (by kernel_rfl) (by kernel_rfl) (by kernel_rfl) (fun _ _ _ h => h) (Or.inl ⟨by rfl, ?_⟩) (by assumption) ?_
              rotate_left
              · intro w' hSw
                go_simp
                first | done | with_reducible rfl
              try simp only [Go.Act.put, List.setIfInBounds_toArray, List.set_cons_zero, List.set_cons_succ]
              refine wpAnyH_takeD (i := 3) (v := ?_) (some 93) rfl rfl (by kernel_rfl) (by kernel_rfl) (by kernel_rfl) (fun _ _ _ h => h) (Or.inl ⟨by rfl, ?_⟩) (by assumption) ?_
              rotate_left
              · intro w' hSw
                obtain ⟨q0, q1⟩ := HC.out w' hSw
                go_simp
                first | done | with_reducible rfl
              try simp only [Go.Act.put, List.setIfInBounds_toArray, List.set_cons_zero, List.set_cons_succ]
              refine wpAnyH_takeD (i := 4) (v := ?_) (some 94) rfl rfl (by kernel_rfl) (by kernel_rfl) (by kernel_rfl) (fun _ _ _ h => h) (Or.inl ⟨by rfl, ?_⟩) (by assumption) ?_
              rotate_left
              · intro w' hSw
                go_simp
                first | done | with_reducible rfl
              try simp only [Go.Act.put, List.setIfInBounds_toArray, List.set_cons_zero, List.set_cons_succ]
              refine wpAnyH_takeD (i := 5) (v := ?_) (some 95) rfl rfl (by kernel_rfl) (by kernel_rfl) (by kernel_rfl) (fun _ _ _ h => h) (Or.inl ⟨by rfl, ?_⟩) (by assumption) ?_
              rotate_left
              · intro w' hSw
                go_simp
                first | done | with_reducible rfl
              try simp only [Go.Act.put, List.setIfInBounds_toArray, List.set_cons_zero, List.set_cons_succ]
              refine wpAnyH_takeD (i := 6) (v := ?_) (some 96) rfl rfl (by kernel_rfl) (by kernel_rfl) (by kernel_rfl) (fun _ _ _ h => h) (Or.inl ⟨by rfl, ?_⟩) (by assumption) ?_
              rotate_left
              · intro w' hSw
                go_simp
                first | done | with_reducible rfl
              try simp only [Go.Act.put, List.setIfInBounds_toArray, List.set_cons_zero, List.set_cons_succ]
              refine wpAnyH_takeD (i := 7) (v := ?_) (some 97) rfl rfl (by kernel_rfl) (by kernel_rfl) (by kernel_rfl) (fun _ _ _ h => h) (Or.inl ⟨by rfl, ?_⟩) (by assumption) ?_
              rotate_left
              · intro w' hSw
                obtain ⟨q0, q1⟩ := HC.out w' hSw
                go_simp
                first | done | with_reducible rfl
              try simp only [Go.Act.put, List.setIfInBounds_toArray, List.set_cons_zero, List.set_cons_succ]
              refine wpAnyH_takeD (i := 8) (v := ?_) (some 98) rfl rfl (by kernel_rfl) (by kernel_rfl) (by kernel_rfl) (fun _ _ _ h => h) (Or.inl ⟨by rfl, ?_⟩) (by assumption) ?_
              rotate_left
              · intro w' hSw
                go_simp
                first | done | with_reducible rfl
              try simp only [Go.Act.put, List.setIfInBounds_toArray, List.set_cons_zero, List.set_cons_succ]
              refine wpAnyH_done (by kernel_rfl) ?_ _
              have HF9 := Lib.hid (HFB.out.trans hHeld (fun _ _ h => h))
              clear hHeld HC HFB
              generalize wr.drew = w9 at *
              go_wp2
              go_roundw
              case rel => exact ⟨k + 1, by go_num, by omega, HF9⟩
              case measure => simp [intOf]; omega
            · have hklz : ¬ (k : Int) < (L : Int) := by omega
              obtain ⟨nowx, mx, ncx, Dx, LVx, lx, hpx⟩ : ∃ nowx mx ncx Dx LVx lx, Pr B gc gr (i + 1) w wr nowx mx ncx Dx LVx lx := ⟨_, _, _, _, _, _, HPR.out.fr0 HFB.out⟩
              have HP := Lib.hid hpx
              clear hpx HPR HRX HRY HFB HDUE
              generalize wr = v2 at *
              clear H
              have CN := Lib.hid (cnext_any gc mx ncx nowx Dx v2 HP.out.clk)
              go_wp2_with fail
              refine CN.out.mono ?_; rintro e w7 ⟨t7, is7, rfl, hn7, hf7⟩
              obtain ⟨et, eis⟩ := HP.out.cl.next hn7
              have HP7 := Lib.hid (HP.out.fr0 hf7)
              have C7 := rnext_any gr nowx LVx lx w7 HP7.out.ref
              rw [← et, ← eis] at C7
              have HC7 := Lib.hid C7
              clear CN hn7 hf7 et eis C7 HP
              go_wp2_with fail
              refine HC7.out.mono ?_; rintro e w8 ⟨rfl, rfl⟩
              clear HC7
              have CW := Lib.hid (fun w' (hf : Fr (fun _ => False) w8 w') => now_any gc nowx mx ncx Dx w' ((HP7.out.fr0 hf).clk))
              have HT := Lib.hid (fun w' (hf : Fr (fun _ => False) w8 w') => show w'.cell? ⟨gr, 0, none⟩ = some (.int .i64 nowx) from (HP7.out.fr0 hf).ref.blk.cell 0)
              go_wp2_with fail
              refine wp_region_held_drew (S := fun w' => Fr (fun _ => False) w8 w') (by kernel_rfl) ((Fr.refl _ _).drew) (fun hHeld => ?_)
              refine wpAnyH_takeD (i := 0) (v := ?_) (some 109) rfl rfl (by kernel_rfl) (by kernel_rfl) (by kernel_rfl) (fun _ _ _ h => h) (Or.inl ⟨by rfl, ?_⟩) (by assumption) ?_
              rotate_left
              · intro w' hSw
                go_simp
                first | done | with_reducible rfl
              try simp only [Go.Act.put, List.setIfInBounds_toArray, List.set_cons_zero, List.set_cons_succ]
              refine wpAnyH_takeD (i := 1) (v := ?_) (some 110) rfl rfl (by kernel_rfl) (by kernel_rfl) (by kernel_rfl) (fun _ _ _ h => h) (Or.inl ⟨by rfl, ?_⟩) (by assumption) ?_
              rotate_left
              · intro w' hSw
                go_simp
                first | done | with_reducible rfl
              try simp only [Go.Act.put, List.setIfInBounds_toArray, List.set_cons_zero, List.set_cons_succ]
              refine wpAnyH_takeD (i := 2) (v := ?_) (some 111) rfl rfl (by kernel_rfl) (by kernel_rfl) (by kernel_rfl) (fun _ _ _ h => h) (Or.inl ⟨by rfl, ?_⟩) (by assumption) ?_
              rotate_left
              · intro w' hSw
                go_simp
                first | done | with_reducible rfl
              try simp only [Go.Act.put, List.setIfInBounds_toArray, List.set_cons_zero, List.set_cons_succ]
              refine wpAnyH_takeD (i := 3) (v := ?_) (some 112) rfl rfl (by kernel_rfl) (by kernel_rfl) (by kernel_rfl) (fun _ _ _ h => h) (Or.inl ⟨by rfl, ?_⟩) (by assumption) ?_
              rotate_left
              · intro w' hSw
                go_simp
                first | done | with_reducible rfl
              try simp only [Go.Act.put, List.setIfInBounds_toArray, List.set_cons_zero, List.set_cons_succ]
              refine wpAnyH_takeD (i := 4) (v := ?_) (some 113) rfl rfl (by kernel_rfl) (by kernel_rfl) (by kernel_rfl) (fun _ _ _ h => h) (Or.inl ⟨by rfl, ?_⟩) (by assumption) ?_
              rotate_left
              · intro w' hSw
                go_simp
                first | done | with_reducible rfl
              try simp only [Go.Act.put, List.setIfInBounds_toArray, List.set_cons_zero, List.set_cons_succ]
              refine wpAnyH_takeD (i := 5) (v := ?_) (some 114) rfl rfl (by kernel_rfl) (by kernel_rfl) (by kernel_rfl) (fun _ _ _ h => h) (Or.inl ⟨by rfl, ?_⟩) (by assumption) ?_
              rotate_left
              · intro w' hSw
                go_simp
                first | done | with_reducible rfl
              try simp only [Go.Act.put, List.setIfInBounds_toArray, List.set_cons_zero, List.set_cons_succ]
              refine wpAnyH_takeD (i := 6) (v := ?_) (some 115) rfl rfl (by kernel_rfl) (by kernel_rfl) (by kernel_rfl) (fun _ _ _ h => h) (Or.inl ⟨by rfl, ?_⟩) (by assumption) ?_
              rotate_left
              · intro w' hSw
                go_simp
                first | done | with_reducible rfl
              try simp only [Go.Act.put, List.setIfInBounds_toArray, List.set_cons_zero, List.set_cons_succ]
              refine wpAnyH_takeD (i := 7) (v := ?_) (some 116) rfl rfl (by kernel_rfl) (by kernel_rfl) (by kernel_rfl) (fun _ _ _ h => h) (Or.inl ⟨by rfl, ?_⟩) (by assumption) ?_
              rotate_left
              · intro w' hSw
                go_simp
                first | done | with_reducible rfl
              try simp only [Go.Act.put, List.setIfInBounds_toArray, List.set_cons_zero, List.set_cons_succ]
              refine wpAnyH_takeD (i := 8) (v := ?_) (some 117) rfl rfl (by kernel_rfl) (by kernel_rfl) (by kernel_rfl) (fun _ _ _ h => h) (Or.inl ⟨by rfl, ?_⟩) (by assumption) ?_
              rotate_left
              · intro w' hSw
                go_simp
                first | done | with_reducible rfl
              try simp only [Go.Act.put, List.setIfInBounds_toArray, List.set_cons_zero, List.set_cons_succ]
              refine wpAnyH_takeD (i := 9) (v := ?_) (some 118) rfl rfl (by kernel_rfl) (by kernel_rfl) (by kernel_rfl) (fun _ _ _ h => h) (Or.inl ⟨by rfl, ?_⟩) (by assumption) ?_
              rotate_left
              · intro w' hSw
                go_simp
                first | done | with_reducible rfl
              try simp only [Go.Act.put, List.setIfInBounds_toArray, List.set_cons_zero, List.set_cons_succ]
              refine wpAnyH_takeD (i := 11) (v := ?_) (some 120) rfl rfl (by kernel_rfl) (by kernel_rfl) (by kernel_rfl) (fun _ _ _ h => h) (Or.inl ⟨by rfl, ?_⟩) (by assumption) ?_
              rotate_left
              · intro w' hSw
                go_simp
                first | done | with_reducible rfl
              try simp only [Go.Act.put, List.setIfInBounds_toArray, List.set_cons_zero, List.set_cons_succ]
              refine wpAnyH_takeD (i := 12) (v := ?_) (some 121) rfl rfl (by kernel_rfl) (by kernel_rfl) (by kernel_rfl) (fun _ _ _ h => h) (Or.inl ⟨by rfl, ?_⟩) (by assumption) ?_
              rotate_left
              · intro w' hSw
                go_simp
                first | done | with_reducible rfl
              try simp only [Go.Act.put, List.setIfInBounds_toArray, List.set_cons_zero, List.set_cons_succ]
              refine wpAnyH_takeD (i := 13) (v := ?_) (some 122) rfl rfl (by kernel_rfl) (by kernel_rfl) (by kernel_rfl) (fun _ _ _ h => h) (Or.inl ⟨by rfl, ?_⟩) (by assumption) ?_
              rotate_left
              · intro w' hSw
                go_simp
                first | done | with_reducible rfl
              try simp only [Go.Act.put, List.setIfInBounds_toArray, List.set_cons_zero, List.set_cons_succ]
              refine wpAnyH_takeD (i := 14) (v := ?_) (some 123) rfl rfl (by kernel_rfl) (by kernel_rfl) (by kernel_rfl) (fun _ _ _ h => h) (Or.inl ⟨by rfl, ?_⟩) (by assumption) ?_
              rotate_left
              · intro w' hSw
                have q0 := HT.out w' hSw
                go_simp
                first | done | with_reducible rfl
              try simp only [Go.Act.put, List.setIfInBounds_toArray, List.set_cons_zero, List.set_cons_succ]
              refine wpAnyH_ready (rs := [10]) (by kernel_rfl) (by simp) ?_
              refine AllReadyH.cons rfl (fun K hK => ?_) AllReadyH.nil
              go_simp
              refine (CW.out _ hHeld).mono ?_; rintro e w9 ⟨rfl, rfl⟩
              try go_simp
              refine hK.out _ _ (hHeld) (fun hHeld => ?_)
              clear hK K
              try change wpAnyH _ _ _ _ _ _ _ (Go.Act.put _ (some 119) _) _
              try simp only [Go.Act.put, List.setIfInBounds_toArray, List.set_cons_zero, List.set_cons_succ]
              refine wpAnyH_takeD (i := 15) (v := ?_) (some 124) rfl rfl (by kernel_rfl) (by kernel_rfl) (by kernel_rfl) (fun _ _ _ h => h) (Or.inl ⟨by rfl, ?_⟩) (by assumption) ?_
              rotate_left
              · intro w' hSw
                go_simp
                first | done | with_reducible rfl
              try simp only [Go.Act.put, List.setIfInBounds_toArray, List.set_cons_zero, List.set_cons_succ]
              refine wpAnyH_takeD (i := 16) (v := ?_) (some 125) rfl rfl (by kernel_rfl) (by kernel_rfl) (by kernel_rfl) (fun _ _ _ h => h) (Or.inl ⟨by rfl, ?_⟩) (by assumption) ?_
              rotate_left
              · intro w' hSw
                go_simp
                first | done | with_reducible rfl
              try simp only [Go.Act.put, List.setIfInBounds_toArray, List.set_cons_zero, List.set_cons_succ]
              refine wpAnyH_done (by kernel_rfl) ?_ _
              have HF9 := Lib.hid hHeld
              clear hHeld CW HT
              have HP9 := Lib.hid (HP7.out.fr0 HF9.out)
              clear HP7 HF9
              generalize w8.drew = w9 at *
              go_wp2
              go_roundw
              case rel => exact ⟨i + 1, nowx, mx, ncx, Dx, LVx, lx, by go_num, by omega, HP9⟩
              case measure => simp [intOf]; omega
        have e4 : (ak == 4) = false := by simpa using h4
        clear h4
        obtain ⟨nowx, mx, ncx, Dx, LVx, lx, hpx⟩ : ∃ nowx mx ncx Dx LVx lx, Pr B gc gr (i + 1) w w5 nowx mx ncx Dx LVx lx := ⟨_, _, _, _, _, _, H.out.mono (Nat.le_succ _)⟩
        have HP := Lib.hid hpx
        clear hpx HA
        go_wp2_with fail
        clear hga hw5 d0 d1 d2 k0
        clear H
        have CN := Lib.hid (cnext_any gc mx ncx nowx Dx w5 HP.out.clk)
        go_wp2_with fail
        refine CN.out.mono ?_; rintro e w7 ⟨t7, is7, rfl, hn7, hf7⟩
        obtain ⟨et, eis⟩ := HP.out.cl.next hn7
        have HP7 := Lib.hid (HP.out.fr0 hf7)
        have C7 := rnext_any gr nowx LVx lx w7 HP7.out.ref
        rw [← et, ← eis] at C7
        have HC7 := Lib.hid C7
        clear CN hn7 hf7 et eis C7 HP
        go_wp2_with fail
        refine HC7.out.mono ?_; rintro e w8 ⟨rfl, rfl⟩
        clear HC7
        have CW := Lib.hid (fun w' (hf : Fr (fun _ => False) w8 w') => now_any gc nowx mx ncx Dx w' ((HP7.out.fr0 hf).clk))
        have HT := Lib.hid (fun w' (hf : Fr (fun _ => False) w8 w') => show w'.cell? ⟨gr, 0, none⟩ = some (.int .i64 nowx) from (HP7.out.fr0 hf).ref.blk.cell 0)
        go_wp2_with fail
        refine wp_region_held_drew (S := fun w' => Fr (fun _ => False) w8 w') (by kernel_rfl) ((Fr.refl _ _).drew) (fun hHeld => ?_)
        refine wpAnyH_takeD (i := 0) (v := ?_) (some 109) rfl rfl (by kernel_rfl) (by kernel_rfl) (by kernel_rfl) (fun _ _ _ h => h) (Or.inl ⟨by rfl, ?_⟩) (by assumption) ?_
        rotate_left
        · intro w' hSw
          go_simp
          first | done | with_reducible rfl
        try simp only [Go.Act.put, List.setIfInBounds_toArray, List.set_cons_zero, List.set_cons_succ]
        refine wpAnyH_takeD (i := 1) (v := ?_) (some 110) rfl rfl (by kernel_rfl) (by kernel_rfl) (by kernel_rfl) (fun _ _ _ h => h) (Or.inl ⟨by rfl, ?_⟩) (by assumption) ?_
        rotate_left
        · intro w' hSw
          go_simp
          first | done | with_reducible rfl
        try simp only [Go.Act.put, List.setIfInBounds_toArray, List.set_cons_zero, List.set_cons_succ]
        refine wpAnyH_takeD (i := 2) (v := ?_) (some 111) rfl rfl (by kernel_rfl) (by kernel_rfl) (by kernel_rfl) (fun _ _ _ h => h) (Or.inl ⟨by rfl, ?_⟩) (by assumption) ?_
        rotate_left
        · intro w' hSw
          go_simp
          first | done | with_reducible rfl
        try simp only [Go.Act.put, List.setIfInBounds_toArray, List.set_cons_zero, List.set_cons_succ]
        refine wpAnyH_takeD (i := 3) (v := ?_) (some 112) rfl rfl (by kernel_rfl) (by kernel_rfl) (by kernel_rfl) (fun _ _ _ h => h) (Or.inl ⟨by rfl, ?_⟩) (by assumption) ?_
        rotate_left
        · intro w' hSw
          go_simp
          first | done | with_reducible rfl
        try simp only [Go.Act.put, List.setIfInBounds_toArray, List.set_cons_zero, List.set_cons_succ]
        refine wpAnyH_takeD (i := 4) (v := ?_) (some 113) rfl rfl (by kernel_rfl) (by kernel_rfl) (by kernel_rfl) (fun _ _ _ h => h) (Or.inl ⟨by rfl, ?_⟩) (by assumption) ?_
        rotate_left
        · intro w' hSw
          go_simp
          first | done | with_reducible rfl
        try simp only [Go.Act.put, List.setIfInBounds_toArray, List.set_cons_zero, List.set_cons_succ]
        refine wpAnyH_takeD (i := 5) (v := ?_) (some 114) rfl rfl (by kernel_rfl) (by kernel_rfl) (by kernel_rfl) (fun _ _ _ h => h) (Or.inl ⟨by rfl, ?_⟩) (by assumption) ?_
        rotate_left
        · intro w' hSw
          go_simp
          first | done | with_reducible rfl
        try simp only [Go.Act.put, List.setIfInBounds_toArray, List.set_cons_zero, List.set_cons_succ]
        refine wpAnyH_takeD (i := 6) (v := ?_) (some 115) rfl rfl (by kernel_rfl) (by kernel_rfl) (by kernel_rfl) (fun _ _ _ h => h) (Or.inl ⟨by rfl, ?_⟩) (by assumption) ?_
        rotate_left
        · intro w' hSw
          go_simp
          first | done | with_reducible rfl
        try simp only [Go.Act.put, List.setIfInBounds_toArray, List.set_cons_zero, List.set_cons_succ]
        refine wpAnyH_takeD (i := 7) (v := ?_) (some 116) rfl rfl (by kernel_rfl) (by kernel_rfl) (by kernel_rfl) (fun _ _ _ h => h) (Or.inl ⟨by rfl, ?_⟩) (by assumption) ?_
        rotate_left
        · intro w' hSw
          go_simp
          first | done | with_reducible rfl
        try simp only [Go.Act.put, List.setIfInBounds_toArray, List.set_cons_zero, List.set_cons_succ]
        refine wpAnyH_takeD (i := 8) (v := ?_) (some 117) rfl rfl (by kernel_rfl) (by kernel_rfl) (by kernel_rfl) (fun _ _ _ h => h) (Or.inl ⟨by rfl, ?_⟩) (by assumption) ?_
        rotate_left
        · intro w' hSw
          go_simp
          first | done | with_reducible rfl
        try simp only [Go.Act.put, List.setIfInBounds_toArray, List.set_cons_zero, List.set_cons_succ]
        refine wpAnyH_takeD (i := 9) (v := ?_) (some 118) rfl rfl (by kernel_rfl) (by kernel_rfl) (by kernel_rfl) (fun _ _ _ h => h) (Or.inl ⟨by rfl, ?_⟩) (by assumption) ?_
        rotate_left
        · intro w' hSw
          go_simp
          first | done | with_reducible rfl
        try simp only [Go.Act.put, List.setIfInBounds_toArray, List.set_cons_zero, List.set_cons_succ]
        refine wpAnyH_takeD (i := 11) (v := ?_) (some 120) rfl rfl (by kernel_rfl) (by kernel_rfl) (by kernel_rfl) (fun _ _ _ h => h) (Or.inl ⟨by rfl, ?_⟩) (by assumption) ?_
        rotate_left
        · intro w' hSw
          go_simp
          first | done | with_reducible rfl
        try simp only [Go.Act.put, List.setIfInBounds_toArray, List.set_cons_zero, List.set_cons_succ]
        refine wpAnyH_takeD (i := 12) (v := ?_) (some 121) rfl rfl (by kernel_rfl) (by kernel_rfl) (by kernel_rfl) (fun _ _ _ h => h) (Or.inl ⟨by rfl, ?_⟩) (by assumption) ?_
        rotate_left
        · intro w' hSw
          go_simp
          first | done | with_reducible rfl
        try simp only [Go.Act.put, List.setIfInBounds_toArray, List.set_cons_zero, List.set_cons_succ]
        refine wpAnyH_takeD (i := 13) (v := ?_) (some 122) rfl rfl (by kernel_rfl) (by kernel_rfl) (by kernel_rfl) (fun _ _ _ h => h) (Or.inl ⟨by rfl, ?_⟩) (by assumption) ?_
        rotate_left
        · intro w' hSw
          go_simp
          first | done | with_reducible rfl
        try simp only [Go.Act.put, List.setIfInBounds_toArray, List.set_cons_zero, List.set_cons_succ]
        refine wpAnyH_takeD (i := 14) (v := ?_) (some 123) rfl rfl (by kernel_rfl) (by kernel_rfl) (by kernel_rfl) (fun _ _ _ h => h) (Or.inl ⟨by rfl, ?_⟩) (by assumption) ?_
        rotate_left
        · intro w' hSw
          have q0 := HT.out w' hSw
          go_simp
          first | done | with_reducible rfl
        try simp only [Go.Act.put, List.setIfInBounds_toArray, List.set_cons_zero, List.set_cons_succ]
        refine wpAnyH_ready (rs := [10]) (by kernel_rfl) (by simp) ?_
        refine AllReadyH.cons rfl (fun K hK => ?_) AllReadyH.nil
        go_simp
        refine (CW.out _ hHeld).mono ?_; rintro e w9 ⟨rfl, rfl⟩
        try go_simp
        refine hK.out _ _ (hHeld) (fun hHeld => ?_)
        clear hK K
        try change wpAnyH _ _ _ _ _ _ _ (Go.Act.put _ (some 119) _) _
        try simp only [Go.Act.put, List.setIfInBounds_toArray, List.set_cons_zero, List.set_cons_succ]
        refine wpAnyH_takeD (i := 15) (v := ?_) (some 124) rfl rfl (by kernel_rfl) (by kernel_rfl) (by kernel_rfl) (fun _ _ _ h => h) (Or.inl ⟨by rfl, ?_⟩) (by assumption) ?_
        rotate_left
        · intro w' hSw
          go_simp
          first | done | with_reducible rfl
        try simp only [Go.Act.put, List.setIfInBounds_toArray, List.set_cons_zero, List.set_cons_succ]
        refine wpAnyH_takeD (i := 16) (v := ?_) (some 125) rfl rfl (by kernel_rfl) (by kernel_rfl) (by kernel_rfl) (fun _ _ _ h => h) (Or.inl ⟨by rfl, ?_⟩) (by assumption) ?_
        rotate_left
        · intro w' hSw
          go_simp
          first | done | with_reducible rfl
        try simp only [Go.Act.put, List.setIfInBounds_toArray, List.set_cons_zero, List.set_cons_succ]
        refine wpAnyH_done (by kernel_rfl) ?_ _
        have HF9 := Lib.hid hHeld
        clear hHeld CW HT
        have HP9 := Lib.hid (HP7.out.fr0 HF9.out)
        clear HP7 HF9
        generalize w8.drew = w9 at *
        go_wp2
        go_roundw
        case rel => exact ⟨i + 1, nowx, mx, ncx, Dx, LVx, lx, by go_num, by omega, HP9⟩
        case measure => simp [intOf]; omega
      · have hltz : ¬ (i : Int) < (n : Int) := by omega
        go_wp2
        go_ret
        exact ⟨rfl, H.out.fr⟩
end Go.Proofs.Ytholaofgdahcbaa
