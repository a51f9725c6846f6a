/- flow: New. -/
import Derived.Test.YtkinbcmnfpkncaaDoorXg
namespace Go.Proofs.YtkinbcmnfpkncaaDoor
open Go.RowKit Go.Maps

theorem i64c (x : Int) (h0 : -9223372036854775808 ≤ x) (h1 : x ≤ 9223372036854775807) : I64 x := ⟨h0, h1⟩
def FS.new (id run : Int) : FS := ⟨id, run, [], 0, 0, 0, false, false, fun _ _ => (0, 0)⟩
theorem vs_two {w : World} {g : Nat} {p q : VL} {F : Nat → Prop} (h : Bk w g 75 (p.cells ++ q.cells).toArray) (hp : RdV w F p) (hq : RdV w F q) : Vs w (some ⟨g, 0, none⟩) 2 [p, q] (fun k => k = g ∨ F k) :=
  ⟨rfl, fun _ => ⟨g, 0, rfl, .inl rfl, fun j u hu => by
    have hu' : (p.cells ++ q.cells)[j]? = some u := by simpa [vlc] using hu
    rw [Nat.zero_add, h.cell]; simpa using hu'⟩, fun x hx => by
    simp at hx
    rcases hx with rfl | rfl
    · exact ⟨hp.rd, hp.ok, fun ad e h0 => .inr (hp.inF ad e h0)⟩
    · exact ⟨hq.rd, hq.ok, fun ad e h0 => .inr (hq.inF ad e h0)⟩⟩
def evS (l t : Int) : Ev := ⟨2, 0, 0, 0, l, t, []⟩
/-- What New answers where all may be. -/
def NewPost (w : World) (id run list n now : Int) (xs : List UInt8) (e : Ending) (w' : World) : Prop :=
  ∃ g bm A c ps D Ao mo co os, e = .returned (.tuple #[.pointer (some ⟨g, 0, none⟩), .slice Ao mo co, .int .i64 0]) ∧ os.length = mo ∧ os.map OL.o = ((FS.new id run).lay now [⟨1, 0, 0, 0, list, n, xs⟩, evS list 0]).2 ∧
    FlM w' g A 2 c ps (some bm) D ((FS.new id run).lay now [⟨1, 0, 0, 0, list, n, xs⟩, evS list 0]).1 ∧ OwnO w' (.slice Ao mo co) os ∧ (∀ k, FB g A 2 c ps (some bm) k → w.heap.size ≤ k) ∧ (∀ k, OB (.slice Ao mo co) os k → w.heap.size ≤ k) ∧ Fr (fun _ => False) w w'
theorem newFlM {w : World} {id run : Int} (w1 : World) (hw : w1 = w.alloc (.map #[] 0)) : FlM (w1.alloc (.cells #[.int .i64 id, .int .i64 run, .slice none 0 0, .map (some w.heap.size), .int .i64 0, .int .i64 0, .int .i64 0, .bool false, .bool false] 73)) w1.heap.size none 0 0 [] (some w.heap.size) (.map []) (FS.new id run) := by
  subst hw
  have m1 := MV.new w 97
  have f1 : ∀ o, Fr (fun _ => False) (w.alloc (.map #[] 0)) ((w.alloc (.map #[] 0)).alloc o) := fun o => (Fr.refl _ _).alloc _
  exact { blk := Bk.new _ _ _, own := OwnV.nil _ _, evs := rfl, map := fun bm e => by
            injection e with e; subst e
            exact ⟨m1.fr (f1 _) (fun h => h), Nat.le_refl _⟩
          opn := fun k i _ _ => .inr (.inl ⟨rfl, rfl⟩), big := by omega, trn := ⟨Int.le_refl _, Int.le_refl _⟩, evb := (fun e he => by cases he), op64 := fun _ _ => ⟨i64z, i64z⟩, t64 := ⟨i64z, i64z⟩ }

set_option maxRecDepth 100000 in
set_option maxHeartbeats 8000000 in
theorem newF_any (id run list n : Int) (dA : Option Addr) (dn dc : Nat) (xs : List UInt8) (now : Int) (w : World) (hr : Rd8 w dA xs) (hx : xs.length = dn) (hd : dn ≤ 4096) (hid : 0 ≤ id ∧ id ≤ 1048576) (hrun : 1 ≤ run ∧ run ≤ 1048576) (hl : 0 ≤ list ∧ list ≤ 1048576) (hn : 1 ≤ n ∧ n ≤ 1048576) (hnow : 0 ≤ now ∧ now ≤ 1099511627776) (hdA : ∀ ad, dA = some ad → 0 < dn → ad.block < w.heap.size) :
    Calls Tryd.prog 8 #[.int .i64 id, .int .i64 run, .int .i64 list, .int .i64 n, .slice dA dn dc, .int .i64 now] w (NewPost w id run list n now xs) := by
  have hmm := @run_makeMap Tryd.prog
  obtain ⟨g2, hg2⟩ : ∃ g2, w.heap.size = g2 := ⟨_, rfl⟩
  obtain ⟨W, hW⟩ : ∃ W, w.alloc (.cells #[.int .i64 0, .int .i64 0, .int .i64 id, .int .i64 0, .slice dA dn dc, .slice none 0 0, .int .i64 now] 67) = W := ⟨_, rfl⟩
  have HF : Hid (Fr (fun _ => False) w W) := Lib.hid (by rw [← hW]; exact (Fr.refl _ _).alloc _)
  have HB : Hid (Bk W g2 67 #[.int .i64 0, .int .i64 0, .int .i64 id, .int .i64 0, .slice dA dn dc, .slice none 0 0, .int .i64 now]) := Lib.hid (by rw [← hW, ← hg2]; exact Bk.new _ _ _)
  have CF := Lib.hid (fun w' => fits_any ⟨0, 0, id, 0, dA, dn, dc, none, 0, 0, now⟩ w')
  have hfit : Hd.fits ⟨0, 0, id, 0, dA, dn, dc, none, 0, 0, now⟩ = true := by unfold Hd.fits; simp only [Bool.and_eq_true, decide_eq_true_eq]; omega
  rw [hfit] at CF
  unfold Hd.cells at CF
  simp only at CF
  have bt : ∀ v hi : Int, ∀ lo : Int, lo ≤ v → v ≤ hi → ∀ w', Calls Tryd.prog 28 #[.int .i64 v, .int .i64 lo, .int .i64 hi] w' fun e w9 => e = .returned (.bool true) ∧ w' = w9 := fun v hi lo h1 h2 w' => by
    have := isBetween_any v lo hi w'
    rwa [decide_eq_true h1, decide_eq_true h2] at this
  have CB1 := Lib.hid (bt list 1048576 0 hl.1 hl.2)
  have CB2 := Lib.hid (bt run 1048576 1 hrun.1 hrun.2)
  have CB3 := Lib.hid (bt n 1048576 1 hn.1 hn.2)
  have HNOW := Lib.hid hnow
  have HX := Lib.hid hx
  have HR := Lib.hid hr
  have HDA := Lib.hid hdA
  have HND := Lib.hid hd
  have HNN := Lib.hid hn
  have HLL := Lib.hid hl
  have q0 : W.cell? ⟨g2, 0, none⟩ = some (.int .i64 0) := HB.out.cell 0
  have q1 : W.cell? ⟨g2, 1, none⟩ = some (.int .i64 0) := HB.out.cell 1
  have q2 : W.cell? ⟨g2, 2, none⟩ = some (.int .i64 id) := HB.out.cell 2
  have q3 : W.cell? ⟨g2, 3, none⟩ = some (.int .i64 0) := HB.out.cell 3
  have q4 : W.cell? ⟨g2, 4, none⟩ = some (.slice dA dn dc) := HB.out.cell 4
  have q5 : W.cell? ⟨g2, 5, none⟩ = some (.slice none 0 0) := HB.out.cell 5
  have q6 : W.cell? ⟨g2, 6, none⟩ = some (.int .i64 now) := HB.out.cell 6
  clear hr hx hd hid hrun hl hn hnow hdA hfit bt
  go_enter Tryd.func8, Tryd.ntmps8
  go_wp2_with fail
  clear hW hg2 q0 q1 q2 q3 q4 q5 q6
  refine (CF.out _).mono ?_; rintro e w1 ⟨rfl, hf1⟩
  have HF1 := Lib.hid (HF.out.trans hf1 (fun _ _ h => h))
  clear hf1 CF
  go_wp2_with fail
  refine (CB1.out _).mono ?_; rintro e wa ⟨rfl, rfl⟩
  go_wp2_with fail
  refine (CB2.out _).mono ?_; rintro e wa ⟨rfl, rfl⟩
  go_wp2_with fail
  refine (CB3.out _).mono ?_; rintro e wa ⟨rfl, rfl⟩
  clear CB1 CB2 CB3
  obtain ⟨gm, hgm⟩ : ∃ gm, w1.heap.size = gm := ⟨_, rfl⟩
  obtain ⟨W2, hW2⟩ : ∃ W2, w1.alloc (.map #[] 0) = W2 := ⟨_, rfl⟩
  obtain ⟨g, hg⟩ : ∃ g, W2.heap.size = g := ⟨_, rfl⟩
  obtain ⟨W3, hW3⟩ : ∃ W3, W2.alloc (.cells #[.int .i64 id, .int .i64 run, .slice none 0 0, .map (some gm), .int .i64 0, .int .i64 0, .int .i64 0, .bool false, .bool false] 73) = W3 := ⟨_, rfl⟩
  obtain ⟨ge, hge⟩ : ∃ ge, W3.heap.size = ge := ⟨_, rfl⟩
  obtain ⟨W4, hW4⟩ : ∃ W4, W3.alloc (.cells #[.int .i64 1, .int .i64 0, .int .i64 0, .int .i64 0, .int .i64 list, .int .i64 n, .slice dA dn dc] 75) = W4 := ⟨_, rfl⟩
  have HFL0 : FlM W3 g none 0 0 [] (some gm) (.map []) (FS.new id run) := by
    rw [← hW3, ← hg, ← hgm]; exact newFlM W2 hW2.symm
  have F24 : Hid (Fr (fun _ => False) w1 W4) := Lib.hid (by rw [← hW4, ← hW3, ← hW2]; exact (((Fr.refl _ _).alloc _).alloc _).alloc _)
  have F34 : Fr (fun _ => False) W3 W4 := by rw [← hW4]; exact (Fr.refl _ _).alloc _
  have HFL := Lib.hid (HFL0.fr F34 (fun _ _ h => h))
  have HKE : Hid (Bk W4 ge 75 #[.int .i64 1, .int .i64 0, .int .i64 0, .int .i64 0, .int .i64 list, .int .i64 n, .slice dA dn dc]) := Lib.hid (by rw [← hW4, ← hge]; exact Bk.new _ _ _)
  have HSZ : Hid (w.heap.size ≤ gm ∧ gm < g ∧ g < ge ∧ ge < W4.heap.size) := Lib.hid ⟨by have := HF1.out.size; omega, by rw [← hg, ← hW2]; simp [hgm], by rw [← hge, ← hW3]; simp [hg], by rw [← hW4]; simp [hge]⟩
  have HF4 := Lib.hid (HF1.out.trans F24.out (fun _ _ h => h))
  clear HFL0 F34
  have CS := Lib.hid (fun w' => scheduled_any list 0 w')
  have CL : Hid (∀ w' gB, Fr (fun _ => False) W4 w' → W4.heap.size ≤ gB → Bk w' gB 75 #[.int .i64 1, .int .i64 0, .int .i64 0, .int .i64 0, .int .i64 list, .int .i64 n, .slice dA dn dc, .int .i64 2, .int .i64 0, .int .i64 0, .int .i64 0, .int .i64 list, .int .i64 0, .slice none 0 0] →
      Calls Tryd.prog 29 #[.pointer (some ⟨g, 0, none⟩), .int .i64 now, .slice (some ⟨gB, 0, none⟩) 2 2] w' fun e w9 => ∃ A c ps D Ao mo co os, e = .returned (.tuple #[.slice Ao mo co, .int .i64 0]) ∧ os.length = mo ∧ os.map OL.o = ((FS.new id run).lay now [⟨1, 0, 0, 0, list, n, xs⟩, evS list 0]).2 ∧
        FlM w9 g A 2 c ps (some gm) D ((FS.new id run).lay now [⟨1, 0, 0, 0, list, n, xs⟩, evS list 0]).1 ∧ OwnO w9 (.slice Ao mo co) os ∧ (∀ k, FB g A 2 c ps (some gm) k → w.heap.size ≤ k) ∧ (∀ k, OB (.slice Ao mo co) os k → w.heap.size ≤ k) ∧ Fr (fun _ => False) w w9) := Lib.hid (fun w' gB hf hgB hk => by
    have hfw := HF4.out.trans hf (fun _ _ h => h)
    have p1ok : VL.ok ⟨⟨1, 0, 0, 0, list, n, xs⟩, dA, dc⟩ := ⟨i64c 1 (by decide) (by decide), i64z, i64z, i64z, ⟨by have := HLL.out; simp only; omega, by have := HLL.out; simp only; omega⟩, ⟨by have := HNN.out; simp only; omega, by have := HNN.out; simp only; omega⟩, by have := HND.out; have := HX.out; simp only; omega⟩
    have rp1 : RdV w' (fun k => k < w.heap.size) ⟨⟨1, 0, 0, 0, list, n, xs⟩, dA, dc⟩ := ⟨HR.out.fr hfw (fun _ _ _ h => h), p1ok, fun ad e h0 => HDA.out ad e (by have := HX.out; simp only at h0; omega)⟩
    have rp2 : RdV w' (fun k => k < w.heap.size) ⟨evS list 0, none, 0⟩ := ⟨Rd8.nil _ _, ⟨i64c 2 (by decide) (by decide), i64z, i64z, i64z, ⟨by have := HLL.out; simp only [evS]; omega, by have := HLL.out; simp only [evS]; omega⟩, i64z, by simp [evS]⟩, fun ad e => by cases e⟩
    have hk' : Bk w' gB 75 ((VL.cells ⟨⟨1, 0, 0, 0, list, n, xs⟩, dA, dc⟩) ++ (VL.cells ⟨evS list 0, none, 0⟩)).toArray := by
      have : ((VL.cells ⟨⟨1, 0, 0, 0, list, n, xs⟩, dA, dc⟩) ++ (VL.cells ⟨evS list 0, none, 0⟩)).toArray = #[.int .i64 1, .int .i64 0, .int .i64 0, .int .i64 0, .int .i64 list, .int .i64 n, .slice dA dn dc, .int .i64 2, .int .i64 0, .int .i64 0, .int .i64 0, .int .i64 list, .int .i64 0, .slice none 0 0] := by
        simp [VL.cells, VL.bv, evS, HX.out]
      rw [this]; exact hk
    refine (layF_any (HFL.out.fr hf (fun _ _ h => h)) now HNOW.out _ 2 2 [⟨⟨1, 0, 0, 0, list, n, xs⟩, dA, dc⟩, ⟨evS list 0, none, 0⟩] (vs_two hk' rp1 rp2) (fun k hk e => ?_) (by omega) ⟨⟨by have := HNN.out; simp only; omega, by have := HNN.out; simp only; omega⟩, fun h => by simp at h, fun _ => rfl, ⟨by simp [evS], by simp [evS]⟩, fun h => by simp [evS] at h, fun h => absurd rfl h, trivial⟩).mono ?_
    · have hs := HSZ.out
      rcases e with rfl | rfl | e
      · rcases hk with rfl | hk <;> omega
      · rcases hk with rfl | hk <;> omega
      · simp [Value.ownBlock] at e
    · rintro e w9 ⟨A', c', ps', mo', D', Ao, mo, co, os, h1, h2, h3, h4, h5⟩
      obtain rfl := h5 (by intro e he; simp [evS] at he; rcases he with rfl | rfl <;> rfl)
      have hs := HSZ.out
      have hsz := hfw.size
      refine ⟨A', c', ps', D', Ao, mo, co, os, h1, h2, h3, h4.fl, h4.ou, fun k hk => ?_, fun k hk => Nat.le_trans hsz (h4.on k hk), hfw.trans h4.fr (fun x hx e => ?_)⟩
      · rcases hk with rfl | e | e
        · omega
        · injection e with e; omega
        · rcases h4.nb k e with e | e
          · rcases e with e | ⟨q, hq, _⟩
            · simp [Value.ownBlock] at e
            · cases hq
          · omega
      · rcases e with rfl | rfl | e
        · omega
        · omega
        · simp [Value.ownBlock] at e)
  clear HFL HND HNN HLL HR HDA HX HNOW
  go_wp2_with fail
  clear hW2 hW3 hW4 hgm hg hge hmm
  refine wp_region_Z [6] ((fun w' => Fr (fun _ => False) W4 w')) (by kernel_rfl) ((Fr.refl _ _).drew) (fun hHeld => ?_)
  refine anyZ_pure (i := 0) (v := ?_) (some 52) rfl rfl (by kernel_rfl) (by kernel_rfl) (by kernel_rfl) (by kernel_rfl) (fun _ _ _ h => h) (Or.inl ⟨by rfl, ?_⟩) (fun _ => hHeld) ?_
  rotate_left
  · intro w' _
    go_simp
    first | done | with_reducible rfl
  try simp only [Act.put, List.setIfInBounds_toArray, List.set_cons_zero, List.set_cons_succ]
  refine anyZ_pure (i := 1) (v := ?_) (some 53) rfl rfl (by kernel_rfl) (by kernel_rfl) (by kernel_rfl) (by kernel_rfl) (fun _ _ _ h => h) (Or.inl ⟨by rfl, ?_⟩) (fun _ => hHeld) ?_
  rotate_left
  · intro w' _
    go_simp
    first | done | with_reducible rfl
  try simp only [Act.put, List.setIfInBounds_toArray, List.set_cons_zero, List.set_cons_succ]
  refine anyZ_read (i := 2) (v := ?_) (some 54) [5, 6, 7, 8, 9, 10, 11] rfl rfl (by kernel_rfl) (by kernel_rfl) (by kernel_rfl) (by kernel_rfl) (by kernel_rfl) (by kernel_rfl) (fun _ _ _ h => h) (Or.inl ⟨by rfl, ?_⟩) hHeld ?_
  rotate_left
  · intro w' hSw
    have qk := HKE.out.fr hSw (fun h => h); have k0 := qk.cell 0; have k1 := qk.cell 1; have k2 := qk.cell 2; have k3 := qk.cell 3; have k4 := qk.cell 4; have k5 := qk.cell 5; have k6 := qk.cell 6; simp only [List.getElem?_toArray, List.getElem?_cons_zero, List.getElem?_cons_succ] at k0 k1 k2 k3 k4 k5 k6
    go_simp
    first | done | with_reducible rfl
  try simp only [Act.put, List.setIfInBounds_toArray, List.set_cons_zero, List.set_cons_succ]
  refine anyZ_pure (i := 3) (v := ?_) (some 55) rfl rfl (by kernel_rfl) (by kernel_rfl) (by kernel_rfl) (by kernel_rfl) (fun _ _ _ h => h) (Or.inl ⟨by rfl, ?_⟩) (fun _ => hHeld) ?_
  rotate_left
  · intro w' _
    go_simp
    first | done | with_reducible rfl
  try simp only [Act.put, List.setIfInBounds_toArray, List.set_cons_zero, List.set_cons_succ]
  refine anyZ_ready (rs := [4]) (by kernel_rfl) (by simp) ?_
  refine AllZ.step rfl (fun K hK => ?_) AllZ.nil
  go_simp
  refine (CS.out _).mono ?_; rintro e w5 ⟨rfl, hf5⟩
  have HF5 := Lib.hid (hHeld.trans hf5 (fun _ _ h => h))
  try go_simp
  refine hK.out _ _ (HF5.out) (fun hHeld => ?_)
  clear hK K
  try change anyZ _ _ _ _ _ _ _ _ (Act.put _ (some 56) _) _
  try simp only [Act.put, List.setIfInBounds_toArray, List.set_cons_zero, List.set_cons_succ]
  refine anyZ_ready (rs := [5]) (by kernel_rfl) (by simp) ?_
  refine AllZ.step rfl (fun K hK => ?_) AllZ.nil
  go_simp
  refine hK.out _ _ (HF5.out.alloc _) (fun hHeld => ?_)
  clear hK K
  try change anyZ _ _ _ _ _ _ _ _ (Act.put _ (some 57) _) _
  try simp only [Act.put, List.setIfInBounds_toArray, List.set_cons_zero, List.set_cons_succ]
  refine anyZ_ready (rs := [6]) (by kernel_rfl) (by simp) ?_
  refine AllZ.last rfl (by kernel_rfl) (fun K hK => ?_) AllZ.nil
  go_simp
  refine (CL.out _ w5.heap.size hHeld HF5.out.size (Bk.new _ _ _)).mono ?_; rintro e w9 ⟨A, c, ps, D, Ao, mo, co, os, rfl, h2, h3, h4, h5, h6, h7, h8⟩
  have HX9 := Lib.hid (And.intro h2 (And.intro h3 (And.intro h4 (And.intro h5 (And.intro h6 (And.intro h7 h8))))))
  clear h2 h3 h4 h5 h6 h7 h8
  try go_simp
  refine hK.out _ _ ?_
  clear hK K
  try change anyZ _ _ _ _ _ _ _ _ (Act.put _ (some 58) _) _
  try simp only [Act.put, List.setIfInBounds_toArray, List.set_cons_zero, List.set_cons_succ]
  refine anyZ_pure (i := 7) (v := ?_) (some 51) rfl rfl (by kernel_rfl) (by kernel_rfl) (by kernel_rfl) (by kernel_rfl) (fun _ _ _ h => h) (Or.inl ⟨by rfl, ?_⟩) (notYet (by kernel_rfl)) ?_
  rotate_left
  · intro w' _
    go_simp
    first | done | with_reducible rfl
  try simp only [Act.put, List.setIfInBounds_toArray, List.set_cons_zero, List.set_cons_succ]
  refine anyZ_pure (i := 8) (v := ?_) (some 59) rfl rfl (by kernel_rfl) (by kernel_rfl) (by kernel_rfl) (by kernel_rfl) (fun _ _ _ h => h) (Or.inl ⟨by rfl, ?_⟩) (notYet (by kernel_rfl)) ?_
  rotate_left
  · intro w' _
    go_simp
    first | done | with_reducible rfl
  try simp only [Act.put, List.setIfInBounds_toArray, List.set_cons_zero, List.set_cons_succ]
  refine anyZ_pure (i := 9) (v := ?_) (some 60) rfl rfl (by kernel_rfl) (by kernel_rfl) (by kernel_rfl) (by kernel_rfl) (fun _ _ _ h => h) (Or.inl ⟨by rfl, ?_⟩) (notYet (by kernel_rfl)) ?_
  rotate_left
  · intro w' _
    go_simp
    first | done | with_reducible rfl
  try simp only [Act.put, List.setIfInBounds_toArray, List.set_cons_zero, List.set_cons_succ]
  refine anyZ_pure (i := 10) (v := ?_) (some 18) rfl rfl (by kernel_rfl) (by kernel_rfl) (by kernel_rfl) (by kernel_rfl) (fun _ _ _ h => h) (Or.inl ⟨by rfl, ?_⟩) (notYet (by kernel_rfl)) ?_
  rotate_left
  · intro w' _
    go_simp
    first | done | with_reducible rfl
  try simp only [Act.put, List.setIfInBounds_toArray, List.set_cons_zero, List.set_cons_succ]
  refine anyZ_pure (i := 11) (v := ?_) (some 19) rfl rfl (by kernel_rfl) (by kernel_rfl) (by kernel_rfl) (by kernel_rfl) (fun _ _ _ h => h) (Or.inl ⟨by rfl, ?_⟩) (notYet (by kernel_rfl)) ?_
  rotate_left
  · intro w' _
    go_simp
    first | done | with_reducible rfl
  try simp only [Act.put, List.setIfInBounds_toArray, List.set_cons_zero, List.set_cons_succ]
  refine anyZ_done (by kernel_rfl) ?_ _
  clear hHeld CS CL
  go_wp2
  refine bodyPost_ret (v := .tuple #[.pointer (some ⟨g, 0, none⟩), .slice Ao mo co, .int .i64 0]) (by simp [results, Tryd.results8, go_sem]) rfl ?_
  obtain ⟨h2, h3, h4, h5, h6, h7, h8⟩ := HX9.out
  exact ⟨g, gm, A, c, ps, D, Ao, mo, co, os, rfl, h2, h3, h4, h5, h6, h7, h8⟩
end Go.Proofs.YtkinbcmnfpkncaaDoor
