/- A call's bytes by the reference. -/
import Derived.Test.YtblfnbmgijppmaaDoorKd
import Derived.Test.YtblfnbmgijppmaaDoorHa
import Derived.Test.YtblfnbmgijppmaaDoorGt
namespace Go.Proofs.YtblfnbmgijppmaaDoor
open Go.RowKit

/-- A row of bytes that a function makes. -/
structure OS (W0 : World) (B : Nat) (wk : World) (v : Value) (bs : List UInt8) : Prop where
  own : Own8 wk 5 v bs
  nb : Nb B W0 wk
  fm : From B v
  sz : B ≤ wk.heap.size
theorem OS.fm2 {W0 : World} {B : Nat} {wk : World} {v : Value} {bs : List UInt8} (h : OS W0 B wk v bs) : ∀ x, (v.ownBlock = some x ∨ wk.heap.size ≤ x) → B ≤ x := fun x hx => hx.elim (fun e => h.fm x e) (fun e => Nat.le_trans h.sz e)
theorem OS.quiet {W0 : World} {B : Nat} {wk w2 : World} {v : Value} {bs : List UInt8} (h : OS W0 B wk v bs) (hf : Fr (fun _ => False) wk w2) : OS W0 B w2 v bs :=
  ⟨h.own.fr hf (fun _ _ h => h), h.nb.add (hf.nb0 B), h.fm, Nat.le_trans h.sz hf.size⟩
theorem OS.to {W0 : World} {B : Nat} {wk w2 : World} {v v2 : Value} {bs b2 : List UInt8} (h : OS W0 B wk v bs) (k : OwnTo wk v w2 v2 b2) : OS W0 B w2 v2 b2 :=
  ⟨k.1, h.nb.add (k.2.1.nb (fun x hx => h.fm x hx)), h.fm.moved k.2.2 h.sz, Nat.le_trans h.sz k.2.1.size⟩
theorem OS.int {W0 : World} {B : Nat} {wk : World} {v : Value} {bs : List UInt8} (h : OS W0 B wk v bs) (a : Int) (ha : okI a) (hb : bs.length ≤ 17592186044416) :
    Calls Tryd.prog 28 #[v, .int .i64 a] wk fun e w' => ∃ v', e = .returned v' ∧ OS W0 B w' v' (bs ++ eI a) ∧ Fr (fun k => v.ownBlock = some k) wk w' ∧ Moved wk v v' := by
  refine (refWInt_any v a bs wk ha.1 ha.2 h.own (by omega)).mono ?_
  rintro e w' ⟨v', rfl, k⟩
  exact ⟨v', rfl, h.to k, k.2.1, k.2.2⟩
theorem OS.bytes {W0 : World} {B : Nat} {wk : World} {v : Value} {bs : List UInt8} (h : OS W0 B wk v bs) (A : Option Addr) (c : Nat) (xs : List UInt8) (hr : Rd8 W0 A xs) (hA : ∀ ad, A = some ad → 0 < xs.length → ad.block < B) (hb : bs.length ≤ 17592186044416) (hn : xs.length ≤ 17592186044416) :
    Calls Tryd.prog 29 #[v, .slice A xs.length c] wk fun e w' => ∃ v', e = .returned v' ∧ OS W0 B w' v' (bs ++ eB xs) ∧ Fr (fun k => v.ownBlock = some k) wk w' ∧ Moved wk v v' := by
  refine (refWBytes_any v bs A xs.length c xs wk h.own hb (hr.fr h.nb (fun ad e h0 => by have := hA ad e h0; omega)) rfl hn (fun ad e h0 e2 => by
    have h1 := hA ad e h0
    have := h.fm _ e2; omega)).mono ?_
  rintro e w' ⟨v', rfl, k⟩
  exact ⟨v', rfl, h.to k, k.2.1, k.2.2⟩

set_option maxRecDepth 100000 in
set_option maxHeartbeats 8000000 in
theorem refCall_any (x : CI) (w : World) (hx : x.At w (fun k => k < w.heap.size)) (hok : x.cl.ok) (hbs : x.bs.length ≤ 8192) (hsum : sumD x.cl.L ≤ 8192) :
    Calls Tryd.prog 8 #[.agg x.cells] w fun e w' => ∃ A' c', e = .returned (.slice A' (eC x.cl).length c') ∧ Own8 w' 5 (.slice A' (eC x.cl).length c') (eC x.cl) ∧ Fr (fun _ => False) w w' := by
  obtain ⟨a0, a1, a2, a3, t0, t1, t2, t3, bA, bc, bs, lA, lc, ds⟩ := x
  simp only [CI.cells]
  have HOUT0 : eC (CI.cl ⟨a0, a1, a2, a3, t0, t1, t2, t3, bA, bc, bs, lA, lc, ds⟩) = [a0, a1, a2, a3, t0, t1, t2, t3].flatMap eI ++ eB bs ++ eI ds.length ++ eDs (ds.map DI.d) := by unfold eC eH CI.cl; simp
  generalize eC (CI.cl ⟨a0, a1, a2, a3, t0, t1, t2, t3, bA, bc, bs, lA, lc, ds⟩) = OUT at *
  have HOUT := Lib.hid HOUT0
  clear HOUT0
  obtain ⟨W0, hW⟩ : ∃ W0, (w.alloc (.cells #[.int .i64 a0, .int .i64 a1, .int .i64 a2, .int .i64 a3, .int .i64 t0, .int .i64 t1, .int .i64 t2, .int .i64 t3, .slice bA bs.length bc, .slice lA ds.length lc] 27)).alloc (.cells #[.int .i64 a0, .int .i64 a1, .int .i64 a2, .int .i64 a3, .int .i64 t0, .int .i64 t1, .int .i64 t2, .int .i64 t3] 3) = W0 := ⟨_, rfl⟩
  obtain ⟨gb, hgb⟩ : ∃ gb, w.heap.size = gb := ⟨_, rfl⟩
  have fW : Fr (fun _ => False) w W0 := by rw [← hW]; exact ((Fr.refl _ _).alloc _).alloc _
  have bW : Bk W0 gb 27 #[.int .i64 a0, .int .i64 a1, .int .i64 a2, .int .i64 a3, .int .i64 t0, .int .i64 t1, .int .i64 t2, .int .i64 t3, .slice bA bs.length bc, .slice lA ds.length lc] := by rw [← hW, ← hgb]; exact (Bk.new _ _ _).alloc _
  have bI : Bk W0 (gb + 1) 3 ([a0, a1, a2, a3, t0, t1, t2, t3].map fun a => Value.int .i64 a).toArray := by
    rw [← hW, ← hgb]
    have := Bk.new (w.alloc (.cells #[.int .i64 a0, .int .i64 a1, .int .i64 a2, .int .i64 a3, .int .i64 t0, .int .i64 t1, .int .i64 t2, .int .i64 t3, .slice bA bs.length bc, .slice lA ds.length lc] 27)) 3 #[.int .i64 a0, .int .i64 a1, .int .i64 a2, .int .i64 a3, .int .i64 t0, .int .i64 t1, .int .i64 t2, .int .i64 t3]
    simpa using this
  have hs0 : W0.heap.size = gb + 2 := by rw [← hW, ← hgb]; simp
  have BX := bW.alloc (.cells #[] 3)
  clear BX
  have CX := Lib.hid (fun w' (hf : Nb (gb + 2) W0 w') => bW.fr hf (fun h => by omega))
  have CI' := Lib.hid (fun w' (hf : Nb (gb + 2) W0 w') => bI.fr hf (fun h => by omega))
  have HX := Lib.hid (hx.fr fW (fun _ _ h => h))
  have HOK := Lib.hid hok
  have HBS := Lib.hid hbs
  have HSUM := Lib.hid hsum
  have HFW := Lib.hid fW
  have HGB := Lib.hid hgb
  have HS0z := Lib.hid hs0
  have HI : Hid (∀ a ∈ [a0, a1, a2, a3, t0, t1, t2, t3], okI a) := Lib.hid (fun z hz => by
    simp at hz
    rcases hz with rfl | rfl | rfl | rfl | rfl | rfl | rfl | rfl
    exact hok.a0
    exact hok.a1
    exact hok.a2
    exact hok.a3
    exact hok.t0
    exact hok.t1
    exact hok.t2
    exact hok.t3)
  have HIL : Hid ([a0, a1, a2, a3, t0, t1, t2, t3].length = 8) := Lib.hid rfl
  have S0 := Lib.hid (show OS W0 (gb + 2) W0 (.slice none 0 0) [] from ⟨Own8.nil _ _, Fr.refl _ _, From.nil _ _ _, by omega⟩)
  have bB := bW.cell
  clear bB
  have hdl : ds.length ≤ 8192 := by
    have h1 := sumD_len (ds.map DI.d)
    rw [List.length_map] at h1
    have h2 : sumD (ds.map DI.d) ≤ 8192 := HSUM.out
    omega
  have w1c : ∀ j v, (#[.int .i64 a0, .int .i64 a1, .int .i64 a2, .int .i64 a3, .int .i64 t0, .int .i64 t1, .int .i64 t2, .int .i64 t3, .slice bA bs.length bc, .slice lA ds.length lc] : Array Value)[j]? = some v → (w.alloc (.cells #[.int .i64 a0, .int .i64 a1, .int .i64 a2, .int .i64 a3, .int .i64 t0, .int .i64 t1, .int .i64 t2, .int .i64 t3, .slice bA bs.length bc, .slice lA ds.length lc] 27)).cell? ⟨gb, j, none⟩ = some v := fun j v hv => by
    have h1 := Bk.new w 27 #[.int .i64 a0, .int .i64 a1, .int .i64 a2, .int .i64 a3, .int .i64 t0, .int .i64 t1, .int .i64 t2, .int .i64 t3, .slice bA bs.length bc, .slice lA ds.length lc]
    rw [hgb] at h1
    exact (h1.cell j).trans hv
  have k0 := w1c 0 _ rfl
  have k1 := w1c 1 _ rfl
  have k2 := w1c 2 _ rfl
  have k3 := w1c 3 _ rfl
  have k4 := w1c 4 _ rfl
  have k5 := w1c 5 _ rfl
  have k6 := w1c 6 _ rfl
  have k7 := w1c 7 _ rfl
  clear fW bW bI hx hok hbs hsum hs0 w1c
  go_enter Tryd.func8, Tryd.ntmps8
  go_wp2_with fail
  clear hW hgb k0 k1 k2 k3 k4 k5 k6 k7
  generalize [a0, a1, a2, a3, t0, t1, t2, t3] = IL at *
  go_loopw [3, 5] (fun v i wr => ∃ k : Nat, k ≤ 8 ∧ i = .int .i64 k ∧ OS W0 (gb + 2) wr v ((IL.take k).flatMap eI)) (fun _ i _ => 8 - (intOf i).toNat)
  case atStart => exact ⟨0, by omega, rfl, by simpa using S0.out⟩
  case round =>
    obtain ⟨k, hk, rfl, hv⟩ := hrel
    have HV := Lib.hid hv
    clear hv S0
    have hl8 := eIs_len (IL.take k) (fun z hz => HI.out z (List.mem_of_mem_take hz))
    rw [List.length_take, HIL.out] at hl8
    by_cases hlt : k < 8
    · have hkl : k < IL.length := by rw [HIL.out]; exact hlt
      have hc : wr.cell? ⟨gb + 1, k, none⟩ = some (.int .i64 (IL.getD k default)) := by
        rw [(CI'.out wr HV.out.nb).cell k]
        simp [List.getD, hkl]
      have ho : okI (IL.getD k default) := HI.out _ (by rw [show IL.getD k default = IL[k] by simp [List.getD, hkl]]; exact List.getElem_mem _)
      have ST : Hid ((IL.take (k + 1)).flatMap eI = (IL.take k).flatMap eI ++ eI (IL.getD k default)) := Lib.hid (by rw [take_getD hkl]; simp)
      have K := Lib.hid (HV.out.int (IL.getD k default) ho (by omega))
      have hk0 : (0 : Int) ≤ (k : Int) := by omega
      have hk1 : (k : Int) < 8 := by omega
      clear hkl ho hl8
      generalize IL.getD k default = a at *
      go_wp2_with fail
      refine K.out.mono ?_; rintro e w1 ⟨v1, rfl, S1, _⟩
      have HS1 := Lib.hid S1
      clear K S1 hc
      go_wp2
      go_roundw
      case rel => exact ⟨k + 1, by omega, by go_num, by rw [ST.out]; exact HS1.out⟩
      case measure => simp [intOf]; omega
    · obtain rfl : k = 8 := by omega
      obtain ⟨v, rfl⟩ : ∃ v, v = u3 := ⟨_, rfl⟩
      have HS0 : Hid (OS W0 (gb + 2) wr v (IL.flatMap eI)) := Lib.hid (by have := HV.out; rwa [List.take_of_length_le (by rw [HIL.out]; omega)] at this)
      have LH : Hid ((IL.flatMap eI).length ≤ 80) := Lib.hid (by have := eIs_len IL HI.out; rw [HIL.out] at this; omega)
      have LBb : Hid ((eB bs).length ≤ 8202) := Lib.hid (by
        have h1 := enc_length10 (2 * bs.length) (by have h2 : bs.length ≤ 8192 := HBS.out; omega)
        have h2 : bs.length ≤ 8192 := HBS.out
        unfold eB; rw [List.length_append]; omega)
      have LN : Hid ((eI (ds.length : Int)).length ≤ 10) := Lib.hid (eI_len _ ⟨by omega, by omega⟩)
      have LB : Hid ((IL.flatMap eI ++ eB bs).length ≤ 17592186044416) := Lib.hid (by rw [List.length_append]; have := LH.out; have := LBb.out; omega)
      have KB := Lib.hid (OS.bytes (HS0.out.quiet (Fr.refl _ _).drew) bA bc bs HX.out.rb (fun ad e h0 => by have h1 : ad.block < w.heap.size := HX.out.bb ad e h0; have := HGB.out; omega) (by have := LH.out; omega) (by have h2 : bs.length ≤ 8192 := HBS.out; omega))
      clear HV hl8
      go_wp2_with fail
      refine wp_region_held_drew (S := fun w' => Fr (fun x => v.ownBlock = some x ∨ wr.heap.size ≤ x) wr w') (by kernel_rfl) ((Fr.refl _ _).drew) (fun hHeld => ?_)
      refine wpAnyH_takeD (i := 0) (v := ?_) (some 41) rfl rfl (by kernel_rfl) (by kernel_rfl) (by kernel_rfl) (fun _ _ _ h => h) (Or.inl ⟨by rfl, ?_⟩) (by assumption) ?_
      rotate_left
      · intro w' hSw
        go_simp
        first | done | with_reducible rfl
      try simp only [Act.put, List.setIfInBounds_toArray, List.set_cons_zero, List.set_cons_succ]
      refine wpAnyH_takeD (i := 1) (v := ?_) (some 42) rfl rfl (by kernel_rfl) (by kernel_rfl) (by kernel_rfl) (fun _ _ _ h => h) (Or.inl ⟨by rfl, ?_⟩) (by assumption) ?_
      rotate_left
      · intro w' hSw
        go_simp
        first | done | with_reducible rfl
      try simp only [Act.put, List.setIfInBounds_toArray, List.set_cons_zero, List.set_cons_succ]
      refine wpAnyH_takeD (i := 2) (v := ?_) (some 43) rfl rfl (by kernel_rfl) (by kernel_rfl) (by kernel_rfl) (fun _ _ _ h => h) (Or.inl ⟨by rfl, ?_⟩) (by assumption) ?_
      rotate_left
      · intro w' hSw
        have q1 := (CX.out w' (HS0.out.nb.add (hSw.nb (fun x hx => HS0.out.fm2 x hx)))).cell 8
        simp only [List.getElem?_toArray, List.getElem?_cons_zero, List.getElem?_cons_succ] at q1
        go_simp
        first | done | with_reducible rfl
      try simp only [Act.put, List.setIfInBounds_toArray, List.set_cons_zero, List.set_cons_succ]
      refine wpAnyH_takeD (i := 4) (v := ?_) (some 45) rfl rfl (by kernel_rfl) (by kernel_rfl) (by kernel_rfl) (fun _ _ _ h => h) (Or.inl ⟨by rfl, ?_⟩) (by assumption) ?_
      rotate_left
      · intro w' hSw
        go_simp
        first | done | with_reducible rfl
      try simp only [Act.put, List.setIfInBounds_toArray, List.set_cons_zero, List.set_cons_succ]
      refine wpAnyH_takeD (i := 5) (v := ?_) (some 46) rfl rfl (by kernel_rfl) (by kernel_rfl) (by kernel_rfl) (fun _ _ _ h => h) (Or.inl ⟨by rfl, ?_⟩) (by assumption) ?_
      rotate_left
      · intro w' hSw
        have q1 := (CX.out w' (HS0.out.nb.add (hSw.nb (fun x hx => HS0.out.fm2 x hx)))).cell 9
        simp only [List.getElem?_toArray, List.getElem?_cons_zero, List.getElem?_cons_succ] at q1
        go_simp
        first | done | with_reducible rfl
      try simp only [Act.put, List.setIfInBounds_toArray, List.set_cons_zero, List.set_cons_succ]
      refine wpAnyH_takeD (i := 6) (v := ?_) (some 47) rfl rfl (by kernel_rfl) (by kernel_rfl) (by kernel_rfl) (fun _ _ _ h => h) (Or.inl ⟨by rfl, ?_⟩) (by assumption) ?_
      rotate_left
      · intro w' hSw
        go_simp
        first | done | with_reducible rfl
      try simp only [Act.put, List.setIfInBounds_toArray, List.set_cons_zero, List.set_cons_succ]
      refine wpAnyH_ready (rs := [3]) (by kernel_rfl) (by simp) ?_
      refine AllReadyH.cons rfl (fun K hK => ?_) AllReadyH.nil
      go_simp
      refine KB.out.mono ?_; rintro e w2 ⟨v2, rfl, S2, f2, m2⟩
      try go_simp
      refine hK.out _ _ (hHeld.trans f2 (fun _ _ e => .inl e)) (fun hHeld => ?_)
      clear hK K
      try change wpAnyH _ _ _ _ _ _ _ (Act.put _ (some 44) _) _
      try simp only [Act.put, List.setIfInBounds_toArray, List.set_cons_zero, List.set_cons_succ]
      have K7 := S2.int (ds.length : Int) ⟨by omega, by omega⟩ LB.out
      have HK7 := Lib.hid K7
      clear K7 S2 f2
      refine wpAnyH_ready (rs := [7]) (by kernel_rfl) (by simp) ?_
      refine AllReadyH.cons rfl (fun K hK => ?_) AllReadyH.nil
      go_simp
      refine HK7.out.mono ?_; rintro e w3 ⟨v3, rfl, S3, f3, m3⟩
      try go_simp
      refine hK.out _ _ (hHeld.trans f3 (fun x hx e => by
        rcases m2 with e2 | ⟨y, e2, h2⟩
        · exact .inl (e2.symm.trans e)
        · rw [e2] at e; injection e with e; subst e; exact .inr h2)) (fun hHeld => ?_)
      clear hK K
      try change wpAnyH _ _ _ _ _ _ _ (Act.put _ (some 48) _) _
      try simp only [Act.put, List.setIfInBounds_toArray, List.set_cons_zero, List.set_cons_succ]
      refine wpAnyH_takeD (i := 8) (v := ?_) (some 3) rfl rfl (by kernel_rfl) (by kernel_rfl) (by kernel_rfl) (fun _ _ _ h => h) (Or.inl ⟨by rfl, ?_⟩) (by assumption) ?_
      rotate_left
      · intro w' hSw
        go_simp
        first | done | with_reducible rfl
      try simp only [Act.put, List.setIfInBounds_toArray, List.set_cons_zero, List.set_cons_succ]
      refine wpAnyH_done (by kernel_rfl) ?_ _
      have HS3 := Lib.hid S3
      have HPRE : Hid ((IL.flatMap eI ++ eB bs ++ eI (ds.length : Int)).length ≤ 9000) := Lib.hid (by
        simp only [List.length_append]
        have := LH.out; have := LBb.out; have := LN.out; omega)
      have c9 := (CX.out w3 S3.nb).cell 9
      simp only [List.getElem?_toArray, List.getElem?_cons_zero, List.getElem?_cons_succ] at c9
      clear S3 f3 m3 m2 HK7 KB hHeld HS0
      generalize IL.flatMap eI ++ eB bs ++ eI (ds.length : Int) = PRE at *
      have HDS := Lib.hid (fun k => Nat.le_trans (eDs_len ((ds.map DI.d).take k) (fun d hd => HOK.out.L d (List.mem_of_mem_take hd))) (Nat.mul_le_mul_left 50 (Nat.le_trans (sumD_take _ k) HSUM.out)))
      clear c9
      go_wp2_with fail
      go_loopw [3, 6] (fun v i wr => ∃ k : Nat, k ≤ ds.length ∧ i = .int .i64 k ∧ OS W0 (gb + 2) wr v (PRE ++ eDs ((ds.map DI.d).take k))) (fun _ i _ => ds.length - (intOf i).toNat)
      case atStart => exact ⟨0, Nat.zero_le _, rfl, by simpa [eDs] using HS3.out⟩
      case round =>
        obtain ⟨k, hk, rfl, hv⟩ := hrel
        obtain ⟨v, rfl⟩ : ∃ v, v = u3 := ⟨_, rfl⟩
        have HV := Lib.hid hv
        have c9 := (CX.out wr hv.nb).cell 9
        simp only [List.getElem?_toArray, List.getElem?_cons_zero, List.getElem?_cons_succ] at c9
        clear hv HS3
        by_cases hlt : k < ds.length
        · obtain ⟨b, o, rfl, hat⟩ := (show DsAt wr (fun k => k < w.heap.size) lA ds from HX.out.ds.fr (w' := wr) HV.out.nb (fun z (hz : z < w.heap.size) h => by have := HGB.out; omega)).at_ hlt
          have hdl : (ds.map DI.d).getD k default = (ds.getD k default).d := by simp [List.getD, hlt]
          have hmem : (ds.getD k default).d ∈ ds.map DI.d := by rw [show ds.getD k default = ds[k] by simp [List.getD, hlt]]; exact List.mem_map_of_mem (List.getElem_mem _)
          have hdok := HOK.out.L _ hmem
          have hdsum : (ds.getD k default).d.bs.length + 1 ≤ 8192 := Nat.le_trans (sumD_mem hmem) HSUM.out
          have ST : Hid (eDs ((ds.map DI.d).take (k + 1)) = eDs ((ds.map DI.d).take k) ++ eD (ds.getD k default).d) := Lib.hid (by rw [take_succ_getD (by simpa using hlt), hdl]; simp [eDs])
          have HRB := Lib.hid (show Rd8 W0 (ds.getD k default).A (ds.getD k default).d.bs from by
            obtain ⟨b', o', e', hat'⟩ := HX.out.ds.at_ hlt
            exact hat'.rb)
          have HBB := Lib.hid hat.bb
          obtain ⟨q0, q1, q2, q3, q4⟩ : _ ∧ _ ∧ _ ∧ _ ∧ _ := ⟨hat.c0, hat.c1, hat.c2, hat.c3, hat.c4⟩
          have HDOK := Lib.hid hdok
          have LP : Hid (PRE.length + (eDs ((ds.map DI.d).take k)).length ≤ 500000) := Lib.hid (by have := HDS.out k; have := HPRE.out; omega)
          have L4 : Hid ((eI (ds.getD k default).d.k).length ≤ 10 ∧ (eI (ds.getD k default).d.i).length ≤ 10 ∧ (eI (ds.getD k default).d.l).length ≤ 10 ∧ (eI (ds.getD k default).d.n).length ≤ 10) := Lib.hid ⟨eI_len _ hdok.k, eI_len _ hdok.i, eI_len _ hdok.l, eI_len _ hdok.n⟩
          clear hat hdl hmem hdok
          have hk0 : (0 : Int) ≤ (k : Int) := by omega
          have hk1 : (k : Int) < (ds.length : Int) := by omega
          generalize ds.getD k default = p at *
          obtain ⟨Wd, hWd⟩ : ∃ Wd, wr.alloc (.cells #[.int .i64 p.d.k, .int .i64 p.d.i, .int .i64 p.d.l, .int .i64 p.d.n, .slice p.A p.d.bs.length p.c] 30) = Wd := ⟨_, rfl⟩
          obtain ⟨gd, hgd⟩ : ∃ gd, wr.heap.size = gd := ⟨_, rfl⟩
          have bD : Bk Wd gd 30 #[.int .i64 p.d.k, .int .i64 p.d.i, .int .i64 p.d.l, .int .i64 p.d.n, .slice p.A p.d.bs.length p.c] := by rw [← hWd, ← hgd]; exact Bk.new _ _ _
          have fD : Fr (fun _ => False) wr Wd := by rw [← hWd]; exact (Fr.refl _ _).alloc _
          have SD := Lib.hid (OS.quiet (HV.out.quiet fD) (Fr.refl _ _).drew)
          have ngd : ¬ (v.ownBlock = some gd ∨ gd + 1 ≤ gd) := fun h => by
            rcases h with h | h
            · have := HV.out.own.lt h; omega
            · omega
          have BD := Lib.hid (fun w' (hf : Fr (fun x => v.ownBlock = some x ∨ gd + 1 ≤ x) Wd w') => bD.fr hf ngd)
          have HSD := Lib.hid (show gd + 1 ≤ Wd.heap.size from by have := bD.lt; omega)
          clear bD fD ngd
          go_wp2_with fail
          clear hWd hgd q0 q1 q2 q3 q4 c9
          refine wp_region_held_drew (S := fun w' => Fr (fun x => v.ownBlock = some x ∨ gd + 1 ≤ x) Wd w') (by kernel_rfl) ((Fr.refl _ _).drew) (fun hHeld => ?_)
          refine wpAnyH_takeD (i := 0) (v := ?_) (some 61) rfl rfl (by kernel_rfl) (by kernel_rfl) (by kernel_rfl) (fun _ _ _ h => h) (Or.inl ⟨by rfl, ?_⟩) (by assumption) ?_
          rotate_left
          · intro w' hSw
            go_simp
            first | done | with_reducible rfl
          try simp only [Act.put, List.setIfInBounds_toArray, List.set_cons_zero, List.set_cons_succ]
          refine wpAnyH_takeD (i := 1) (v := ?_) (some 62) rfl rfl (by kernel_rfl) (by kernel_rfl) (by kernel_rfl) (fun _ _ _ h => h) (Or.inl ⟨by rfl, ?_⟩) (by assumption) ?_
          rotate_left
          · intro w' hSw
            go_simp
            first | done | with_reducible rfl
          try simp only [Act.put, List.setIfInBounds_toArray, List.set_cons_zero, List.set_cons_succ]
          refine wpAnyH_takeD (i := 2) (v := ?_) (some 63) rfl rfl (by kernel_rfl) (by kernel_rfl) (by kernel_rfl) (fun _ _ _ h => h) (Or.inl ⟨by rfl, ?_⟩) (by assumption) ?_
          rotate_left
          · intro w' hSw
            have q1 := (BD.out w' hSw).cell 0
            simp only [List.getElem?_toArray, List.getElem?_cons_zero, List.getElem?_cons_succ] at q1
            go_simp
            first | done | with_reducible rfl
          try simp only [Act.put, List.setIfInBounds_toArray, List.set_cons_zero, List.set_cons_succ]
          refine wpAnyH_takeD (i := 4) (v := ?_) (some 65) rfl rfl (by kernel_rfl) (by kernel_rfl) (by kernel_rfl) (fun _ _ _ h => h) (Or.inl ⟨by rfl, ?_⟩) (by assumption) ?_
          rotate_left
          · intro w' hSw
            go_simp
            first | done | with_reducible rfl
          try simp only [Act.put, List.setIfInBounds_toArray, List.set_cons_zero, List.set_cons_succ]
          refine wpAnyH_takeD (i := 5) (v := ?_) (some 66) rfl rfl (by kernel_rfl) (by kernel_rfl) (by kernel_rfl) (fun _ _ _ h => h) (Or.inl ⟨by rfl, ?_⟩) (by assumption) ?_
          rotate_left
          · intro w' hSw
            have q1 := (BD.out w' hSw).cell 1
            simp only [List.getElem?_toArray, List.getElem?_cons_zero, List.getElem?_cons_succ] at q1
            go_simp
            first | done | with_reducible rfl
          try simp only [Act.put, List.setIfInBounds_toArray, List.set_cons_zero, List.set_cons_succ]
          refine wpAnyH_takeD (i := 7) (v := ?_) (some 68) rfl rfl (by kernel_rfl) (by kernel_rfl) (by kernel_rfl) (fun _ _ _ h => h) (Or.inl ⟨by rfl, ?_⟩) (by assumption) ?_
          rotate_left
          · intro w' hSw
            go_simp
            first | done | with_reducible rfl
          try simp only [Act.put, List.setIfInBounds_toArray, List.set_cons_zero, List.set_cons_succ]
          refine wpAnyH_takeD (i := 8) (v := ?_) (some 69) rfl rfl (by kernel_rfl) (by kernel_rfl) (by kernel_rfl) (fun _ _ _ h => h) (Or.inl ⟨by rfl, ?_⟩) (by assumption) ?_
          rotate_left
          · intro w' hSw
            have q1 := (BD.out w' hSw).cell 2
            simp only [List.getElem?_toArray, List.getElem?_cons_zero, List.getElem?_cons_succ] at q1
            go_simp
            first | done | with_reducible rfl
          try simp only [Act.put, List.setIfInBounds_toArray, List.set_cons_zero, List.set_cons_succ]
          refine wpAnyH_takeD (i := 10) (v := ?_) (some 71) rfl rfl (by kernel_rfl) (by kernel_rfl) (by kernel_rfl) (fun _ _ _ h => h) (Or.inl ⟨by rfl, ?_⟩) (by assumption) ?_
          rotate_left
          · intro w' hSw
            go_simp
            first | done | with_reducible rfl
          try simp only [Act.put, List.setIfInBounds_toArray, List.set_cons_zero, List.set_cons_succ]
          refine wpAnyH_takeD (i := 11) (v := ?_) (some 72) rfl rfl (by kernel_rfl) (by kernel_rfl) (by kernel_rfl) (fun _ _ _ h => h) (Or.inl ⟨by rfl, ?_⟩) (by assumption) ?_
          rotate_left
          · intro w' hSw
            have q1 := (BD.out w' hSw).cell 3
            simp only [List.getElem?_toArray, List.getElem?_cons_zero, List.getElem?_cons_succ] at q1
            go_simp
            first | done | with_reducible rfl
          try simp only [Act.put, List.setIfInBounds_toArray, List.set_cons_zero, List.set_cons_succ]
          refine wpAnyH_takeD (i := 13) (v := ?_) (some 74) rfl rfl (by kernel_rfl) (by kernel_rfl) (by kernel_rfl) (fun _ _ _ h => h) (Or.inl ⟨by rfl, ?_⟩) (by assumption) ?_
          rotate_left
          · intro w' hSw
            go_simp
            first | done | with_reducible rfl
          try simp only [Act.put, List.setIfInBounds_toArray, List.set_cons_zero, List.set_cons_succ]
          refine wpAnyH_takeD (i := 14) (v := ?_) (some 75) rfl rfl (by kernel_rfl) (by kernel_rfl) (by kernel_rfl) (fun _ _ _ h => h) (Or.inl ⟨by rfl, ?_⟩) (by assumption) ?_
          rotate_left
          · intro w' hSw
            have q1 := (BD.out w' hSw).cell 4
            simp only [List.getElem?_toArray, List.getElem?_cons_zero, List.getElem?_cons_succ] at q1
            go_simp
            first | done | with_reducible rfl
          try simp only [Act.put, List.setIfInBounds_toArray, List.set_cons_zero, List.set_cons_succ]
          have VB0 : ∀ k, v.ownBlock = some k → v.ownBlock = some k ∨ gd + 1 ≤ k := fun k e => .inl e
          have K0 := Lib.hid (SD.out.int p.d.k HDOK.out.k (by simp only [List.length_append]; have := LP.out; have := L4.out; omega))
          have HSZ0 := hHeld.size
          refine wpAnyH_ready (rs := [3]) (by kernel_rfl) (by simp) ?_
          refine AllReadyH.cons rfl (fun K hK => ?_) AllReadyH.nil
          go_simp
          refine K0.out.mono ?_; rintro e x1 ⟨u1, rfl, S1, f1, m1⟩
          try go_simp
          refine hK.out _ _ (hHeld.trans f1 (fun k _ e => VB0 k e)) (fun hHeld => ?_)
          clear hK K
          try change wpAnyH _ _ _ _ _ _ _ (Act.put _ (some 64) _) _
          try simp only [Act.put, List.setIfInBounds_toArray, List.set_cons_zero, List.set_cons_succ]
          have VB1 : ∀ k, u1.ownBlock = some k → v.ownBlock = some k ∨ gd + 1 ≤ k := fun k e => by
            rcases m1 with e2 | ⟨y, e2, h2⟩
            · exact VB0 k (e2.symm.trans e)
            · rw [e2] at e; injection e with e; have := HSD.out; first | omega | (simp at h2; omega)
          clear K0 f1 m1 VB0
          have K1 := Lib.hid (S1.int p.d.i HDOK.out.i (by simp only [List.length_append]; have := LP.out; have := L4.out; omega))
          clear S1
          have HSZ1 := hHeld.size
          refine wpAnyH_ready (rs := [6]) (by kernel_rfl) (by simp) ?_
          refine AllReadyH.cons rfl (fun K hK => ?_) AllReadyH.nil
          go_simp
          refine K1.out.mono ?_; rintro e x2 ⟨u2, rfl, S2, f2, m2⟩
          try go_simp
          refine hK.out _ _ (hHeld.trans f2 (fun k _ e => VB1 k e)) (fun hHeld => ?_)
          clear hK K
          try change wpAnyH _ _ _ _ _ _ _ (Act.put _ (some 67) _) _
          try simp only [Act.put, List.setIfInBounds_toArray, List.set_cons_zero, List.set_cons_succ]
          have VB2 : ∀ k, u2.ownBlock = some k → v.ownBlock = some k ∨ gd + 1 ≤ k := fun k e => by
            rcases m2 with e2 | ⟨y, e2, h2⟩
            · exact VB1 k (e2.symm.trans e)
            · rw [e2] at e; injection e with e; have := HSD.out; first | omega | (simp at h2; omega)
          clear K1 f2 m2 VB1
          have K2 := Lib.hid (S2.int p.d.l HDOK.out.l (by simp only [List.length_append]; have := LP.out; have := L4.out; omega))
          clear S2
          have HSZ2 := hHeld.size
          refine wpAnyH_ready (rs := [9]) (by kernel_rfl) (by simp) ?_
          refine AllReadyH.cons rfl (fun K hK => ?_) AllReadyH.nil
          go_simp
          refine K2.out.mono ?_; rintro e x3 ⟨u3, rfl, S3, f3, m3⟩
          try go_simp
          refine hK.out _ _ (hHeld.trans f3 (fun k _ e => VB2 k e)) (fun hHeld => ?_)
          clear hK K
          try change wpAnyH _ _ _ _ _ _ _ (Act.put _ (some 70) _) _
          try simp only [Act.put, List.setIfInBounds_toArray, List.set_cons_zero, List.set_cons_succ]
          have VB3 : ∀ k, u3.ownBlock = some k → v.ownBlock = some k ∨ gd + 1 ≤ k := fun k e => by
            rcases m3 with e2 | ⟨y, e2, h2⟩
            · exact VB2 k (e2.symm.trans e)
            · rw [e2] at e; injection e with e; have := HSD.out; first | omega | (simp at h2; omega)
          clear K2 f3 m3 VB2
          have K3 := Lib.hid (S3.int p.d.n HDOK.out.n (by simp only [List.length_append]; have := LP.out; have := L4.out; omega))
          clear S3
          have HSZ3 := hHeld.size
          refine wpAnyH_ready (rs := [12]) (by kernel_rfl) (by simp) ?_
          refine AllReadyH.cons rfl (fun K hK => ?_) AllReadyH.nil
          go_simp
          refine K3.out.mono ?_; rintro e x4 ⟨u4, rfl, S4, f4, m4⟩
          try go_simp
          refine hK.out _ _ (hHeld.trans f4 (fun k _ e => VB3 k e)) (fun hHeld => ?_)
          clear hK K
          try change wpAnyH _ _ _ _ _ _ _ (Act.put _ (some 73) _) _
          try simp only [Act.put, List.setIfInBounds_toArray, List.set_cons_zero, List.set_cons_succ]
          have VB4 : ∀ k, u4.ownBlock = some k → v.ownBlock = some k ∨ gd + 1 ≤ k := fun k e => by
            rcases m4 with e2 | ⟨y, e2, h2⟩
            · exact VB3 k (e2.symm.trans e)
            · rw [e2] at e; injection e with e; have := HSD.out; first | omega | (simp at h2; omega)
          clear K3 f4 m4 VB3
          have K4 := Lib.hid (S4.bytes p.A p.c p.d.bs HRB.out (fun ad e h0 => by have := HBB.out ad e h0; have := HGB.out; omega) (by simp only [List.length_append]; have := LP.out; have := L4.out; omega) (by omega))
          clear S4
          have HSZ4 := hHeld.size
          refine wpAnyH_ready (rs := [15]) (by kernel_rfl) (by simp) ?_
          refine AllReadyH.cons rfl (fun K hK => ?_) AllReadyH.nil
          go_simp
          refine K4.out.mono ?_; rintro e x5 ⟨u5, rfl, S5, f5, m5⟩
          try go_simp
          refine hK.out _ _ (hHeld.trans f5 (fun k _ e => VB4 k e)) (fun hHeld => ?_)
          clear hK K
          try change wpAnyH _ _ _ _ _ _ _ (Act.put _ (some 76) _) _
          try simp only [Act.put, List.setIfInBounds_toArray, List.set_cons_zero, List.set_cons_succ]
          have VB5 : ∀ k, u5.ownBlock = some k → v.ownBlock = some k ∨ gd + 1 ≤ k := fun k e => by
            rcases m5 with e2 | ⟨y, e2, h2⟩
            · exact VB4 k (e2.symm.trans e)
            · rw [e2] at e; injection e with e; have := HSD.out; first | omega | (simp at h2; omega)
          clear K4 f5 m5 VB4
          refine wpAnyH_takeD (i := 16) (v := ?_) (some 3) rfl rfl (by kernel_rfl) (by kernel_rfl) (by kernel_rfl) (fun _ _ _ h => h) (Or.inl ⟨by rfl, ?_⟩) (by assumption) ?_
          rotate_left
          · intro w' hSw
            go_simp
            first | done | with_reducible rfl
          try simp only [Act.put, List.setIfInBounds_toArray, List.set_cons_zero, List.set_cons_succ]
          refine wpAnyH_done (by kernel_rfl) ?_ _
          have HS5 := Lib.hid S5
          clear S5 hHeld VB5 BD SD HSD HRB HBB HDOK LP L4 hdsum
          go_wp2
          go_roundw
          case rel => exact ⟨k + 1, by omega, by go_num, by
            rw [ST.out]
            have := HS5.out
            unfold eD
            simpa [List.append_assoc] using this⟩
          case measure => simp [intOf]; omega
        · obtain rfl : k = ds.length := by omega
          have FIN : Hid (∃ A' c', v = .slice A' OUT.length c' ∧ Own8 wr 5 (.slice A' OUT.length c') OUT) := Lib.hid (by
            have hv := HV.out.own
            rw [List.take_of_length_le (by simp), ← HOUT.out] at hv
            rcases hv.form with ⟨e1, e2⟩ | ⟨g, cap, e1, _, _⟩
            · rw [e2] at hv ⊢; exact ⟨none, 0, e1, by rw [e1] at hv; exact hv⟩
            · exact ⟨_, _, e1, by rw [← e1]; exact hv⟩)
          have HNB := Lib.hid HV.out.nb
          clear HV
          obtain ⟨A', c', rfl, hown⟩ := FIN.out
          have HO := Lib.hid hown
          clear hown FIN
          go_wp2
          go_ret
          exact ⟨A', c', rfl, HO.out, HFW.out.trans HNB.out (fun z hz h => by have := HGB.out; omega)⟩
end Go.Proofs.YtblfnbmgijppmaaDoor
