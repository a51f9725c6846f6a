/- DrawsAlarms: the walk. -/
import Derived.Test.YtholaofgdahcbaaWm
import Derived.Test.YtholaofgdahcbaaTf
namespace Go.Proofs.Ytholaofgdahcbaa
open Go.RowKit Go.Maps

/-- A slice that reads as ints. -/
def RdI (w : World) (A : Option Addr) (xs : List Int) : Prop :=
  0 < xs.length → ∃ ad, A = some ad ∧ ad.spot = none ∧ ∀ j (h : j < xs.length), w.cell? ⟨ad.block, ad.off + j, none⟩ = some (.int .i64 xs[j])
theorem RdI.fr {S : Nat → Prop} {w w' : World} {A : Option Addr} {xs : List Int} (h : RdI w A xs) (hb : Fr S w w') (hS : ∀ ad, A = some ad → 0 < xs.length → ¬ S ad.block) (hlt : ∀ ad, A = some ad → 0 < xs.length → ad.block < w.heap.size) : RdI w' A xs := fun h0 => by
  obtain ⟨ad, e, hsp, hc⟩ := h h0
  exact ⟨ad, e, hsp, fun j hj => (hb.cell (p := ⟨ad.block, ad.off + j, none⟩) (hlt ad e h0) (hS ad e h0)).trans (hc j hj)⟩
theorem SlI.rd {w : World} {v : Value} {ys : List Int} (h : SlI w v ys) : ∃ A cap, v = .slice A ys.length cap ∧ RdI w A ys ∧ ∀ ad, A = some ad → v.ownBlock = some ad.block ∧ ad.block < w.heap.size := by
  rcases h with ⟨rfl, rfl⟩ | ⟨d, cap, cur, rfl, hb, hc⟩
  · exact ⟨none, 0, rfl, fun h => by simp at h, fun ad e => by cases e⟩
  · refine ⟨some ⟨d, 0, none⟩, cap, rfl, fun _ => ⟨_, rfl, rfl, fun j hj => ?_⟩, fun ad e => ?_⟩
    · rw [Nat.zero_add]; exact (hb.cell j).trans (hc j hj)
    · injection e with e; subst e; exact ⟨rfl, hb.lt⟩

theorem dels_at (D : DataW Unit) (ys : List Int) (x : Int) (z : DataW Unit) : (dels D ys).atKey (.int .i64 x) z = if x ∈ ys then z else D.atKey (.int .i64 x) z := by
  induction ys generalizing D with
  | nil => simp [dels]
  | cons y r ih =>
    show (dels (D.del (.int .i64 y)) r).atKey (.int .i64 x) z = _
    rw [ih]
    by_cases h : x = y
    · subst h; simp [atKey_del_same]
    · rw [atKey_del_other (by simpa using h)]; simp [h]
theorem dels_has (D : DataW Unit) (ys : List Int) (x : Int) : has (dels D ys) (.int .i64 x) = (has D (.int .i64 x) && !decide (x ∈ ys)) := by
  induction ys generalizing D with
  | nil => simp [dels]
  | cons y r ih =>
    show has (dels (D.del (.int .i64 y)) r) (.int .i64 x) = _
    rw [ih]
    by_cases h : x = y
    · subst h; simp [has_del_same]
    · rw [has_del_other (by simpa using h)]; simp [h]
theorem dels_map {D : DataW Unit} (h : IsMap D) (ys : List Int) : IsMap (dels D ys) := by
  induction ys generalizing D with
  | nil => exact h
  | cons y r ih => exact ih (h.del _)
theorem dels_tick (D : DataW Unit) (ys : List Int) {x : Int} (h : x ∉ ys) : tickOf (dels D ys) x = tickOf D x := by unfold tickOf; rw [dels_at, if_neg h]
theorem put_tick {D : DataW Unit} (h : IsMap D) (x y v : Int) : tickOf (D.put (.int .i64 y) (.lit (.int .i64 v))) x = if x = y then v else tickOf D x := by
  unfold tickOf
  by_cases e : x = y
  · subst e; rw [atKey_put_same h (key_int x)]; simp
  · rw [atKey_put_other (by simpa using e)]; simp [e]
theorem put_has {D : DataW Unit} (h : IsMap D) (x y v : Int) : has (D.put (.int .i64 y) (.lit (.int .i64 v))) (.int .i64 x) = (decide (x = y) || has D (.int .i64 x)) := by
  by_cases e : x = y
  · subst e; rw [has_put_same h (key_int x)]; simp
  · rw [has_put_other (by simpa using e)]; simp [e]
theorem del_has (D : DataW Unit) (x y : Int) : has (D.del (.int .i64 y)) (.int .i64 x) = (!decide (x = y) && has D (.int .i64 x)) := by
  by_cases e : x = y
  · subst e; rw [has_del_same]; simp
  · rw [has_del_other (by simpa using e)]; simp [e]
theorem del_tick (D : DataW Unit) {x y : Int} (e : x ≠ y) : tickOf (D.del (.int .i64 y)) x = tickOf D x := by unfold tickOf; rw [atKey_del_other (by simpa using e)]

/-- The clock's alarms and the law's own. -/
structure AL (xs : List Int) (i : Nat) (Dc Ds : DataW Unit) : Prop where
  same : ∀ x, has Dc (.int .i64 x) = has Ds (.int .i64 x)
  tick : ∀ x, has Ds (.int .i64 x) = true → ∃ k : Nat, x = (k : Int) ∧ k < i ∧ tickOf Dc x = xs.getD k 0 ∧ tickOf Ds x = xs.getD k 0
  mc : IsMap Dc
  ms : IsMap Ds
section
variable {xs : List Int} {i : Nat} {Dc Ds : DataW Unit}
theorem AL.start (xs : List Int) : AL xs 0 (.map []) (.map []) := ⟨fun _ => rfl, fun x h => by simp [has] at h, ⟨_, rfl⟩, ⟨_, rfl⟩⟩
theorem AL.skip (h : AL xs i Dc Ds) : AL xs (i + 1) Dc Ds := ⟨h.same, fun x hx => by obtain ⟨k, h1, h2, h3⟩ := h.tick x hx; exact ⟨k, h1, by omega, h3⟩, h.mc, h.ms⟩
theorem AL.put (h : AL xs i Dc Ds) : AL xs (i + 1) (Dc.put (.int .i64 (i : Int)) (.lit (.int .i64 (xs.getD i 0)))) (Ds.put (.int .i64 (i : Int)) (.lit (.int .i64 (xs.getD i 0)))) := by
  refine ⟨fun x => by rw [put_has h.mc, put_has h.ms, h.same], fun x hx => ?_, h.mc.put _ _, h.ms.put _ _⟩
  rw [put_has h.ms] at hx
  rw [put_tick h.mc, put_tick h.ms]
  by_cases e : x = (i : Int)
  · exact ⟨i, e, by omega, by rw [if_pos e], by rw [if_pos e]⟩
  · rw [if_neg e, if_neg e]
    obtain ⟨k, h1, h2, h3⟩ := h.tick x (by simpa [e] using hx)
    exact ⟨k, h1, by omega, h3⟩
theorem AL.del (h : AL xs i Dc Ds) : AL xs (i + 1) (Dc.del (.int .i64 (i : Int))) Ds := by
  have hi : has Ds (.int .i64 (i : Int)) = false := by
    cases e : has Ds (.int .i64 (i : Int))
    · rfl
    · obtain ⟨k, h1, h2, _⟩ := h.tick _ e
      omega
  refine ⟨fun x => ?_, fun x hx => ?_, h.mc.del _, h.ms⟩
  · rw [del_has, h.same]
    by_cases e : x = (i : Int)
    · subst e; simp [hi]
    · simp [e]
  · obtain ⟨k, h1, h2, h3, h4⟩ := h.tick x hx
    exact ⟨k, h1, by omega, by rw [del_tick _ (by omega)]; exact h3, h4⟩
theorem AL.dels (h : AL xs i Dc Ds) (ys : List Int) : AL xs i (dels Dc ys) (dels Ds ys) := by
  refine ⟨fun x => by rw [dels_has, dels_has, h.same], fun x hx => ?_, dels_map h.mc _, dels_map h.ms _⟩
  rw [dels_has] at hx
  have hx' : has Ds (.int .i64 x) = true ∧ x ∉ ys := by simpa using hx
  rw [dels_tick _ _ hx'.2, dels_tick _ _ hx'.2]
  exact h.tick x hx'.1
end

set_option maxHeartbeats 1000000 in
theorem set0_any (A : Option Addr) (c n k : Nat) (xs : List Int) (w : World) (h : RdI w A xs) (hl : xs.length = n) (hn : (n : Int) ≤ 1000000) (hk : k < n) :
    Calls Try.prog 18 #[.slice A n c, .int .i64 (k : Int)] w fun e w' => e = .returned (.int .i64 (xs.getD k 0)) ∧ w' = w := by
  obtain ⟨⟨b, o, sp⟩, rfl, hsp, hc⟩ := h (by omega)
  simp only at hsp
  subst hsp
  have m0 := hc k (by omega)
  simp only at m0
  have hg : xs.getD k 0 = xs[k]'(by omega) := by simp [List.getD, hl, hk]
  rw [hg]
  have hkz : (k : Int) < (n : Int) := by omega
  have hk0 : ¬ (k : Int) < 0 := by omega
  have hk1 : ¬ (n : Int) ≤ (k : Int) := by omega
  have hk2 : decide ((k : Int) ≥ (n : Int)) = false := decide_eq_false (by omega)
  generalize xs[k]'(by omega) = v at *
  clear hc h hl hg
  go_enter Try.func18, Try.ntmps18
  go_wp2
  go_ret
  exact ⟨rfl, rfl⟩

set_option maxRecDepth 100000 in
set_option maxHeartbeats 8000000 in
theorem alarms_any (A0 A1 : Option Addr) (n0 c0 n1 c1 : Nat) (xs ss : List Int) (w : World) (r0 : RdI w A0 xs) (r1 : RdI w A1 ss) (l0 : xs.length = n0) (l1 : ss.length = n1) (hx64 : ∀ x ∈ xs, I64 x) (hs64 : ∀ x ∈ ss, I64 x)
    (b0 : ∀ ad, A0 = some ad → 0 < n0 → ad.block < w.heap.size) (b1 : ∀ ad, A1 = some ad → 0 < n1 → ad.block < w.heap.size) (hn0 : (n0 : Int) ≤ 9223372036854775807) (hn1 : (n1 : Int) ≤ 9223372036854775807) :
    Calls Try.prog 4 #[.slice A0 n0 c0, .slice A1 n1 c1] w fun e w' => e = .returned (.bool true) ∧ Fr (fun _ => False) w w' := by
  have hmm := @run_makeMap Try.prog
  have HR0 := Lib.hid r0
  have HR1 := Lib.hid r1
  have HL0 := Lib.hid l0
  have HL1 := Lib.hid l1
  have HX64 := Lib.hid hx64
  have HS64 := Lib.hid hs64
  have HB0 := Lib.hid b0
  have HB1 := Lib.hid b1
  clear r0 r1 l0 l1 hx64 hs64 b0 b1
  go_enter Try.func4, Try.ntmps4
  go_wp2_with fail
  refine (known_any w).mono ?_; rintro e w1 ⟨rfl, hf1⟩
  have HF1 := Lib.hid hf1
  clear hf1
  by_cases h100 : 100 < n0
  · have h100z : (100 : Int) < (n0 : Int) := by omega
    have h100d : decide ((n0 : Int) > 100) = true := decide_eq_true h100z
    go_wp2
    go_ret
    exact ⟨rfl, HF1.out⟩
  have h100z : ¬ (100 : Int) < (n0 : Int) := by omega
  have h100d : decide ((n0 : Int) > 100) = false := decide_eq_false h100z
  by_cases h101 : 100 < n1
  · have h101z : (100 : Int) < (n1 : Int) := by omega
    have h101d : decide ((n1 : Int) > 100) = true := decide_eq_true h101z
    go_wp2
    go_ret
    exact ⟨rfl, HF1.out⟩
  have h101z : ¬ (100 : Int) < (n1 : Int) := by omega
  have h101d : decide ((n1 : Int) > 100) = false := decide_eq_false h101z
  go_wp2_with fail
  refine (newClock_any w1).mono ?_; rintro e w2 ⟨rfl, hw2⟩
  obtain ⟨g, hg⟩ : ∃ g, w1.heap.size = g := ⟨_, rfl⟩
  have hc2 : Clk w2 g 0 none 0 (.map []) := by rw [hw2, ← hg]; exact clk_new w1 0
  have hf2 : Fr (fun _ => False) w w2 := by rw [hw2]; exact HF1.out.trans ((Fr.refl _ _).alloc _) (fun _ _ h => h)
  have hgw : w.heap.size ≤ g := by rw [← hg]; exact HF1.out.size
  obtain ⟨s, hs⟩ : ∃ s, w2.heap.size = s := ⟨_, rfl⟩
  have hgs : g < s := by rw [← hs]; exact hc2.1.lt
  obtain ⟨w3, hw3⟩ : ∃ W, w2.alloc (.map #[] 0) = W := ⟨_, rfl⟩
  have hc3 : Clk w3 g 0 none 0 (.map []) := by rw [← hw3]; exact hc2.fr ((Fr.refl (fun _ => False) _).alloc _) (fun _ _ h => h)
  have hm3 : AM w3 s 0 (.map []) := by rw [← hw3, ← hs]; exact World.ownsMap_made _ _ _ _
  have hf3 : Fr (fun _ => False) w w3 := by rw [← hw3]; exact hf2.alloc _
  have HC3 := Lib.hid hc3
  have HM3 := Lib.hid hm3
  have HF3 := Lib.hid hf3
  rw [hg]
  clear hc2 hf2 hc3 hm3 hf3 hw2 HF1
  go_wp2
  clear hg hs hw3
  go_loopw [7] (fun vi wr => ∃ (i nc : Nat) (m : Option Nat) (Dc Ds : DataW Unit), vi = .int .i64 i ∧ i ≤ n0 ∧ nc ≤ i ∧ Hid (Clk wr g 0 m nc Dc) ∧ Hid (∀ b, m = some b → w.heap.size ≤ b ∧ b ≠ s) ∧ Hid (AM wr s i Ds) ∧ Hid (AL xs i Dc Ds) ∧ Hid (Fr (fun _ => False) w wr)) (fun vi _ => n0 - (intOf vi).toNat)
  case atStart => exact ⟨0, 0, none, _, _, rfl, Nat.zero_le _, Nat.le_refl _, HC3, Lib.hid (fun b e => by cases e), HM3, Lib.hid (AL.start xs), HF3⟩
  case round =>
    obtain ⟨i, nc, m, Dc, Ds, rfl, hi1, hnc, HC, HMB, HM, HAL, HF⟩ := hrel
    clear HC3 HM3 HF3
    by_cases hlt : i < n0
    · have hltz : (i : Int) < (n0 : Int) := by omega
      have hR := HR0.out.fr HF.out (fun _ _ _ h => h) (fun ad e h => HB0.out ad e (by have := HL0.out; omega))
      obtain ⟨⟨bA, oA, sp⟩, hA, hsp, hcell⟩ := hR (by have := HL0.out; omega)
      simp only at hsp
      subst hsp
      have m0 := hcell i (by have := HL0.out; omega)
      simp only at m0
      have hx := HX64.out (xs[i]'(by have := HL0.out; omega)) (List.getElem_mem _)
      have HGD := Lib.hid (show xs.getD i 0 = xs[i]'(by have := HL0.out; omega) from by have := HL0.out; simp [List.getD, this, hlt])
      obtain ⟨x, hxe⟩ : ∃ x, xs[i]'(by have := HL0.out; omega) = x := ⟨_, rfl⟩
      rw [hxe] at m0 hx HGD
      have HA := Lib.hid hA
      have hltB : bA < w.heap.size := HB0.out _ hA (by omega)
      clear hR hcell hxe
      subst hA
      have hi64 : I64 (i : Int) := ⟨by omega, by omega⟩
      have HI64 := Lib.hid hi64
      have HX := Lib.hid hx
      by_cases hbig : 1000 < x
      · go_wp2
        try simp only [Exit.inBlock, Exit.then]
        go_wp2
        go_roundw
        case rel => exact ⟨i + 1, nc, m, Dc, Ds, by go_num, by omega, by omega, HC, HMB, Lib.hid (World.ownsMap.mono HM.out (by omega)), Lib.hid HAL.out.skip, HF⟩
        case measure => simp [intOf]; omega
      · have hbig' : x ≤ 1000 := by omega
        have hbigd : decide (x > 1000) = false := decide_eq_false hbig
        clear hx hi64
        go_wp2_with fail
        refine (set_any g 0 (i : Int) x m nc Dc wr HC.out HI64.out HX.out (by omega)).mono ?_
        rintro e w4 ⟨rfl, m', hto⟩
        obtain ⟨hck, hfr, hmm'⟩ := hto
        have hsz4 : wr.heap.size ≤ w4.heap.size := hfr.size
        have hM4 : AM w4 s i Ds := HM.out.fr hfr (fun e => by
          rcases e with e | e
          · omega
          · exact (HMB.out _ e).2 rfl)
        have hF4 : Fr (fun _ => False) w w4 := HF.out.trans hfr (fun y hy e => by
          rcases e with e | e
          · omega
          · have := (HMB.out _ e).1; omega)
        have hMB4 : ∀ b, m' = some b → w.heap.size ≤ b ∧ b ≠ s := fun b e => by
          rcases hmm' with h | ⟨b', h, hb'⟩
          · exact HMB.out b (by rw [← h]; exact e)
          · rw [h] at e; injection e with e; subst e
            have h1 := HF.out.size
            have h2 := HM.out.lt
            exact ⟨by omega, by omega⟩
        have HM4 := Lib.hid hM4
        have HF4 := Lib.hid hF4
        have HMB4 := Lib.hid hMB4
        clear hfr hmm' hsz4 hF4 hMB4 HMB HF HC
        cases hB : setB 0 x
        · have HCK := Lib.hid (show Clk w4 g 0 m' (nc + 1) (Dc.del (.int .i64 (i : Int))) from by have := hck; unfold setD at this; rw [hB] at this; simpa using this)
          clear hck hB hM4 HM m0
          go_wp2
          go_roundw
          case rel => exact ⟨i + 1, nc + 1, m', _, Ds, by go_num, by omega, by omega, HCK, HMB4, Lib.hid (World.ownsMap.mono HM4.out (by omega)), Lib.hid HAL.out.del, HF4⟩
          case measure => simp [intOf]; omega
        · have HCK := Lib.hid (show Clk w4 g 0 m' (nc + 1) (Dc.put (.int .i64 (i : Int)) (.lit (.int .i64 x))) from by have := hck; unfold setD at this; rw [hB] at this; simpa using this)
          have m0 : w4.cell? ⟨bA, oA + i, none⟩ = some (.int .i64 x) := by
            have hR := HR0.out.fr HF4.out (fun _ _ _ h => h) (fun ad e h => HB0.out ad e (by have := HL0.out; omega))
            obtain ⟨ad, hA, hsp, hcell⟩ := hR (by have := HL0.out; omega)
            injection hA with hA; subst hA
            rw [← HGD.out]
            have h1 := hcell i (by have := HL0.out; omega)
            rw [h1]
            have := HL0.out
            simp [List.getD, this, hlt]
          have hown := HM4.out
          clear hck hB hM4 HM
          go_wp2_with (at_mapUpdate; refine wpList_mapUpdate_own _ rfl _ _ _ 41 rfl 3 3 kInt Try.underlying41 _ s i _ rfl hown (by unfold maxLen; omega) _ _ _ rfl rfl HI64.out.key _ [] (plainElem_int (H := Unit) Try.underlying3 HX.out.wf) ?_; intro w5 hown5 hgrow5)
          have hf5 := Fr.of_grown hgrow5
          have hsw : w.heap.size ≤ s := by omega
          have HC5 := Lib.hid (HCK.out.fr hf5 (fun k hk e => by
            injection e with e
            subst e
            rcases hk with hk | hk
            · omega
            · exact (HMB4.out _ hk).2 rfl))
          have HF5 := Lib.hid (HF4.out.trans hf5 (fun y hy e => by injection e with e; omega))
          have HM5 := Lib.hid hown5
          have HAL5 := Lib.hid (show AL xs (i + 1) (Dc.put (.int .i64 (i : Int)) (.lit (.int .i64 x))) (Ds.put (.int .i64 (i : Int)) (.lit (.int .i64 x))) from by have := HAL.out.put; rw [HGD.out] at this; exact this)
          clear hown5 hgrow5 hf5 m0 hown
          go_roundw
          case rel => exact ⟨i + 1, nc + 1, m', _, _, by go_num, by omega, by omega, HC5, HMB4, HM5, HAL5, HF5⟩
          case measure => simp [intOf]; omega
    · have hltz : ¬ (i : Int) < (n0 : Int) := by omega
      have hie : n0 = i := by omega
      have HAL2 := Lib.hid (show AL xs n0 Dc Ds from by rw [hie]; exact HAL.out)
      have HM2 := Lib.hid (show AM wr s 100 Ds from World.ownsMap.mono HM.out (by omega))
      clear hie HAL HM
      go_wp2
      generalize wr = wa at *
      go_loopw [8, 9] (fun vn vi wr => ∃ (i now nc : Nat) (m : Option Nat) (Dc Ds : DataW Unit), vn = .int .i64 now ∧ vi = .int .i64 i ∧ i ≤ n1 ∧ now ≤ 49 * i ∧ nc ≤ 100 ∧ Hid (Clk wr g (now : Int) m nc Dc) ∧ Hid (∀ b, m = some b → w.heap.size ≤ b ∧ b ≠ s) ∧ Hid (AM wr s 100 Ds) ∧ Hid (AL xs n0 Dc Ds) ∧ Hid (Fr (fun _ => False) w wr)) (fun _ vi _ => n1 - (intOf vi).toNat)
      case atStart => exact ⟨0, 0, nc, m, Dc, Ds, rfl, rfl, Nat.zero_le _, by omega, by omega, HC, HMB, HM2, HAL2, HF⟩
      case round =>
        clear hltz hi1 hnc HC HMB HM2 HAL2 HF
        clear hlt
        obtain ⟨i, now, nc, m, Dc, Ds, rfl, rfl, hi1, hnow, hnc, HC, HMB, HM, HAL, HF⟩ := hrel
        by_cases hlt : i < n1
        · have hltz : (i : Int) < (n1 : Int) := by omega
          have hR := HR1.out.fr HF.out (fun _ _ _ h => h) (fun ad e h => HB1.out ad e (by have := HL1.out; omega))
          obtain ⟨⟨bA, oA, sp⟩, hA, hsp, hcell⟩ := hR (by have := HL1.out; omega)
          simp only at hsp
          subst hsp
          have m0 := hcell i (by have := HL1.out; omega)
          simp only at m0
          obtain ⟨st, hst⟩ : ∃ x, ss[i]'(by have := HL1.out; omega) = x := ⟨_, rfl⟩
          rw [hst] at m0
          clear hR hcell hst
          subst hA
          obtain ⟨z, hz⟩ : ∃ z, st.tmod 50 = z := ⟨_, rfl⟩
          have hz1 : z ≤ 49 := by have := Int.tmod_lt_of_pos st (show (0 : Int) < 50 by omega); omega
          have hz2 : -49 ≤ z := by
            rw [← hz]
            rcases Int.le_total 0 st with h | h
            · have := Int.tmod_nonneg 50 h; omega
            · have h2 : (-st).tmod 50 = -(st.tmod 50) := Int.neg_tmod _ _
              have h3 := Int.tmod_lt_of_pos (-st) (show (0 : Int) < 50 by omega)
              omega
          have hzw : IntKind.i64.wrap z = z := IntWalk.i64_in _ (by omega)
          by_cases hz0 : z < 1
          · go_wp2
            clear hz
            try simp only [Exit.inBlock, Exit.then]
            go_wp2
            go_roundw
            case rel => exact ⟨i + 1, now, nc, m, Dc, Ds, rfl, by go_num, by omega, by omega, hnc, HC, HMB, HM, HAL, HF⟩
            case measure => simp [intOf]; omega
          · have hz0d : decide (z < 1) = false := decide_eq_false hz0
            obtain ⟨zn, hzn⟩ : ∃ zn : Nat, z = (zn : Int) := ⟨z.toNat, by omega⟩
            subst hzn
            have htk : tickI (now : Int) (zn : Int) = ((now + zn : Nat) : Int) := by rw [tickI_yes (by omega)]; omega
            have HTK := Lib.hid htk
            clear htk
            go_wp2_with fail
            clear hz m0
            refine (tick_any g (now : Int) (zn : Int) m nc Dc wr HC.out (by omega) (by omega)).mono ?_
            rw [HTK.out]
            rintro e w4 ⟨rfl, hck, hfr⟩
            have hM4 : AM w4 s 100 Ds := HM.out.fr hfr (fun e => by
              rcases e with e | e
              · omega
              · exact (HMB.out _ e).2 rfl)
            have hF4 : Fr (fun _ => False) w w4 := HF.out.trans hfr (fun y hy e => by
              rcases e with e | e
              · omega
              · have := (HMB.out _ e).1; omega)
            have HM4 := Lib.hid hM4
            have HF4 := Lib.hid hF4
            have HC4 := Lib.hid hck
            obtain ⟨nw, hnw⟩ : ∃ nw, now + zn = nw := ⟨_, rfl⟩
            rw [hnw] at HC4
            have hnww : IntKind.i64.wrap ((now : Int) + (zn : Int)) = (nw : Int) := by rw [show (now : Int) + (zn : Int) = (nw : Int) by omega]; exact IntWalk.i64_in _ (by omega)
            have hnws : (now : Int) + (zn : Int) = (nw : Int) := by omega
            have hnwb : nw ≤ 49 * (i + 1) := by omega
            clear hck hfr hM4 hF4 HC HM HF HTK hnw
            go_wp2_with fail
            clear hnws hnww
            refine (due_any g m nc (nw : Int) Dc w4 HC4.out (by omega)).mono ?_
            rintro e w5 ⟨v, ys, rfl, hdue, hsl, hfresh, hck, hfr, hyl⟩
            obtain ⟨A, cap, rfl, hrd, hAo⟩ := hsl.rd
            have hF5 : Fr (fun _ => False) w w5 := HF4.out.trans hfr (fun y hy e => by have := (HMB.out _ e).1; omega)
            have hM5 : AM w5 s 100 Ds := HM4.out.fr hfr (fun e => (HMB.out _ e).2 rfl)
            have hAs : ∀ ad, A = some ad → ad.block ≠ s ∧ ad.block < w5.heap.size := fun ad e => by
              have h1 := hAo ad e
              have h2 := hfresh _ h1.1
              have h3 := HM4.out.lt
              exact ⟨by omega, h1.2⟩
            have HDUE := Lib.hid hdue
            have HRD := Lib.hid hrd
            have HAS := Lib.hid hAs
            have HC5 := Lib.hid hck
            have HF5 := Lib.hid hF5
            have HM5 := Lib.hid hM5
            obtain ⟨L, hL⟩ : ∃ L, ys.length = L := ⟨_, rfl⟩
            have HL := Lib.hid hL
            rw [hL] at hyl ⊢
            clear hdue hrd hAs hAo hck hF5 hM5 hsl hfresh hfr HC4 HF4 HM4 hL
            go_wp2
            generalize w5 = wb at *
            go_loopw [12] (fun vk wr => ∃ (k : Nat), vk = .int .i64 k ∧ k ≤ L ∧ Hid (AM wr s 100 (dels Ds (ys.take k))) ∧ Hid (Fr (fun x => x = s) wb wr)) (fun vk _ => L - (intOf vk).toNat)
            case atStart => exact ⟨0, rfl, Nat.zero_le _, HM5, Lib.hid (Fr.refl _ _)⟩
            case round =>
              obtain ⟨k, rfl, hkL, HMK, HFK⟩ := hrel
              clear HM5
              by_cases hlk : k < L
              · have hlkz : (k : Int) < (L : Int) := by omega
                have hly : k < ys.length := by rw [HL.out]; exact hlk
                obtain ⟨⟨bY, oY, sp⟩, hA, hsp, hcell0⟩ := HRD.out (by omega)
                simp only at hsp
                subst hsp
                have hbY := HAS.out _ hA
                simp only at hbY hcell0
                have hcell : ∀ j (hj : j < ys.length), wr.cell? ⟨bY, oY + j, none⟩ = some (.int .i64 ys[j]) := fun j hj => (HFK.out.cell hbY.2 hbY.1).trans (hcell0 j hj)
                have hmemk : ∀ j (hj : j < ys.length), ∃ kk : Nat, ys[j] = (kk : Int) ∧ kk < n0 ∧ tickOf Dc ys[j] = xs.getD kk 0 ∧ tickOf Ds ys[j] = xs.getD kk 0 ∧ tickOf Dc ys[j] ≤ (nw : Int) ∧ has Ds (.int .i64 ys[j]) = true := fun j hj => by
                  have h1 := (HDUE.out.2.1 ys[j]).1 (List.getElem_mem _)
                  have h2 := h1.1
                  rw [HAL.out.same] at h2
                  obtain ⟨kk, e1, e2, e3, e4⟩ := HAL.out.tick _ h2
                  exact ⟨kk, e1, e2, e3, e4, h1.2, h2⟩
                have hnot : ys[k] ∉ ys.take k := fun hm => by
                  obtain ⟨j, hj, e⟩ := List.mem_iff_getElem.1 hm
                  have hj2 : j < k := by simp at hj; omega
                  have h3 := List.pairwise_iff_getElem.1 HDUE.out.1 j k (by omega) hly hj2
                  rw [List.getElem_take] at e
                  rw [e, (ltC_swo Dc).irrefl] at h3
                  cases h3
                obtain ⟨kk, e1, e2, e3, e4, e5, e6⟩ := hmemk k hly
                have hhas : has (dels Ds (ys.take k)) (.int .i64 ys[k]) = true := by rw [dels_has, e6]; simp [hnot]
                have htick : tickOf (dels Ds (ys.take k)) ys[k] = xs.getD kk 0 := by rw [dels_tick _ _ hnot]; exact e4
                have htk1 : ys.take (k + 1) = ys.take k ++ [ys[k]] := by rw [List.take_add_one]; simp [hly]
                have hy64 : I64 ys[k] := HDUE.out.2.2 _ (List.getElem_mem _)
                have m0 := hcell k hly
                have HHAS := Lib.hid hhas
                have HTICK := Lib.hid htick
                have HTK1 := Lib.hid htk1
                have HCELL := Lib.hid hcell
                have HY64 := Lib.hid hy64
                obtain ⟨t, ht⟩ : ∃ t, xs.getD kk 0 = t := ⟨_, rfl⟩
                have htnow : t ≤ (nw : Int) := by rw [← ht, ← e3]; exact e5
                have HT := Lib.hid (show tickOf Dc ys[k] = t from by rw [← ht]; exact e3)
                rw [ht] at HTICK
                have HMEM := Lib.hid hmemk
                obtain ⟨y, hy⟩ : ∃ y, ys[k] = y := ⟨_, rfl⟩
                have HY := Lib.hid hy
                rw [hy] at m0 HHAS HTICK HTK1 HY64 HT
                have hown := HMK.out
                have HA := Lib.hid hA
                have hRX : RdI wr A0 xs := HR0.out.fr (HF5.out.trans HFK.out (fun x hx e => by omega)) (fun _ _ _ h => h) (fun ad e h => HB0.out ad e (by have := HL0.out; omega))
                have HRX := Lib.hid hRX
                clear hcell hcell0 hmemk hnot e1 e2 e3 e4 e5 e6 hhas htick htk1 hy64 ht hy hRX
                subst hA
                go_wp2_with (at_lookup; refine wpList_lookup_own_ok_int _ rfl _ _ 41 rfl 3 3 .i64 kInt Try.underlying41 Try.underlying3 (zeroInt _) s 100 _ rfl hown _ _ rfl HY64.out.key ?_; intro cc hat hwc; obtain rfl : t = cc := (HTICK.out.symm.trans (tickOf_eq hat)); rw [HHAS.out])
                clear hat hwc m0
                have htd : decide (t > (nw : Int)) = false := decide_eq_false (by omega)
                obtain ⟨SLV, hSLV⟩ : ∃ S : World → Prop, S = (fun w' => (∀ j (hj : j < ys.length), w'.cell? ⟨bY, oY + j, none⟩ = some (.int .i64 ys[j])) ∧ RdI w' A0 xs) := ⟨_, rfl⟩
                have HSL := Lib.hid hSLV
                have HSLV := Lib.hid (show SLV wr.drew from by rw [hSLV]; exact ⟨HCELL.out, HRX.out⟩)
                clear hSLV
                rcases Nat.eq_zero_or_pos k with hk0 | hk0
                · subst hk0
                  have HFD9 := Lib.hid (show Fr (fun x => x = s) wb wr.drew from HFK.out.drew)
                  have HMD9 := Lib.hid (show AM wr.drew s 100 (dels Ds (ys.take 0)) from World.ownsMap.drew hown)
                  have HCD9 := Lib.hid (show wr.drew.cell? ⟨bY, oY + 0, none⟩ = some (.int .i64 y) from by rw [← HY.out]; exact HCELL.out _ hly)
                  clear hown HMK HFK HCELL HRX
                  have hF9 := HFD9.out
                  have hown9 := HMD9.out
                  have m0 := HCD9.out
                  rw [Nat.add_zero] at m0
                  rw [show ((0 : Nat) : Int) = 0 from rfl]
                  refine wp_region_held_drew (S := fun w' => SLV w') (by kernel_rfl) (HSLV.out) (fun hHeld => ?_)
                  refine wpAnyH_takeD (i := 0) (v := ?_) (some 91) rfl rfl (by kernel_rfl) (by kernel_rfl) (by kernel_rfl) (fun _ _ _ h => h) (Or.inl ⟨by rfl, ?_⟩) (by assumption) ?_
                  rotate_left
                  · intro w' hSw
                    go_simp
                    first | done | with_reducible rfl
                  try simp only [Go.Act.put, List.setIfInBounds_toArray, List.set_cons_zero, List.set_cons_succ]
                  refine wpAnyH_takeD (i := 1) (v := ?_) (some 92) rfl rfl (by kernel_rfl) (by kernel_rfl) (by kernel_rfl) (fun _ _ _ h => h) (Or.inl ⟨by rfl, ?_⟩) (by assumption) ?_
                  rotate_left
                  · intro w' hSw
                    go_simp
                    first | done | with_reducible rfl
                  try simp only [Go.Act.put, List.setIfInBounds_toArray, List.set_cons_zero, List.set_cons_succ]
                  refine wpAnyH_takeD (i := 2) (v := ?_) (some 93) rfl rfl (by kernel_rfl) (by kernel_rfl) (by kernel_rfl) (fun _ _ _ h => h) (Or.inl ⟨by rfl, ?_⟩) (by assumption) ?_
                  rotate_left
                  · intro w' hSw
                    go_simp
                    first | done | with_reducible rfl
                  try simp only [Go.Act.put, List.setIfInBounds_toArray, List.set_cons_zero, List.set_cons_succ]
                  refine wpAnyH_takeD (i := 3) (v := ?_) (some 94) rfl rfl (by kernel_rfl) (by kernel_rfl) (by kernel_rfl) (fun _ _ _ h => h) (Or.inl ⟨by rfl, ?_⟩) (by assumption) ?_
                  rotate_left
                  · intro w' hSw
                    go_simp
                    first | done | with_reducible rfl
                  try simp only [Go.Act.put, List.setIfInBounds_toArray, List.set_cons_zero, List.set_cons_succ]
                  refine wpAnyH_takeD (i := 4) (v := ?_) (some 95) rfl rfl (by kernel_rfl) (by kernel_rfl) (by kernel_rfl) (fun _ _ _ h => h) (Or.inl ⟨by rfl, ?_⟩) (by assumption) ?_
                  rotate_left
                  · intro w' hSw
                    go_simp
                    first | done | with_reducible rfl
                  try simp only [Go.Act.put, List.setIfInBounds_toArray, List.set_cons_zero, List.set_cons_succ]
                  refine wpAnyH_takeD (i := 5) (v := ?_) (some 96) rfl rfl (by kernel_rfl) (by kernel_rfl) (by kernel_rfl) (fun _ _ _ h => h) (Or.inl ⟨by rfl, ?_⟩) (by assumption) ?_
                  rotate_left
                  · intro w' hSw
                    go_simp
                    first | done | with_reducible rfl
                  try simp only [Go.Act.put, List.setIfInBounds_toArray, List.set_cons_zero, List.set_cons_succ]
                  refine wpAnyH_takeD (i := 6) (v := ?_) (some 97) rfl rfl (by kernel_rfl) (by kernel_rfl) (by kernel_rfl) (fun _ _ _ h => h) (Or.inl ⟨by rfl, ?_⟩) (by assumption) ?_
                  rotate_left
                  · intro w' hSw
                    go_simp
                    first | done | with_reducible rfl
                  try simp only [Go.Act.put, List.setIfInBounds_toArray, List.set_cons_zero, List.set_cons_succ]
                  refine wpAnyH_takeD (i := 7) (v := ?_) (some 98) rfl rfl (by kernel_rfl) (by kernel_rfl) (by kernel_rfl) (fun _ _ _ h => h) (Or.inl ⟨by rfl, ?_⟩) (by assumption) ?_
                  rotate_left
                  · intro w' hSw
                    go_simp
                    first | done | with_reducible rfl
                  try simp only [Go.Act.put, List.setIfInBounds_toArray, List.set_cons_zero, List.set_cons_succ]
                  refine wpAnyH_takeD (i := 8) (v := ?_) (some 99) rfl rfl (by kernel_rfl) (by kernel_rfl) (by kernel_rfl) (fun _ _ _ h => h) (Or.inl ⟨by rfl, ?_⟩) (by assumption) ?_
                  rotate_left
                  · intro w' hSw
                    go_simp
                    first | done | with_reducible rfl
                  try simp only [Go.Act.put, List.setIfInBounds_toArray, List.set_cons_zero, List.set_cons_succ]
                  refine wpAnyH_takeD (i := 9) (v := ?_) (some 100) rfl rfl (by kernel_rfl) (by kernel_rfl) (by kernel_rfl) (fun _ _ _ h => h) (Or.inl ⟨by rfl, ?_⟩) (by assumption) ?_
                  rotate_left
                  · intro w' hSw
                    go_simp
                    first | done | with_reducible rfl
                  try simp only [Go.Act.put, List.setIfInBounds_toArray, List.set_cons_zero, List.set_cons_succ]
                  refine wpAnyH_takeD (i := 10) (v := ?_) (some 101) rfl rfl (by kernel_rfl) (by kernel_rfl) (by kernel_rfl) (fun _ _ _ h => h) (Or.inl ⟨by rfl, ?_⟩) (by assumption) ?_
                  rotate_left
                  · intro w' hSw
                    go_simp
                    first | done | with_reducible rfl
                  try simp only [Go.Act.put, List.setIfInBounds_toArray, List.set_cons_zero, List.set_cons_succ]
                  refine wpAnyH_takeD (i := 11) (v := undef) (some 102) rfl rfl (by kernel_rfl) (by kernel_rfl) (by kernel_rfl) (fun _ _ _ h => h) (Or.inr ⟨by rfl, rfl⟩) (by assumption) ?_
                  try simp only [Go.Act.put, List.setIfInBounds_toArray, List.set_cons_zero, List.set_cons_succ]
                  refine wpAnyH_takeD (i := 12) (v := undef) (some 103) rfl rfl (by kernel_rfl) (by kernel_rfl) (by kernel_rfl) (fun _ _ _ h => h) (Or.inr ⟨by rfl, rfl⟩) (by assumption) ?_
                  try simp only [Go.Act.put, List.setIfInBounds_toArray, List.set_cons_zero, List.set_cons_succ]
                  refine wpAnyH_takeD (i := 13) (v := undef) (some 104) rfl rfl (by kernel_rfl) (by kernel_rfl) (by kernel_rfl) (fun _ _ _ h => h) (Or.inr ⟨by rfl, rfl⟩) (by assumption) ?_
                  try simp only [Go.Act.put, List.setIfInBounds_toArray, List.set_cons_zero, List.set_cons_succ]
                  refine wpAnyH_takeD (i := 14) (v := undef) (some 105) rfl rfl (by kernel_rfl) (by kernel_rfl) (by kernel_rfl) (fun _ _ _ h => h) (Or.inr ⟨by rfl, rfl⟩) (by assumption) ?_
                  try simp only [Go.Act.put, List.setIfInBounds_toArray, List.set_cons_zero, List.set_cons_succ]
                  refine wpAnyH_takeD (i := 15) (v := undef) (some 106) rfl rfl (by kernel_rfl) (by kernel_rfl) (by kernel_rfl) (fun _ _ _ h => h) (Or.inr ⟨by rfl, rfl⟩) (by assumption) ?_
                  try simp only [Go.Act.put, List.setIfInBounds_toArray, List.set_cons_zero, List.set_cons_succ]
                  refine wpAnyH_takeD (i := 16) (v := undef) (some 107) rfl rfl (by kernel_rfl) (by kernel_rfl) (by kernel_rfl) (fun _ _ _ h => h) (Or.inr ⟨by rfl, rfl⟩) (by assumption) ?_
                  try simp only [Go.Act.put, List.setIfInBounds_toArray, List.set_cons_zero, List.set_cons_succ]
                  refine wpAnyH_takeD (i := 17) (v := undef) (some 108) rfl rfl (by kernel_rfl) (by kernel_rfl) (by kernel_rfl) (fun _ _ _ h => h) (Or.inr ⟨by rfl, rfl⟩) (by assumption) ?_
                  try simp only [Go.Act.put, List.setIfInBounds_toArray, List.set_cons_zero, List.set_cons_succ]
                  refine wpAnyH_takeD (i := 18) (v := undef) (some 109) rfl rfl (by kernel_rfl) (by kernel_rfl) (by kernel_rfl) (fun _ _ _ h => h) (Or.inr ⟨by rfl, rfl⟩) (by assumption) ?_
                  try simp only [Go.Act.put, List.setIfInBounds_toArray, List.set_cons_zero, List.set_cons_succ]
                  refine wpAnyH_takeD (i := 19) (v := undef) (some 110) rfl rfl (by kernel_rfl) (by kernel_rfl) (by kernel_rfl) (fun _ _ _ h => h) (Or.inr ⟨by rfl, rfl⟩) (by assumption) ?_
                  try simp only [Go.Act.put, List.setIfInBounds_toArray, List.set_cons_zero, List.set_cons_succ]
                  refine wpAnyH_takeD (i := 20) (v := undef) (some 111) rfl rfl (by kernel_rfl) (by kernel_rfl) (by kernel_rfl) (fun _ _ _ h => h) (Or.inr ⟨by rfl, rfl⟩) (by assumption) ?_
                  try simp only [Go.Act.put, List.setIfInBounds_toArray, List.set_cons_zero, List.set_cons_succ]
                  refine wpAnyH_takeD (i := 21) (v := undef) (some 112) rfl rfl (by kernel_rfl) (by kernel_rfl) (by kernel_rfl) (fun _ _ _ h => h) (Or.inr ⟨by rfl, rfl⟩) (by assumption) ?_
                  try simp only [Go.Act.put, List.setIfInBounds_toArray, List.set_cons_zero, List.set_cons_succ]
                  refine wpAnyH_takeD (i := 22) (v := undef) (some 113) rfl rfl (by kernel_rfl) (by kernel_rfl) (by kernel_rfl) (fun _ _ _ h => h) (Or.inr ⟨by rfl, rfl⟩) (by assumption) ?_
                  try simp only [Go.Act.put, List.setIfInBounds_toArray, List.set_cons_zero, List.set_cons_succ]
                  refine wpAnyH_takeD (i := 23) (v := undef) (some 114) rfl rfl (by kernel_rfl) (by kernel_rfl) (by kernel_rfl) (fun _ _ _ h => h) (Or.inr ⟨by rfl, rfl⟩) (by assumption) ?_
                  try simp only [Go.Act.put, List.setIfInBounds_toArray, List.set_cons_zero, List.set_cons_succ]
                  refine wpAnyH_takeD (i := 24) (v := undef) (some 115) rfl rfl (by kernel_rfl) (by kernel_rfl) (by kernel_rfl) (fun _ _ _ h => h) (Or.inr ⟨by rfl, rfl⟩) (by assumption) ?_
                  try simp only [Go.Act.put, List.setIfInBounds_toArray, List.set_cons_zero, List.set_cons_succ]
                  refine wpAnyH_takeD (i := 25) (v := undef) (some 116) rfl rfl (by kernel_rfl) (by kernel_rfl) (by kernel_rfl) (fun _ _ _ h => h) (Or.inr ⟨by rfl, rfl⟩) (by assumption) ?_
                  try simp only [Go.Act.put, List.setIfInBounds_toArray, List.set_cons_zero, List.set_cons_succ]
                  refine wpAnyH_takeD (i := 26) (v := undef) (some 117) rfl rfl (by kernel_rfl) (by kernel_rfl) (by kernel_rfl) (fun _ _ _ h => h) (Or.inr ⟨by rfl, rfl⟩) (by assumption) ?_
                  try simp only [Go.Act.put, List.setIfInBounds_toArray, List.set_cons_zero, List.set_cons_succ]
                  refine wpAnyH_takeD (i := 27) (v := undef) (some 118) rfl rfl (by kernel_rfl) (by kernel_rfl) (by kernel_rfl) (fun _ _ _ h => h) (Or.inr ⟨by rfl, rfl⟩) (by assumption) ?_
                  try simp only [Go.Act.put, List.setIfInBounds_toArray, List.set_cons_zero, List.set_cons_succ]
                  refine wpAnyH_takeD (i := 28) (v := undef) (some 119) rfl rfl (by kernel_rfl) (by kernel_rfl) (by kernel_rfl) (fun _ _ _ h => h) (Or.inr ⟨by rfl, rfl⟩) (by assumption) ?_
                  try simp only [Go.Act.put, List.setIfInBounds_toArray, List.set_cons_zero, List.set_cons_succ]
                  refine wpAnyH_takeD (i := 29) (v := undef) (some 120) rfl rfl (by kernel_rfl) (by kernel_rfl) (by kernel_rfl) (fun _ _ _ h => h) (Or.inr ⟨by rfl, rfl⟩) (by assumption) ?_
                  try simp only [Go.Act.put, List.setIfInBounds_toArray, List.set_cons_zero, List.set_cons_succ]
                  refine wpAnyH_takeD (i := 30) (v := undef) (some 121) rfl rfl (by kernel_rfl) (by kernel_rfl) (by kernel_rfl) (fun _ _ _ h => h) (Or.inr ⟨by rfl, rfl⟩) (by assumption) ?_
                  try simp only [Go.Act.put, List.setIfInBounds_toArray, List.set_cons_zero, List.set_cons_succ]
                  refine wpAnyH_takeD (i := 31) (v := undef) (some 122) rfl rfl (by kernel_rfl) (by kernel_rfl) (by kernel_rfl) (fun _ _ _ h => h) (Or.inr ⟨by rfl, rfl⟩) (by assumption) ?_
                  try simp only [Go.Act.put, List.setIfInBounds_toArray, List.set_cons_zero, List.set_cons_succ]
                  refine wpAnyH_takeD (i := 32) (v := undef) (some 123) rfl rfl (by kernel_rfl) (by kernel_rfl) (by kernel_rfl) (fun _ _ _ h => h) (Or.inr ⟨by rfl, rfl⟩) (by assumption) ?_
                  try simp only [Go.Act.put, List.setIfInBounds_toArray, List.set_cons_zero, List.set_cons_succ]
                  refine wpAnyH_takeD (i := 33) (v := undef) (some 124) rfl rfl (by kernel_rfl) (by kernel_rfl) (by kernel_rfl) (fun _ _ _ h => h) (Or.inr ⟨by rfl, rfl⟩) (by assumption) ?_
                  try simp only [Go.Act.put, List.setIfInBounds_toArray, List.set_cons_zero, List.set_cons_succ]
                  refine wpAnyH_takeD (i := 34) (v := undef) (some 125) rfl rfl (by kernel_rfl) (by kernel_rfl) (by kernel_rfl) (fun _ _ _ h => h) (Or.inr ⟨by rfl, rfl⟩) (by assumption) ?_
                  try simp only [Go.Act.put, List.setIfInBounds_toArray, List.set_cons_zero, List.set_cons_succ]
                  refine wpAnyH_takeD (i := 35) (v := undef) (some 126) rfl rfl (by kernel_rfl) (by kernel_rfl) (by kernel_rfl) (fun _ _ _ h => h) (Or.inr ⟨by rfl, rfl⟩) (by assumption) ?_
                  try simp only [Go.Act.put, List.setIfInBounds_toArray, List.set_cons_zero, List.set_cons_succ]
                  refine wpAnyH_takeD (i := 36) (v := undef) (some 127) rfl rfl (by kernel_rfl) (by kernel_rfl) (by kernel_rfl) (fun _ _ _ h => h) (Or.inr ⟨by rfl, rfl⟩) (by assumption) ?_
                  try simp only [Go.Act.put, List.setIfInBounds_toArray, List.set_cons_zero, List.set_cons_succ]
                  refine wpAnyH_takeD (i := 37) (v := undef) (some 128) rfl rfl (by kernel_rfl) (by kernel_rfl) (by kernel_rfl) (fun _ _ _ h => h) (Or.inr ⟨by rfl, rfl⟩) (by assumption) ?_
                  try simp only [Go.Act.put, List.setIfInBounds_toArray, List.set_cons_zero, List.set_cons_succ]
                  refine wpAnyH_takeD (i := 38) (v := undef) (some 129) rfl rfl (by kernel_rfl) (by kernel_rfl) (by kernel_rfl) (fun _ _ _ h => h) (Or.inr ⟨by rfl, rfl⟩) (by assumption) ?_
                  try simp only [Go.Act.put, List.setIfInBounds_toArray, List.set_cons_zero, List.set_cons_succ]
                  refine wpAnyH_takeD (i := 39) (v := undef) (some 130) rfl rfl (by kernel_rfl) (by kernel_rfl) (by kernel_rfl) (fun _ _ _ h => h) (Or.inr ⟨by rfl, rfl⟩) (by assumption) ?_
                  try simp only [Go.Act.put, List.setIfInBounds_toArray, List.set_cons_zero, List.set_cons_succ]
                  refine wpAnyH_takeD (i := 40) (v := undef) (some 131) rfl rfl (by kernel_rfl) (by kernel_rfl) (by kernel_rfl) (fun _ _ _ h => h) (Or.inr ⟨by rfl, rfl⟩) (by assumption) ?_
                  try simp only [Go.Act.put, List.setIfInBounds_toArray, List.set_cons_zero, List.set_cons_succ]
                  refine wpAnyH_takeD (i := 41) (v := undef) (some 132) rfl rfl (by kernel_rfl) (by kernel_rfl) (by kernel_rfl) (fun _ _ _ h => h) (Or.inr ⟨by rfl, rfl⟩) (by assumption) ?_
                  try simp only [Go.Act.put, List.setIfInBounds_toArray, List.set_cons_zero, List.set_cons_succ]
                  refine wpAnyH_takeD (i := 42) (v := undef) (some 133) rfl rfl (by kernel_rfl) (by kernel_rfl) (by kernel_rfl) (fun _ _ _ h => h) (Or.inr ⟨by rfl, rfl⟩) (by assumption) ?_
                  try simp only [Go.Act.put, List.setIfInBounds_toArray, List.set_cons_zero, List.set_cons_succ]
                  refine wpAnyH_takeD (i := 43) (v := ?_) (some 134) rfl rfl (by kernel_rfl) (by kernel_rfl) (by kernel_rfl) (fun _ _ _ h => h) (Or.inl ⟨by rfl, ?_⟩) (by assumption) ?_
                  rotate_left
                  · intro w' hSw
                    go_simp
                    first | done | with_reducible rfl
                  try simp only [Go.Act.put, List.setIfInBounds_toArray, List.set_cons_zero, List.set_cons_succ]
                  refine wpAnyH_takeD (i := 44) (v := ?_) (some 135) rfl rfl (by kernel_rfl) (by kernel_rfl) (by kernel_rfl) (fun _ _ _ h => h) (Or.inl ⟨by rfl, ?_⟩) (by assumption) ?_
                  rotate_left
                  · intro w' hSw
                    go_simp
                    first | done | with_reducible rfl
                  try simp only [Go.Act.put, List.setIfInBounds_toArray, List.set_cons_zero, List.set_cons_succ]
                  refine wpAnyH_done (by kernel_rfl) ?_ _

                  generalize wr.drew = w9 at *
                  clear HSLV
                  try clear hHeld
                  go_wp2_with (at_delete; refine wpList_delete_own _ rfl _ _ 41 3 rfl 3 kInt Try.underlying41 _ s 100 _ rfl hown9 _ _ rfl HY64.out.key ?_; intro w8 hown8 hturn8)
                  have HF8 := Lib.hid (hF9.trans (Fr.of_turned hturn8) (fun _ _ h => h))
                  have HM8 := Lib.hid (show AM w8 s 100 (dels Ds (ys.take (0 + 1))) from by rw [HTK1.out, dels_snoc]; exact hown8)
                  clear hown8 hturn8 m0 hown9 hF9
                  go_roundw
                  case rel => exact ⟨0 + 1, by go_num, by omega, HM8, HF8⟩
                  case measure => simp [intOf]; omega
                · obtain ⟨q, rfl⟩ : ∃ q, k = q + 1 := ⟨k - 1, by omega⟩
                  have HFD9 := Lib.hid (show Fr (fun x => x = s) wb wr.drew from HFK.out.drew)
                  have HMD9 := Lib.hid (show AM wr.drew s 100 (dels Ds (ys.take (q + 1))) from World.ownsMap.drew hown)
                  have HCD9 := Lib.hid (show wr.drew.cell? ⟨bY, oY + (q + 1), none⟩ = some (.int .i64 y) from by rw [← HY.out]; exact HCELL.out _ hly)
                  clear hown HMK HFK HCELL HRX
                  rw [show ((q + 1 : Nat) : Int) = (q : Int) + 1 from rfl]
                  have pz0 : (0 : Int) ≤ (q : Int) + 1 := by omega
                  have pz1 : (q : Int) + 1 < (L : Int) := by omega
                  have pz2 : (0 : Int) ≤ (q : Int) := by omega
                  have pz3 : (q : Int) < (L : Int) := by omega
                  have pz4 : ((q : Int) + 1).toNat = q + 1 := by omega
                  have pz5 : IntKind.i64.wrap ((q : Int) + 1 - 1) = (q : Int) := by rw [show (q : Int) + 1 - 1 = q by omega]; exact IntWalk.i64_in _ (by omega)
                  have pz6 : IntKind.i64.wrap (q : Int) = (q : Int) := IntWalk.i64_in _ (by omega)
                  have pz7 : IntKind.i64.wrap ((q : Int) + 1 + 1) = (q : Int) + 1 + 1 := IntWalk.i64_in _ (by omega)
                  have pz8 : (q : Int) + 1 - 1 = (q : Int) := by omega
                  have pz9 : (0 : Int) < (q : Int) + 1 := by omega
                  have hq : q < ys.length := by omega
                  obtain ⟨kq, f1, f2, f3, f4, f5, f6⟩ := HMEM.out q hq
                  have hord := List.pairwise_iff_getElem.1 HDUE.out.1 q (q + 1) hq hly (by omega)
                  rw [ltC_iff] at hord
                  obtain ⟨tp, htp⟩ : ∃ tp, xs.getD kq 0 = tp := ⟨_, rfl⟩
                  have HC0 := Lib.hid (fun w' (h : RdI w' A0 xs) => show Calls Try.prog 18 #[.slice A0 n0 c0, .int .i64 ys[q]] w' fun e w'' => e = .returned (.int .i64 tp) ∧ w'' = w' from by
                    rw [f1, ← htp]; exact set0_any A0 c0 n0 kq xs w' h HL0.out (by omega) f2)
                  have HCL := Lib.hid (fun w' (h : SLV w') => show w'.cell? ⟨bY, oY + q, none⟩ = some (.int .i64 ys[q]) ∧ w'.cell? ⟨bY, oY + (q + 1), none⟩ = some (.int .i64 y) from by
                    rw [HSL.out] at h
                    exact ⟨h.1 q hq, by rw [← HY.out]; exact h.1 (q + 1) hly⟩)
                  have HCR := Lib.hid (fun w' (h : SLV w') => show RdI w' A0 xs from by rw [HSL.out] at h; exact h.2)
                  have hcmp : tp < t ∨ tp = t ∧ ys[q] < y := by
                    rw [HY.out, HT.out, f3, htp] at hord
                    exact hord
                  obtain ⟨yq, hyq⟩ : ∃ yq, ys[q] = yq := ⟨_, rfl⟩
                  rw [hyq] at HC0 hcmp
                  simp only [hyq] at HCL
                  have hltp : decide (t < tp) = false := decide_eq_false (by omega)
                  have hF9 := HFD9.out
                  have hown9 := HMD9.out
                  have m0 := HCD9.out
                  clear f1 f2 f3 f4 f5 f6 hord htp hyq hq HSL
                  by_cases heq : t = tp
                  · have heqd : (t == tp) = true := by simpa using heq
                    have hyd : decide (y ≤ yq) = false := decide_eq_false (by omega)
                    clear heq hcmp
                    refine wp_region_held_drew (S := fun w' => SLV w') (by kernel_rfl) (HSLV.out) (fun hHeld => ?_)
                    refine wpAnyH_takeD (i := 0) (v := ?_) (some 91) rfl rfl (by kernel_rfl) (by kernel_rfl) (by kernel_rfl) (fun _ _ _ h => h) (Or.inl ⟨by rfl, ?_⟩) (by assumption) ?_
                    rotate_left
                    · intro w' hSw
                      go_simp
                      first | done | with_reducible rfl
                    try simp only [Go.Act.put, List.setIfInBounds_toArray, List.set_cons_zero, List.set_cons_succ]
                    refine wpAnyH_takeD (i := 1) (v := ?_) (some 92) rfl rfl (by kernel_rfl) (by kernel_rfl) (by kernel_rfl) (fun _ _ _ h => h) (Or.inl ⟨by rfl, ?_⟩) (by assumption) ?_
                    rotate_left
                    · intro w' hSw
                      go_simp
                      first | done | with_reducible rfl
                    try simp only [Go.Act.put, List.setIfInBounds_toArray, List.set_cons_zero, List.set_cons_succ]
                    refine wpAnyH_takeD (i := 2) (v := ?_) (some 93) rfl rfl (by kernel_rfl) (by kernel_rfl) (by kernel_rfl) (fun _ _ _ h => h) (Or.inl ⟨by rfl, ?_⟩) (by assumption) ?_
                    rotate_left
                    · intro w' hSw
                      go_simp
                      first | done | with_reducible rfl
                    try simp only [Go.Act.put, List.setIfInBounds_toArray, List.set_cons_zero, List.set_cons_succ]
                    refine wpAnyH_takeD (i := 3) (v := ?_) (some 94) rfl rfl (by kernel_rfl) (by kernel_rfl) (by kernel_rfl) (fun _ _ _ h => h) (Or.inl ⟨by rfl, ?_⟩) (by assumption) ?_
                    rotate_left
                    · intro w' hSw
                      go_simp
                      first | done | with_reducible rfl
                    try simp only [Go.Act.put, List.setIfInBounds_toArray, List.set_cons_zero, List.set_cons_succ]
                    refine wpAnyH_takeD (i := 4) (v := ?_) (some 95) rfl rfl (by kernel_rfl) (by kernel_rfl) (by kernel_rfl) (fun _ _ _ h => h) (Or.inl ⟨by rfl, ?_⟩) (by assumption) ?_
                    rotate_left
                    · intro w' hSw
                      go_simp
                      first | done | with_reducible rfl
                    try simp only [Go.Act.put, List.setIfInBounds_toArray, List.set_cons_zero, List.set_cons_succ]
                    refine wpAnyH_takeD (i := 5) (v := ?_) (some 96) rfl rfl (by kernel_rfl) (by kernel_rfl) (by kernel_rfl) (fun _ _ _ h => h) (Or.inl ⟨by rfl, ?_⟩) (by assumption) ?_
                    rotate_left
                    · intro w' hSw
                      go_simp
                      first | done | with_reducible rfl
                    try simp only [Go.Act.put, List.setIfInBounds_toArray, List.set_cons_zero, List.set_cons_succ]
                    refine wpAnyH_takeD (i := 6) (v := ?_) (some 97) rfl rfl (by kernel_rfl) (by kernel_rfl) (by kernel_rfl) (fun _ _ _ h => h) (Or.inl ⟨by rfl, ?_⟩) (by assumption) ?_
                    rotate_left
                    · intro w' hSw
                      go_simp
                      first | done | with_reducible rfl
                    try simp only [Go.Act.put, List.setIfInBounds_toArray, List.set_cons_zero, List.set_cons_succ]
                    refine wpAnyH_takeD (i := 7) (v := ?_) (some 98) rfl rfl (by kernel_rfl) (by kernel_rfl) (by kernel_rfl) (fun _ _ _ h => h) (Or.inl ⟨by rfl, ?_⟩) (by assumption) ?_
                    rotate_left
                    · intro w' hSw
                      go_simp
                      first | done | with_reducible rfl
                    try simp only [Go.Act.put, List.setIfInBounds_toArray, List.set_cons_zero, List.set_cons_succ]
                    refine wpAnyH_takeD (i := 8) (v := ?_) (some 99) rfl rfl (by kernel_rfl) (by kernel_rfl) (by kernel_rfl) (fun _ _ _ h => h) (Or.inl ⟨by rfl, ?_⟩) (by assumption) ?_
                    rotate_left
                    · intro w' hSw
                      go_simp
                      first | done | with_reducible rfl
                    try simp only [Go.Act.put, List.setIfInBounds_toArray, List.set_cons_zero, List.set_cons_succ]
                    refine wpAnyH_takeD (i := 9) (v := ?_) (some 100) rfl rfl (by kernel_rfl) (by kernel_rfl) (by kernel_rfl) (fun _ _ _ h => h) (Or.inl ⟨by rfl, ?_⟩) (by assumption) ?_
                    rotate_left
                    · intro w' hSw
                      go_simp
                      first | done | with_reducible rfl
                    try simp only [Go.Act.put, List.setIfInBounds_toArray, List.set_cons_zero, List.set_cons_succ]
                    refine wpAnyH_takeD (i := 10) (v := ?_) (some 101) rfl rfl (by kernel_rfl) (by kernel_rfl) (by kernel_rfl) (fun _ _ _ h => h) (Or.inl ⟨by rfl, ?_⟩) (by assumption) ?_
                    rotate_left
                    · intro w' hSw
                      go_simp
                      first | done | with_reducible rfl
                    try simp only [Go.Act.put, List.setIfInBounds_toArray, List.set_cons_zero, List.set_cons_succ]
                    refine wpAnyH_takeD (i := 11) (v := ?_) (some 102) rfl rfl (by kernel_rfl) (by kernel_rfl) (by kernel_rfl) (fun _ _ _ h => h) (Or.inl ⟨by rfl, ?_⟩) (by assumption) ?_
                    rotate_left
                    · intro w' hSw
                      go_simp
                      first | done | with_reducible rfl
                    try simp only [Go.Act.put, List.setIfInBounds_toArray, List.set_cons_zero, List.set_cons_succ]
                    refine wpAnyH_takeD (i := 12) (v := ?_) (some 103) rfl rfl (by kernel_rfl) (by kernel_rfl) (by kernel_rfl) (fun _ _ _ h => h) (Or.inl ⟨by rfl, ?_⟩) (by assumption) ?_
                    rotate_left
                    · intro w' hSw
                      go_simp
                      first | done | with_reducible rfl
                    try simp only [Go.Act.put, List.setIfInBounds_toArray, List.set_cons_zero, List.set_cons_succ]
                    refine wpAnyH_takeD (i := 13) (v := ?_) (some 104) rfl rfl (by kernel_rfl) (by kernel_rfl) (by kernel_rfl) (fun _ _ _ h => h) (Or.inl ⟨by rfl, ?_⟩) (by assumption) ?_
                    rotate_left
                    · intro w' hSw
                      go_simp
                      first | done | with_reducible rfl
                    try simp only [Go.Act.put, List.setIfInBounds_toArray, List.set_cons_zero, List.set_cons_succ]
                    refine wpAnyH_takeD (i := 14) (v := ?_) (some 105) rfl rfl (by kernel_rfl) (by kernel_rfl) (by kernel_rfl) (fun _ _ _ h => h) (Or.inl ⟨by rfl, ?_⟩) (by assumption) ?_
                    rotate_left
                    · intro w' hSw
                      go_simp
                      first | done | with_reducible rfl
                    try simp only [Go.Act.put, List.setIfInBounds_toArray, List.set_cons_zero, List.set_cons_succ]
                    refine wpAnyH_takeD (i := 15) (v := ?_) (some 106) rfl rfl (by kernel_rfl) (by kernel_rfl) (by kernel_rfl) (fun _ _ _ h => h) (Or.inl ⟨by rfl, ?_⟩) (by assumption) ?_
                    rotate_left
                    · intro w' hSw
                      go_simp
                      first | done | with_reducible rfl
                    try simp only [Go.Act.put, List.setIfInBounds_toArray, List.set_cons_zero, List.set_cons_succ]
                    refine wpAnyH_takeD (i := 16) (v := ?_) (some 107) rfl rfl (by kernel_rfl) (by kernel_rfl) (by kernel_rfl) (fun _ _ _ h => h) (Or.inl ⟨by rfl, ?_⟩) (by assumption) ?_
                    rotate_left
                    · intro w' hSw
                      go_simp
                      first | done | with_reducible rfl
                    try simp only [Go.Act.put, List.setIfInBounds_toArray, List.set_cons_zero, List.set_cons_succ]
                    refine wpAnyH_takeD (i := 17) (v := ?_) (some 108) rfl rfl (by kernel_rfl) (by kernel_rfl) (by kernel_rfl) (fun _ _ _ h => h) (Or.inl ⟨by rfl, ?_⟩) (by assumption) ?_
                    rotate_left
                    · intro w' hSw
                      obtain ⟨m0, m1⟩ := HCL.out w' hSw
                      go_simp
                      first | done | with_reducible rfl
                    try simp only [Go.Act.put, List.setIfInBounds_toArray, List.set_cons_zero, List.set_cons_succ]
                    refine wpAnyH_ready (rs := [18]) (by kernel_rfl) (by simp) ?_
                    refine AllReadyH.cons rfl (fun K hK => ?_) AllReadyH.nil
                    go_simp
                    refine (HC0.out _ (HCR.out _ hHeld)).mono ?_; rintro e v9 ⟨rfl, h9⟩
                    subst h9
                    try go_simp
                    refine hK.out _ _ (hHeld) (fun hHeld => ?_)
                    clear hK K
                    try change wpAnyH _ _ _ _ _ _ _ (Go.Act.put _ (some 109) _) _
                    try simp only [Go.Act.put, List.setIfInBounds_toArray, List.set_cons_zero, List.set_cons_succ]
                    refine wpAnyH_takeD (i := 19) (v := ?_) (some 110) rfl rfl (by kernel_rfl) (by kernel_rfl) (by kernel_rfl) (fun _ _ _ h => h) (Or.inl ⟨by rfl, ?_⟩) (by assumption) ?_
                    rotate_left
                    · intro w' hSw
                      go_simp
                      first | done | with_reducible rfl
                    try simp only [Go.Act.put, List.setIfInBounds_toArray, List.set_cons_zero, List.set_cons_succ]
                    refine wpAnyH_takeD (i := 20) (v := ?_) (some 111) rfl rfl (by kernel_rfl) (by kernel_rfl) (by kernel_rfl) (fun _ _ _ h => h) (Or.inl ⟨by rfl, ?_⟩) (by assumption) ?_
                    rotate_left
                    · intro w' hSw
                      go_simp
                      first | done | with_reducible rfl
                    try simp only [Go.Act.put, List.setIfInBounds_toArray, List.set_cons_zero, List.set_cons_succ]
                    refine wpAnyH_takeD (i := 21) (v := ?_) (some 112) rfl rfl (by kernel_rfl) (by kernel_rfl) (by kernel_rfl) (fun _ _ _ h => h) (Or.inl ⟨by rfl, ?_⟩) (by assumption) ?_
                    rotate_left
                    · intro w' hSw
                      go_simp
                      first | done | with_reducible rfl
                    try simp only [Go.Act.put, List.setIfInBounds_toArray, List.set_cons_zero, List.set_cons_succ]
                    refine wpAnyH_takeD (i := 22) (v := ?_) (some 113) rfl rfl (by kernel_rfl) (by kernel_rfl) (by kernel_rfl) (fun _ _ _ h => h) (Or.inl ⟨by rfl, ?_⟩) (by assumption) ?_
                    rotate_left
                    · intro w' hSw
                      go_simp
                      first | done | with_reducible rfl
                    try simp only [Go.Act.put, List.setIfInBounds_toArray, List.set_cons_zero, List.set_cons_succ]
                    refine wpAnyH_takeD (i := 23) (v := ?_) (some 114) rfl rfl (by kernel_rfl) (by kernel_rfl) (by kernel_rfl) (fun _ _ _ h => h) (Or.inl ⟨by rfl, ?_⟩) (by assumption) ?_
                    rotate_left
                    · intro w' hSw
                      go_simp
                      first | done | with_reducible rfl
                    try simp only [Go.Act.put, List.setIfInBounds_toArray, List.set_cons_zero, List.set_cons_succ]
                    refine wpAnyH_takeD (i := 24) (v := ?_) (some 115) rfl rfl (by kernel_rfl) (by kernel_rfl) (by kernel_rfl) (fun _ _ _ h => h) (Or.inl ⟨by rfl, ?_⟩) (by assumption) ?_
                    rotate_left
                    · intro w' hSw
                      go_simp
                      first | done | with_reducible rfl
                    try simp only [Go.Act.put, List.setIfInBounds_toArray, List.set_cons_zero, List.set_cons_succ]
                    refine wpAnyH_takeD (i := 25) (v := ?_) (some 116) rfl rfl (by kernel_rfl) (by kernel_rfl) (by kernel_rfl) (fun _ _ _ h => h) (Or.inl ⟨by rfl, ?_⟩) (by assumption) ?_
                    rotate_left
                    · intro w' hSw
                      go_simp
                      first | done | with_reducible rfl
                    try simp only [Go.Act.put, List.setIfInBounds_toArray, List.set_cons_zero, List.set_cons_succ]
                    refine wpAnyH_takeD (i := 26) (v := ?_) (some 117) rfl rfl (by kernel_rfl) (by kernel_rfl) (by kernel_rfl) (fun _ _ _ h => h) (Or.inl ⟨by rfl, ?_⟩) (by assumption) ?_
                    rotate_left
                    · intro w' hSw
                      go_simp
                      first | done | with_reducible rfl
                    try simp only [Go.Act.put, List.setIfInBounds_toArray, List.set_cons_zero, List.set_cons_succ]
                    refine wpAnyH_takeD (i := 27) (v := ?_) (some 118) rfl rfl (by kernel_rfl) (by kernel_rfl) (by kernel_rfl) (fun _ _ _ h => h) (Or.inl ⟨by rfl, ?_⟩) (by assumption) ?_
                    rotate_left
                    · intro w' hSw
                      obtain ⟨m0, m1⟩ := HCL.out w' hSw
                      go_simp
                      first | done | with_reducible rfl
                    try simp only [Go.Act.put, List.setIfInBounds_toArray, List.set_cons_zero, List.set_cons_succ]
                    refine wpAnyH_ready (rs := [28]) (by kernel_rfl) (by simp) ?_
                    refine AllReadyH.cons rfl (fun K hK => ?_) AllReadyH.nil
                    go_simp
                    refine (HC0.out _ (HCR.out _ hHeld)).mono ?_; rintro e v9 ⟨rfl, h9⟩
                    subst h9
                    try go_simp
                    refine hK.out _ _ (hHeld) (fun hHeld => ?_)
                    clear hK K
                    try change wpAnyH _ _ _ _ _ _ _ (Go.Act.put _ (some 119) _) _
                    try simp only [Go.Act.put, List.setIfInBounds_toArray, List.set_cons_zero, List.set_cons_succ]
                    refine wpAnyH_takeD (i := 29) (v := ?_) (some 120) rfl rfl (by kernel_rfl) (by kernel_rfl) (by kernel_rfl) (fun _ _ _ h => h) (Or.inl ⟨by rfl, ?_⟩) (by assumption) ?_
                    rotate_left
                    · intro w' hSw
                      go_simp
                      first | done | with_reducible rfl
                    try simp only [Go.Act.put, List.setIfInBounds_toArray, List.set_cons_zero, List.set_cons_succ]
                    refine wpAnyH_takeD (i := 30) (v := ?_) (some 121) rfl rfl (by kernel_rfl) (by kernel_rfl) (by kernel_rfl) (fun _ _ _ h => h) (Or.inl ⟨by rfl, ?_⟩) (by assumption) ?_
                    rotate_left
                    · intro w' hSw
                      go_simp
                      first | done | with_reducible rfl
                    try simp only [Go.Act.put, List.setIfInBounds_toArray, List.set_cons_zero, List.set_cons_succ]
                    refine wpAnyH_takeD (i := 31) (v := ?_) (some 122) rfl rfl (by kernel_rfl) (by kernel_rfl) (by kernel_rfl) (fun _ _ _ h => h) (Or.inl ⟨by rfl, ?_⟩) (by assumption) ?_
                    rotate_left
                    · intro w' hSw
                      go_simp
                      first | done | with_reducible rfl
                    try simp only [Go.Act.put, List.setIfInBounds_toArray, List.set_cons_zero, List.set_cons_succ]
                    refine wpAnyH_takeD (i := 32) (v := ?_) (some 123) rfl rfl (by kernel_rfl) (by kernel_rfl) (by kernel_rfl) (fun _ _ _ h => h) (Or.inl ⟨by rfl, ?_⟩) (by assumption) ?_
                    rotate_left
                    · intro w' hSw
                      go_simp
                      first | done | with_reducible rfl
                    try simp only [Go.Act.put, List.setIfInBounds_toArray, List.set_cons_zero, List.set_cons_succ]
                    refine wpAnyH_takeD (i := 33) (v := ?_) (some 124) rfl rfl (by kernel_rfl) (by kernel_rfl) (by kernel_rfl) (fun _ _ _ h => h) (Or.inl ⟨by rfl, ?_⟩) (by assumption) ?_
                    rotate_left
                    · intro w' hSw
                      go_simp
                      first | done | with_reducible rfl
                    try simp only [Go.Act.put, List.setIfInBounds_toArray, List.set_cons_zero, List.set_cons_succ]
                    refine wpAnyH_takeD (i := 34) (v := ?_) (some 125) rfl rfl (by kernel_rfl) (by kernel_rfl) (by kernel_rfl) (fun _ _ _ h => h) (Or.inl ⟨by rfl, ?_⟩) (by assumption) ?_
                    rotate_left
                    · intro w' hSw
                      obtain ⟨m0, m1⟩ := HCL.out w' hSw
                      go_simp
                      first | done | with_reducible rfl
                    try simp only [Go.Act.put, List.setIfInBounds_toArray, List.set_cons_zero, List.set_cons_succ]
                    refine wpAnyH_takeD (i := 35) (v := ?_) (some 126) rfl rfl (by kernel_rfl) (by kernel_rfl) (by kernel_rfl) (fun _ _ _ h => h) (Or.inl ⟨by rfl, ?_⟩) (by assumption) ?_
                    rotate_left
                    · intro w' hSw
                      go_simp
                      first | done | with_reducible rfl
                    try simp only [Go.Act.put, List.setIfInBounds_toArray, List.set_cons_zero, List.set_cons_succ]
                    refine wpAnyH_takeD (i := 36) (v := ?_) (some 127) rfl rfl (by kernel_rfl) (by kernel_rfl) (by kernel_rfl) (fun _ _ _ h => h) (Or.inl ⟨by rfl, ?_⟩) (by assumption) ?_
                    rotate_left
                    · intro w' hSw
                      go_simp
                      first | done | with_reducible rfl
                    try simp only [Go.Act.put, List.setIfInBounds_toArray, List.set_cons_zero, List.set_cons_succ]
                    refine wpAnyH_takeD (i := 37) (v := ?_) (some 128) rfl rfl (by kernel_rfl) (by kernel_rfl) (by kernel_rfl) (fun _ _ _ h => h) (Or.inl ⟨by rfl, ?_⟩) (by assumption) ?_
                    rotate_left
                    · intro w' hSw
                      go_simp
                      first | done | with_reducible rfl
                    try simp only [Go.Act.put, List.setIfInBounds_toArray, List.set_cons_zero, List.set_cons_succ]
                    refine wpAnyH_takeD (i := 38) (v := ?_) (some 129) rfl rfl (by kernel_rfl) (by kernel_rfl) (by kernel_rfl) (fun _ _ _ h => h) (Or.inl ⟨by rfl, ?_⟩) (by assumption) ?_
                    rotate_left
                    · intro w' hSw
                      go_simp
                      first | done | with_reducible rfl
                    try simp only [Go.Act.put, List.setIfInBounds_toArray, List.set_cons_zero, List.set_cons_succ]
                    refine wpAnyH_takeD (i := 39) (v := ?_) (some 130) rfl rfl (by kernel_rfl) (by kernel_rfl) (by kernel_rfl) (fun _ _ _ h => h) (Or.inl ⟨by rfl, ?_⟩) (by assumption) ?_
                    rotate_left
                    · intro w' hSw
                      obtain ⟨m0, m1⟩ := HCL.out w' hSw
                      go_simp
                      first | done | with_reducible rfl
                    try simp only [Go.Act.put, List.setIfInBounds_toArray, List.set_cons_zero, List.set_cons_succ]
                    refine wpAnyH_takeD (i := 40) (v := ?_) (some 131) rfl rfl (by kernel_rfl) (by kernel_rfl) (by kernel_rfl) (fun _ _ _ h => h) (Or.inl ⟨by rfl, ?_⟩) (by assumption) ?_
                    rotate_left
                    · intro w' hSw
                      go_simp
                      first | done | with_reducible rfl
                    try simp only [Go.Act.put, List.setIfInBounds_toArray, List.set_cons_zero, List.set_cons_succ]
                    refine wpAnyH_takeD (i := 41) (v := ?_) (some 132) rfl rfl (by kernel_rfl) (by kernel_rfl) (by kernel_rfl) (fun _ _ _ h => h) (Or.inl ⟨by rfl, ?_⟩) (by assumption) ?_
                    rotate_left
                    · intro w' hSw
                      go_simp
                      first | done | with_reducible rfl
                    try simp only [Go.Act.put, List.setIfInBounds_toArray, List.set_cons_zero, List.set_cons_succ]
                    refine wpAnyH_takeD (i := 42) (v := ?_) (some 133) rfl rfl (by kernel_rfl) (by kernel_rfl) (by kernel_rfl) (fun _ _ _ h => h) (Or.inl ⟨by rfl, ?_⟩) (by assumption) ?_
                    rotate_left
                    · intro w' hSw
                      go_simp
                      first | done | with_reducible rfl
                    try simp only [Go.Act.put, List.setIfInBounds_toArray, List.set_cons_zero, List.set_cons_succ]
                    refine wpAnyH_takeD (i := 43) (v := ?_) (some 134) rfl rfl (by kernel_rfl) (by kernel_rfl) (by kernel_rfl) (fun _ _ _ h => h) (Or.inl ⟨by rfl, ?_⟩) (by assumption) ?_
                    rotate_left
                    · intro w' hSw
                      go_simp
                      first | done | with_reducible rfl
                    try simp only [Go.Act.put, List.setIfInBounds_toArray, List.set_cons_zero, List.set_cons_succ]
                    refine wpAnyH_takeD (i := 44) (v := ?_) (some 135) rfl rfl (by kernel_rfl) (by kernel_rfl) (by kernel_rfl) (fun _ _ _ h => h) (Or.inl ⟨by rfl, ?_⟩) (by assumption) ?_
                    rotate_left
                    · intro w' hSw
                      go_simp
                      first | done | with_reducible rfl
                    try simp only [Go.Act.put, List.setIfInBounds_toArray, List.set_cons_zero, List.set_cons_succ]
                    refine wpAnyH_done (by kernel_rfl) ?_ _

                    generalize wr.drew = w9 at *
                    clear HSLV
                    try clear hHeld
                    go_wp2_with (at_delete; refine wpList_delete_own _ rfl _ _ 41 3 rfl 3 kInt Try.underlying41 _ s 100 _ rfl hown9 _ _ rfl HY64.out.key ?_; intro w8 hown8 hturn8)
                    have HF8 := Lib.hid (hF9.trans (Fr.of_turned hturn8) (fun _ _ h => h))
                    have HM8 := Lib.hid (show AM w8 s 100 (dels Ds (ys.take ((q + 1) + 1))) from by rw [HTK1.out, dels_snoc]; exact hown8)
                    clear hown8 hturn8 m0 hown9 hF9
                    go_roundw
                    case rel => exact ⟨(q + 1) + 1, by go_num, by omega, HM8, HF8⟩
                    case measure => simp [intOf]; omega
                  · have heqd : (t == tp) = false := by simpa using heq
                    clear heq hcmp
                    refine wp_region_held_drew (S := fun w' => SLV w') (by kernel_rfl) (HSLV.out) (fun hHeld => ?_)
                    refine wpAnyH_takeD (i := 0) (v := ?_) (some 91) rfl rfl (by kernel_rfl) (by kernel_rfl) (by kernel_rfl) (fun _ _ _ h => h) (Or.inl ⟨by rfl, ?_⟩) (by assumption) ?_
                    rotate_left
                    · intro w' hSw
                      go_simp
                      first | done | with_reducible rfl
                    try simp only [Go.Act.put, List.setIfInBounds_toArray, List.set_cons_zero, List.set_cons_succ]
                    refine wpAnyH_takeD (i := 1) (v := ?_) (some 92) rfl rfl (by kernel_rfl) (by kernel_rfl) (by kernel_rfl) (fun _ _ _ h => h) (Or.inl ⟨by rfl, ?_⟩) (by assumption) ?_
                    rotate_left
                    · intro w' hSw
                      go_simp
                      first | done | with_reducible rfl
                    try simp only [Go.Act.put, List.setIfInBounds_toArray, List.set_cons_zero, List.set_cons_succ]
                    refine wpAnyH_takeD (i := 2) (v := ?_) (some 93) rfl rfl (by kernel_rfl) (by kernel_rfl) (by kernel_rfl) (fun _ _ _ h => h) (Or.inl ⟨by rfl, ?_⟩) (by assumption) ?_
                    rotate_left
                    · intro w' hSw
                      go_simp
                      first | done | with_reducible rfl
                    try simp only [Go.Act.put, List.setIfInBounds_toArray, List.set_cons_zero, List.set_cons_succ]
                    refine wpAnyH_takeD (i := 3) (v := ?_) (some 94) rfl rfl (by kernel_rfl) (by kernel_rfl) (by kernel_rfl) (fun _ _ _ h => h) (Or.inl ⟨by rfl, ?_⟩) (by assumption) ?_
                    rotate_left
                    · intro w' hSw
                      go_simp
                      first | done | with_reducible rfl
                    try simp only [Go.Act.put, List.setIfInBounds_toArray, List.set_cons_zero, List.set_cons_succ]
                    refine wpAnyH_takeD (i := 4) (v := ?_) (some 95) rfl rfl (by kernel_rfl) (by kernel_rfl) (by kernel_rfl) (fun _ _ _ h => h) (Or.inl ⟨by rfl, ?_⟩) (by assumption) ?_
                    rotate_left
                    · intro w' hSw
                      go_simp
                      first | done | with_reducible rfl
                    try simp only [Go.Act.put, List.setIfInBounds_toArray, List.set_cons_zero, List.set_cons_succ]
                    refine wpAnyH_takeD (i := 5) (v := ?_) (some 96) rfl rfl (by kernel_rfl) (by kernel_rfl) (by kernel_rfl) (fun _ _ _ h => h) (Or.inl ⟨by rfl, ?_⟩) (by assumption) ?_
                    rotate_left
                    · intro w' hSw
                      go_simp
                      first | done | with_reducible rfl
                    try simp only [Go.Act.put, List.setIfInBounds_toArray, List.set_cons_zero, List.set_cons_succ]
                    refine wpAnyH_takeD (i := 6) (v := ?_) (some 97) rfl rfl (by kernel_rfl) (by kernel_rfl) (by kernel_rfl) (fun _ _ _ h => h) (Or.inl ⟨by rfl, ?_⟩) (by assumption) ?_
                    rotate_left
                    · intro w' hSw
                      go_simp
                      first | done | with_reducible rfl
                    try simp only [Go.Act.put, List.setIfInBounds_toArray, List.set_cons_zero, List.set_cons_succ]
                    refine wpAnyH_takeD (i := 7) (v := ?_) (some 98) rfl rfl (by kernel_rfl) (by kernel_rfl) (by kernel_rfl) (fun _ _ _ h => h) (Or.inl ⟨by rfl, ?_⟩) (by assumption) ?_
                    rotate_left
                    · intro w' hSw
                      go_simp
                      first | done | with_reducible rfl
                    try simp only [Go.Act.put, List.setIfInBounds_toArray, List.set_cons_zero, List.set_cons_succ]
                    refine wpAnyH_takeD (i := 8) (v := ?_) (some 99) rfl rfl (by kernel_rfl) (by kernel_rfl) (by kernel_rfl) (fun _ _ _ h => h) (Or.inl ⟨by rfl, ?_⟩) (by assumption) ?_
                    rotate_left
                    · intro w' hSw
                      go_simp
                      first | done | with_reducible rfl
                    try simp only [Go.Act.put, List.setIfInBounds_toArray, List.set_cons_zero, List.set_cons_succ]
                    refine wpAnyH_takeD (i := 9) (v := ?_) (some 100) rfl rfl (by kernel_rfl) (by kernel_rfl) (by kernel_rfl) (fun _ _ _ h => h) (Or.inl ⟨by rfl, ?_⟩) (by assumption) ?_
                    rotate_left
                    · intro w' hSw
                      go_simp
                      first | done | with_reducible rfl
                    try simp only [Go.Act.put, List.setIfInBounds_toArray, List.set_cons_zero, List.set_cons_succ]
                    refine wpAnyH_takeD (i := 10) (v := ?_) (some 101) rfl rfl (by kernel_rfl) (by kernel_rfl) (by kernel_rfl) (fun _ _ _ h => h) (Or.inl ⟨by rfl, ?_⟩) (by assumption) ?_
                    rotate_left
                    · intro w' hSw
                      go_simp
                      first | done | with_reducible rfl
                    try simp only [Go.Act.put, List.setIfInBounds_toArray, List.set_cons_zero, List.set_cons_succ]
                    refine wpAnyH_takeD (i := 11) (v := ?_) (some 102) rfl rfl (by kernel_rfl) (by kernel_rfl) (by kernel_rfl) (fun _ _ _ h => h) (Or.inl ⟨by rfl, ?_⟩) (by assumption) ?_
                    rotate_left
                    · intro w' hSw
                      go_simp
                      first | done | with_reducible rfl
                    try simp only [Go.Act.put, List.setIfInBounds_toArray, List.set_cons_zero, List.set_cons_succ]
                    refine wpAnyH_takeD (i := 12) (v := ?_) (some 103) rfl rfl (by kernel_rfl) (by kernel_rfl) (by kernel_rfl) (fun _ _ _ h => h) (Or.inl ⟨by rfl, ?_⟩) (by assumption) ?_
                    rotate_left
                    · intro w' hSw
                      go_simp
                      first | done | with_reducible rfl
                    try simp only [Go.Act.put, List.setIfInBounds_toArray, List.set_cons_zero, List.set_cons_succ]
                    refine wpAnyH_takeD (i := 13) (v := ?_) (some 104) rfl rfl (by kernel_rfl) (by kernel_rfl) (by kernel_rfl) (fun _ _ _ h => h) (Or.inl ⟨by rfl, ?_⟩) (by assumption) ?_
                    rotate_left
                    · intro w' hSw
                      go_simp
                      first | done | with_reducible rfl
                    try simp only [Go.Act.put, List.setIfInBounds_toArray, List.set_cons_zero, List.set_cons_succ]
                    refine wpAnyH_takeD (i := 14) (v := ?_) (some 105) rfl rfl (by kernel_rfl) (by kernel_rfl) (by kernel_rfl) (fun _ _ _ h => h) (Or.inl ⟨by rfl, ?_⟩) (by assumption) ?_
                    rotate_left
                    · intro w' hSw
                      go_simp
                      first | done | with_reducible rfl
                    try simp only [Go.Act.put, List.setIfInBounds_toArray, List.set_cons_zero, List.set_cons_succ]
                    refine wpAnyH_takeD (i := 15) (v := ?_) (some 106) rfl rfl (by kernel_rfl) (by kernel_rfl) (by kernel_rfl) (fun _ _ _ h => h) (Or.inl ⟨by rfl, ?_⟩) (by assumption) ?_
                    rotate_left
                    · intro w' hSw
                      go_simp
                      first | done | with_reducible rfl
                    try simp only [Go.Act.put, List.setIfInBounds_toArray, List.set_cons_zero, List.set_cons_succ]
                    refine wpAnyH_takeD (i := 16) (v := ?_) (some 107) rfl rfl (by kernel_rfl) (by kernel_rfl) (by kernel_rfl) (fun _ _ _ h => h) (Or.inl ⟨by rfl, ?_⟩) (by assumption) ?_
                    rotate_left
                    · intro w' hSw
                      go_simp
                      first | done | with_reducible rfl
                    try simp only [Go.Act.put, List.setIfInBounds_toArray, List.set_cons_zero, List.set_cons_succ]
                    refine wpAnyH_takeD (i := 17) (v := ?_) (some 108) rfl rfl (by kernel_rfl) (by kernel_rfl) (by kernel_rfl) (fun _ _ _ h => h) (Or.inl ⟨by rfl, ?_⟩) (by assumption) ?_
                    rotate_left
                    · intro w' hSw
                      obtain ⟨m0, m1⟩ := HCL.out w' hSw
                      go_simp
                      first | done | with_reducible rfl
                    try simp only [Go.Act.put, List.setIfInBounds_toArray, List.set_cons_zero, List.set_cons_succ]
                    refine wpAnyH_ready (rs := [18]) (by kernel_rfl) (by simp) ?_
                    refine AllReadyH.cons rfl (fun K hK => ?_) AllReadyH.nil
                    go_simp
                    refine (HC0.out _ (HCR.out _ hHeld)).mono ?_; rintro e v9 ⟨rfl, h9⟩
                    subst h9
                    try go_simp
                    refine hK.out _ _ (hHeld) (fun hHeld => ?_)
                    clear hK K
                    try change wpAnyH _ _ _ _ _ _ _ (Go.Act.put _ (some 109) _) _
                    try simp only [Go.Act.put, List.setIfInBounds_toArray, List.set_cons_zero, List.set_cons_succ]
                    refine wpAnyH_takeD (i := 19) (v := ?_) (some 110) rfl rfl (by kernel_rfl) (by kernel_rfl) (by kernel_rfl) (fun _ _ _ h => h) (Or.inl ⟨by rfl, ?_⟩) (by assumption) ?_
                    rotate_left
                    · intro w' hSw
                      go_simp
                      first | done | with_reducible rfl
                    try simp only [Go.Act.put, List.setIfInBounds_toArray, List.set_cons_zero, List.set_cons_succ]
                    refine wpAnyH_takeD (i := 20) (v := ?_) (some 111) rfl rfl (by kernel_rfl) (by kernel_rfl) (by kernel_rfl) (fun _ _ _ h => h) (Or.inl ⟨by rfl, ?_⟩) (by assumption) ?_
                    rotate_left
                    · intro w' hSw
                      go_simp
                      first | done | with_reducible rfl
                    try simp only [Go.Act.put, List.setIfInBounds_toArray, List.set_cons_zero, List.set_cons_succ]
                    refine wpAnyH_takeD (i := 21) (v := ?_) (some 112) rfl rfl (by kernel_rfl) (by kernel_rfl) (by kernel_rfl) (fun _ _ _ h => h) (Or.inl ⟨by rfl, ?_⟩) (by assumption) ?_
                    rotate_left
                    · intro w' hSw
                      go_simp
                      first | done | with_reducible rfl
                    try simp only [Go.Act.put, List.setIfInBounds_toArray, List.set_cons_zero, List.set_cons_succ]
                    refine wpAnyH_takeD (i := 22) (v := ?_) (some 113) rfl rfl (by kernel_rfl) (by kernel_rfl) (by kernel_rfl) (fun _ _ _ h => h) (Or.inl ⟨by rfl, ?_⟩) (by assumption) ?_
                    rotate_left
                    · intro w' hSw
                      go_simp
                      first | done | with_reducible rfl
                    try simp only [Go.Act.put, List.setIfInBounds_toArray, List.set_cons_zero, List.set_cons_succ]
                    refine wpAnyH_takeD (i := 23) (v := ?_) (some 114) rfl rfl (by kernel_rfl) (by kernel_rfl) (by kernel_rfl) (fun _ _ _ h => h) (Or.inl ⟨by rfl, ?_⟩) (by assumption) ?_
                    rotate_left
                    · intro w' hSw
                      go_simp
                      first | done | with_reducible rfl
                    try simp only [Go.Act.put, List.setIfInBounds_toArray, List.set_cons_zero, List.set_cons_succ]
                    refine wpAnyH_takeD (i := 24) (v := ?_) (some 115) rfl rfl (by kernel_rfl) (by kernel_rfl) (by kernel_rfl) (fun _ _ _ h => h) (Or.inl ⟨by rfl, ?_⟩) (by assumption) ?_
                    rotate_left
                    · intro w' hSw
                      go_simp
                      first | done | with_reducible rfl
                    try simp only [Go.Act.put, List.setIfInBounds_toArray, List.set_cons_zero, List.set_cons_succ]
                    refine wpAnyH_takeD (i := 25) (v := ?_) (some 116) rfl rfl (by kernel_rfl) (by kernel_rfl) (by kernel_rfl) (fun _ _ _ h => h) (Or.inl ⟨by rfl, ?_⟩) (by assumption) ?_
                    rotate_left
                    · intro w' hSw
                      go_simp
                      first | done | with_reducible rfl
                    try simp only [Go.Act.put, List.setIfInBounds_toArray, List.set_cons_zero, List.set_cons_succ]
                    refine wpAnyH_takeD (i := 26) (v := ?_) (some 117) rfl rfl (by kernel_rfl) (by kernel_rfl) (by kernel_rfl) (fun _ _ _ h => h) (Or.inl ⟨by rfl, ?_⟩) (by assumption) ?_
                    rotate_left
                    · intro w' hSw
                      go_simp
                      first | done | with_reducible rfl
                    try simp only [Go.Act.put, List.setIfInBounds_toArray, List.set_cons_zero, List.set_cons_succ]
                    refine wpAnyH_takeD (i := 27) (v := ?_) (some 118) rfl rfl (by kernel_rfl) (by kernel_rfl) (by kernel_rfl) (fun _ _ _ h => h) (Or.inl ⟨by rfl, ?_⟩) (by assumption) ?_
                    rotate_left
                    · intro w' hSw
                      obtain ⟨m0, m1⟩ := HCL.out w' hSw
                      go_simp
                      first | done | with_reducible rfl
                    try simp only [Go.Act.put, List.setIfInBounds_toArray, List.set_cons_zero, List.set_cons_succ]
                    refine wpAnyH_ready (rs := [28]) (by kernel_rfl) (by simp) ?_
                    refine AllReadyH.cons rfl (fun K hK => ?_) AllReadyH.nil
                    go_simp
                    refine (HC0.out _ (HCR.out _ hHeld)).mono ?_; rintro e v9 ⟨rfl, h9⟩
                    subst h9
                    try go_simp
                    refine hK.out _ _ (hHeld) (fun hHeld => ?_)
                    clear hK K
                    try change wpAnyH _ _ _ _ _ _ _ (Go.Act.put _ (some 119) _) _
                    try simp only [Go.Act.put, List.setIfInBounds_toArray, List.set_cons_zero, List.set_cons_succ]
                    refine wpAnyH_takeD (i := 29) (v := ?_) (some 120) rfl rfl (by kernel_rfl) (by kernel_rfl) (by kernel_rfl) (fun _ _ _ h => h) (Or.inl ⟨by rfl, ?_⟩) (by assumption) ?_
                    rotate_left
                    · intro w' hSw
                      go_simp
                      first | done | with_reducible rfl
                    try simp only [Go.Act.put, List.setIfInBounds_toArray, List.set_cons_zero, List.set_cons_succ]
                    refine wpAnyH_takeD (i := 30) (v := ?_) (some 121) rfl rfl (by kernel_rfl) (by kernel_rfl) (by kernel_rfl) (fun _ _ _ h => h) (Or.inl ⟨by rfl, ?_⟩) (by assumption) ?_
                    rotate_left
                    · intro w' hSw
                      go_simp
                      first | done | with_reducible rfl
                    try simp only [Go.Act.put, List.setIfInBounds_toArray, List.set_cons_zero, List.set_cons_succ]
                    refine wpAnyH_takeD (i := 31) (v := undef) (some 122) rfl rfl (by kernel_rfl) (by kernel_rfl) (by kernel_rfl) (fun _ _ _ h => h) (Or.inr ⟨by rfl, rfl⟩) (by assumption) ?_
                    try simp only [Go.Act.put, List.setIfInBounds_toArray, List.set_cons_zero, List.set_cons_succ]
                    refine wpAnyH_takeD (i := 32) (v := undef) (some 123) rfl rfl (by kernel_rfl) (by kernel_rfl) (by kernel_rfl) (fun _ _ _ h => h) (Or.inr ⟨by rfl, rfl⟩) (by assumption) ?_
                    try simp only [Go.Act.put, List.setIfInBounds_toArray, List.set_cons_zero, List.set_cons_succ]
                    refine wpAnyH_takeD (i := 33) (v := undef) (some 124) rfl rfl (by kernel_rfl) (by kernel_rfl) (by kernel_rfl) (fun _ _ _ h => h) (Or.inr ⟨by rfl, rfl⟩) (by assumption) ?_
                    try simp only [Go.Act.put, List.setIfInBounds_toArray, List.set_cons_zero, List.set_cons_succ]
                    refine wpAnyH_takeD (i := 34) (v := undef) (some 125) rfl rfl (by kernel_rfl) (by kernel_rfl) (by kernel_rfl) (fun _ _ _ h => h) (Or.inr ⟨by rfl, rfl⟩) (by assumption) ?_
                    try simp only [Go.Act.put, List.setIfInBounds_toArray, List.set_cons_zero, List.set_cons_succ]
                    refine wpAnyH_takeD (i := 35) (v := undef) (some 126) rfl rfl (by kernel_rfl) (by kernel_rfl) (by kernel_rfl) (fun _ _ _ h => h) (Or.inr ⟨by rfl, rfl⟩) (by assumption) ?_
                    try simp only [Go.Act.put, List.setIfInBounds_toArray, List.set_cons_zero, List.set_cons_succ]
                    refine wpAnyH_takeD (i := 36) (v := undef) (some 127) rfl rfl (by kernel_rfl) (by kernel_rfl) (by kernel_rfl) (fun _ _ _ h => h) (Or.inr ⟨by rfl, rfl⟩) (by assumption) ?_
                    try simp only [Go.Act.put, List.setIfInBounds_toArray, List.set_cons_zero, List.set_cons_succ]
                    refine wpAnyH_takeD (i := 37) (v := undef) (some 128) rfl rfl (by kernel_rfl) (by kernel_rfl) (by kernel_rfl) (fun _ _ _ h => h) (Or.inr ⟨by rfl, rfl⟩) (by assumption) ?_
                    try simp only [Go.Act.put, List.setIfInBounds_toArray, List.set_cons_zero, List.set_cons_succ]
                    refine wpAnyH_takeD (i := 38) (v := undef) (some 129) rfl rfl (by kernel_rfl) (by kernel_rfl) (by kernel_rfl) (fun _ _ _ h => h) (Or.inr ⟨by rfl, rfl⟩) (by assumption) ?_
                    try simp only [Go.Act.put, List.setIfInBounds_toArray, List.set_cons_zero, List.set_cons_succ]
                    refine wpAnyH_takeD (i := 39) (v := undef) (some 130) rfl rfl (by kernel_rfl) (by kernel_rfl) (by kernel_rfl) (fun _ _ _ h => h) (Or.inr ⟨by rfl, rfl⟩) (by assumption) ?_
                    try simp only [Go.Act.put, List.setIfInBounds_toArray, List.set_cons_zero, List.set_cons_succ]
                    refine wpAnyH_takeD (i := 40) (v := undef) (some 131) rfl rfl (by kernel_rfl) (by kernel_rfl) (by kernel_rfl) (fun _ _ _ h => h) (Or.inr ⟨by rfl, rfl⟩) (by assumption) ?_
                    try simp only [Go.Act.put, List.setIfInBounds_toArray, List.set_cons_zero, List.set_cons_succ]
                    refine wpAnyH_takeD (i := 41) (v := ?_) (some 132) rfl rfl (by kernel_rfl) (by kernel_rfl) (by kernel_rfl) (fun _ _ _ h => h) (Or.inl ⟨by rfl, ?_⟩) (by assumption) ?_
                    rotate_left
                    · intro w' hSw
                      go_simp
                      first | done | with_reducible rfl
                    try simp only [Go.Act.put, List.setIfInBounds_toArray, List.set_cons_zero, List.set_cons_succ]
                    refine wpAnyH_takeD (i := 42) (v := ?_) (some 133) rfl rfl (by kernel_rfl) (by kernel_rfl) (by kernel_rfl) (fun _ _ _ h => h) (Or.inl ⟨by rfl, ?_⟩) (by assumption) ?_
                    rotate_left
                    · intro w' hSw
                      go_simp
                      first | done | with_reducible rfl
                    try simp only [Go.Act.put, List.setIfInBounds_toArray, List.set_cons_zero, List.set_cons_succ]
                    refine wpAnyH_takeD (i := 43) (v := ?_) (some 134) rfl rfl (by kernel_rfl) (by kernel_rfl) (by kernel_rfl) (fun _ _ _ h => h) (Or.inl ⟨by rfl, ?_⟩) (by assumption) ?_
                    rotate_left
                    · intro w' hSw
                      go_simp
                      first | done | with_reducible rfl
                    try simp only [Go.Act.put, List.setIfInBounds_toArray, List.set_cons_zero, List.set_cons_succ]
                    refine wpAnyH_takeD (i := 44) (v := ?_) (some 135) rfl rfl (by kernel_rfl) (by kernel_rfl) (by kernel_rfl) (fun _ _ _ h => h) (Or.inl ⟨by rfl, ?_⟩) (by assumption) ?_
                    rotate_left
                    · intro w' hSw
                      go_simp
                      first | done | with_reducible rfl
                    try simp only [Go.Act.put, List.setIfInBounds_toArray, List.set_cons_zero, List.set_cons_succ]
                    refine wpAnyH_done (by kernel_rfl) ?_ _

                    generalize wr.drew = w9 at *
                    clear HSLV
                    try clear hHeld
                    go_wp2_with (at_delete; refine wpList_delete_own _ rfl _ _ 41 3 rfl 3 kInt Try.underlying41 _ s 100 _ rfl hown9 _ _ rfl HY64.out.key ?_; intro w8 hown8 hturn8)
                    have HF8 := Lib.hid (hF9.trans (Fr.of_turned hturn8) (fun _ _ h => h))
                    have HM8 := Lib.hid (show AM w8 s 100 (dels Ds (ys.take ((q + 1) + 1))) from by rw [HTK1.out, dels_snoc]; exact hown8)
                    clear hown8 hturn8 m0 hown9 hF9
                    go_roundw
                    case rel => exact ⟨(q + 1) + 1, by go_num, by omega, HM8, HF8⟩
                    case measure => simp [intOf]; omega
              · have hlkz : ¬ (k : Int) < (L : Int) := by omega
                have hke : k = L := by omega
                have HM6 := Lib.hid (show AM wr s 100 (dels Ds ys) from by
                  have := HMK.out
                  rw [hke, ← HL.out, List.take_length] at this
                  exact this)
                have HF6 := Lib.hid (show Fr (fun _ => False) w wr from HF5.out.trans HFK.out (fun x hx e => by omega))
                have HC6 := Lib.hid (show Clk wr g (nw : Int) m nc (dels Dc ys) from HC5.out.fr HFK.out (fun x hx e => by
                  rcases hx with hx | hx
                  · omega
                  · exact (HMB.out _ (by rw [hx, e])).2 rfl))
                have HAL6 := Lib.hid (HAL.out.dels ys)
                have HGT := Lib.hid (show ∀ x, has (dels Ds ys) (.int .i64 x) = true → ¬ tickOf (dels Ds ys) x ≤ (nw : Int) from fun x hx h => by
                  have h1 := hx
                  rw [dels_has] at h1
                  have h2 : has Ds (.int .i64 x) = true ∧ x ∉ ys := by simpa using h1
                  obtain ⟨kk, _, _, e3, e4⟩ := HAL.out.tick x h2.1
                  rw [dels_tick _ _ h2.2] at h
                  exact h2.2 ((HDUE.out.2.1 x).2 ⟨by rw [HAL.out.same]; exact h2.1, by rw [e3, ← e4]; exact h⟩))
                have hown := HM6.out
                clear hke HMK HFK HC5 HF5 HAL
                go_wp2_with (first
                  | (at_range; refine wpList_range_own _ rfl _ 41 rfl 3 3 kInt Try.underlying41 _ s 100 _ rfl hown ?_; intro w7 hrg7 hg7 hs7)
                  | go_in)
                have hf7 : Fr (fun _ => False) wr w7 := (Fr.of_grown hg7).mono (fun _ _ h => by simp at h)
                have hsl : s < wr.heap.size := hown.lt
                have HC7 := Lib.hid (HC6.out.fr hf7 (fun _ _ h => h))
                have HF7 := Lib.hid (HF6.out.trans hf7 (fun _ _ h => h))
                have hCb : ∀ x, CS g m x → x < wr.heap.size := fun x hx => by
                  rcases hx with hx | hx
                  · have := HC6.out.1.lt; omega
                  · rcases HC6.out.2 with ⟨e, _⟩ | ⟨b', e, hb⟩
                    · rw [e] at hx; cases hx
                    · rw [e] at hx; injection hx with hx; subst hx; exact hb.lt
                obtain ⟨r, hr⟩ : ∃ r, wr.heap.size = r := ⟨_, rfl⟩
                have hwr : w.heap.size ≤ r := by rw [← hr]; exact HF6.out.size
                rw [hr] at hrg7 hCb hsl ⊢
                have HCB := Lib.hid hCb
                clear hg7 hs7 hown HM6 HC6 HF6 hf7 hCb hr
                generalize wr = wc at *
                go_loopw [] (fun wr => ∃ (left : Lit → Bool) (cnt : Nat), Rng wr s r 100 (dels Ds ys) left cnt ∧ Hid (Fr (fun x => x = r) w7 wr)) (fun wr => wr.rangeLeft s r)
                case atStart => exact ⟨_, _, hrg7, Lib.hid (Fr.refl _ _)⟩
                case round =>
                  clear hrg7
                  obtain ⟨left, cnt, hrg, HFR⟩ := hrel
                  go_wp2_with (first
                    | (at_next; refine wpList_next_ranges_ii _ rfl _ rfl 3 3 .i64 .i64 kInt Try.underlying3 Try.underlying3 s r 100 _ _ _ rfl hrg ?_ ?_)
                    | go_in)
                  · intro _ _
                    have HM9 := Lib.hid (World.ranges.owns hrg)
                    have HC9 := Lib.hid (HC7.out.fr HFR.out (fun x hx e => by have := HCB.out x hx; omega))
                    have HF9 := Lib.hid (show Fr (fun _ => False) w wr from HF7.out.trans HFR.out (fun x hx e => by omega))
                    clear hrg HFR HC7 HF7
                    go_wp2
                    go_roundw
                    case rel => exact ⟨i + 1, nw, nc, m, _, _, rfl, by go_num, by omega, hnwb, hnc, HC9, HMB, HM9, HAL6, HF9⟩
                    case measure => simp [intOf]; omega
                  · intro x c w8 cnt8 hwx hwc hlx hat hrg8 hlt8 hg8 hs8 hen
                    have hf8 : Fr (fun k => k = r) wr w8 := (Fr.of_grown hg8).mono (fun _ _ e => (Option.some.inj e).symm)
                    have HFR8 := Lib.hid (HFR.out.trans hf8 (fun _ _ e => e))
                    have hnle : ¬ c ≤ (nw : Int) := by
                      have := HGT.out x (has_true_of_atKey hat)
                      rw [tickOf_eq (hat _)] at this
                      omega
                    have HLE := Lib.hid (show w8.rangeLeft s r < wr.rangeLeft s r from by rw [World.ranges.left_eq hrg8, World.ranges.left_eq hrg]; exact hlt8)
                    clear hs8 hg8 hf8 HFR
                    go_wp2
                    go_roundw
                    case rel => exact ⟨_, cnt8, hrg8, HFR8⟩
                    case measure => exact HLE.out
        · have hltz : ¬ (i : Int) < (n1 : Int) := by omega
          clear HM HAL HMB
          go_wp2_with fail
          refine (now_any g (now : Int) m nc Dc wr HC.out).mono ?_; rintro e w9 ⟨rfl, rfl⟩
          clear HC
          go_wp2
          go_ret
          exact ⟨rfl, HF.out⟩
end Go.Proofs.Ytholaofgdahcbaa
