/- Due, where two alarms are due: the walk. -/
import Derived.Test.YtholaofgdahcbaaTd
namespace Go.Proofs.Ytholaofgdahcbaa
open Go.RowKit Go.Maps

theorem Rng.ne {w : World} {b r n cnt g : Nat} {t : TypeId} {cs : Array Value} {D : DataW Unit} {left : Lit → Bool} (h : Rng w b r n D left cnt) (hg : Bk w g t cs) : g ≠ r := by
  rintro rfl
  obtain ⟨es, clock, since, seen, c0, e1, e2, e3, e4, e5, rest⟩ := h
  unfold Bk at hg
  rw [hg] at e5
  cases e5
theorem OwnI.not {w : World} {v : Value} {ys : List Int} {k : Nat} (h : OwnI w v ys) (hk : ∀ g t cs, Bk w g t cs → g ≠ k) : v.ownBlock ≠ some k := by
  rcases h.form with ⟨rfl, _⟩ | ⟨g, cap, cur, rfl, _, _, hb, _⟩
  · simp [Value.ownBlock]
  · intro e
    have e' : g = k := by simpa [Value.ownBlock] using e
    exact hk g _ _ hb e'
theorem cmp_15 {D : DataW Unit} (ht : tickOf D 1 = tickOf D 5) : cmpC D 1 5 < 0 ∧ ¬ cmpC D 5 1 < 0 := by
  unfold cmpC
  rw [ht, cmpI_self]
  decide

theorem sort15_any (d cap g b n : Nat) (now : Int) (D : DataW Unit) (ys : List Int) (cur : Array Value) (w : World) (h : Clk w g now (some b) n D) (ht : tickOf D 1 = tickOf D 5) (hys : ys = [1, 5] ∨ ys = [5, 1]) (hd : Bk w d 3 cur) (hc : ∀ j (hj : j < ys.length), cur[j]? = some (IV ys[j])) :
    Calls Try.prog 23 #[.slice (some ⟨d, 0, none⟩) 2 cap, cmpF g] w fun e w' => e = .returned (.tuple #[]) ∧ ∃ cur', Bk w' d 3 cur' ∧ cur'[0]? = some (.int .i64 1) ∧ cur'[1]? = some (.int .i64 5) ∧ Fr (fun k => k = d) w w' := by
  obtain ⟨k1, k2⟩ := cmp_15 ht
  rcases hys with rfl | rfl
  · have h0 : cur[0]? = some (.int .i64 1) := hc 0 (by simp)
    have h1 : cur[1]? = some (.int .i64 5) := hc 1 (by simp)
    refine (sort2_any d cap g b n now 1 5 D cur w h (by constructor <;> omega) (by constructor <;> omega) hd h0 h1).mono ?_
    rintro e w' ⟨he, hb, hf⟩
    unfold sorted2 at hb
    rw [if_neg k2] at hb
    exact ⟨he, cur, hb, h0, h1, hf⟩
  · have h0 : cur[0]? = some (.int .i64 5) := hc 0 (by simp)
    have h1 : cur[1]? = some (.int .i64 1) := hc 1 (by simp)
    refine (sort2_any d cap g b n now 5 1 D cur w h (by constructor <;> omega) (by constructor <;> omega) hd h0 h1).mono ?_
    rintro e w' ⟨he, hb, hf⟩
    unfold sorted2 at hb
    rw [if_pos k1] at hb
    have l0 := (Array.getElem?_eq_some_iff.1 h0).1
    have l1 := (Array.getElem?_eq_some_iff.1 h1).1
    exact ⟨he, _, hb, by simp [l0], by simp [l1], hf⟩

set_option maxRecDepth 100000 in
set_option maxHeartbeats 2000000 in
theorem due_known (g b n : Nat) (now : Int) (D : DataW Unit) (w : World) (h : Clk w g now (some b) n D) (hn : n ≤ 1048576) (hD : ∀ x, (has D (.int .i64 x) = true ∧ tickOf D x ≤ now) ↔ x = 1 ∨ x = 5) (ht : tickOf D 1 = tickOf D 5) :
    Calls Try.prog 13 #[.pointer (some ⟨g, 0, none⟩)] w fun e w' => ∃ d cap, e = .returned (.slice (some ⟨d, 0, none⟩) 2 cap) ∧ w'.cell? ⟨d, 0, none⟩ = some (.int .i64 1) ∧ w'.cell? ⟨d, 1, none⟩ = some (.int .i64 5) ∧ Fr (CS g (some b)) w w' := by
  have c1 : w.cell? ⟨g, 1, none⟩ = some (.map (some b)) := h.1.cell 1
  have hown : AM w b n D := by
    rcases h.2 with ⟨e, _⟩ | ⟨b', e, hb⟩
    · cases e
    · injection e with e; subst e; exact hb
  have hsz := World.ownsMap.size_le hown
  have hblt := hown.lt
  have hglt := h.1.lt
  have H := Lib.hid h
  clear h
  go_enter Try.func13, Try.ntmps13
  go_wp2_with (first
    | (at_range; refine wpList_range_own _ rfl _ 41 rfl 3 3 kInt Try.underlying41 _ b n _ rfl hown ?_; intro w0 hrg0 hg0 hs0)
    | go_in)
  have hf0 : Fr (fun _ => False) w w0 := (Fr.of_grown hg0).mono (fun _ _ h => by simp at h)
  clear c1 hown hg0
  go_frame
  go_loopw [3] (fun u wr => ∃ (left : Lit → Bool) (cnt : Nat) (ys : List Int) (v : Value), u = v ∧ OwnI wr v ys ∧ Rng wr b w.heap.size n D left cnt ∧ Got D now left ys ∧ Fresh w wr v ∧ ys.length + cnt ≤ 1048576)
    (fun _ wr => wr.rangeLeft b w.heap.size)
  case atStart => exact ⟨_, _, [], _, rfl, OwnI.nil _, hrg0, Got.start _ _, Fresh.nil _ _ hf0, by simp; omega⟩
  case round =>
    clear hrg0 hf0 hs0
    obtain ⟨left, cnt, ys, v, rfl, hrow, hrg, hgot, hfr, hlen⟩ := hrel
    go_wp2_with (first
      | (at_next; refine wpList_next_ranges_ii _ rfl _ rfl 3 3 .i64 .i64 kInt Try.underlying3 Try.underlying3 b w.heap.size n _ _ _ rfl hrg ?_ ?_)
      | go_in)
    · intro _ hl0
      have hys := two_of hgot.1 (fun x => (hgot.done hl0 x).trans (hD x))
      have hl2 : ys.length = 2 := by rcases hys with rfl | rfl <;> rfl
      rcases hrow.form with ⟨_, h0⟩ | ⟨d, cap, cur, rfl, _, _, hbk, hcur⟩
      · rw [h0] at hl2; simp at hl2
      rw [hl2] at hrow hfr
      have hdn : w.heap.size ≤ d := hfr.2 d rfl
      have hK := H.out.fr hfr.1 (fun _ _ h => h)
      have HF := Lib.hid hfr.1
      have HC := Lib.hid (sort15_any d cap g b n now D ys cur wr hK ht hys hbk hcur)
      have HOW := Lib.hid (World.ranges.owns hrg)
      clear hrg hrow hgot hfr hlen hl0 hcur hys hK hbk
      go_wp2_with fail
      refine HC.out.mono ?_; rintro e w1 ⟨rfl, cur', hb1, e0, e1, hf1⟩
      have HF1 := Lib.hid (HF.out.trans hf1 (fun x hx e => by omega))
      have hown1 : AM w1 b n D := AM.fr HOW.out hf1 (by omega)
      have HB1 := Lib.hid hb1
      have hK1 := H.out.1.fr HF1.out (fun h => h)
      have c1 : w1.cell? ⟨g, 1, none⟩ = some (.map (some b)) := hK1.cell 1
      have m0 : w1.cell? ⟨d, 0, none⟩ = some (.int .i64 1) := (hb1.cell 0).trans e0
      clear hb1 hf1 HC HF HOW
      have HK1 := Lib.hid hK1
      clear hK1
      go_wp2_with fail
      refine wp_loop_rounds 3 ?_
      rw [rounds_succ]
      go_wp2_with (at_delete; refine wpList_delete_own _ rfl _ _ 41 3 rfl 3 kInt Try.underlying41 _ b n _ rfl hown1 _ _ rfl (I64.key ⟨by omega, by omega⟩) ?_; intro w2 hown2 hturn2)
      have hf2 := Fr.of_turned hturn2
      have c2 : w2.cell? ⟨g, 1, none⟩ = some (.map (some b)) := (HK1.out.fr hf2 (hown1.ne HK1.out)).cell 1
      have m2 : w2.cell? ⟨d, 1, none⟩ = some (.int .i64 5) := ((HB1.out.fr hf2 (by omega)).cell 1).trans e1
      have HF2 := Lib.hid hf2
      clear c1 m0 hturn2 hf2
      rw [rounds_succ]
      go_wp2_with (at_delete; refine wpList_delete_own _ rfl _ _ 41 3 rfl 3 kInt Try.underlying41 _ b n _ rfl hown2 _ _ rfl (I64.key ⟨by omega, by omega⟩) ?_; intro w3 hown3 hturn3)
      have HF3 := Lib.hid (HF2.out.trans (Fr.of_turned hturn3) (fun _ _ h => h))
      clear c2 m2 hturn3
      rw [rounds_succ]
      go_wp2
      go_ret
      have hbe := HB1.out.fr HF3.out (by omega)
      exact ⟨d, cap, rfl, (hbe.cell 0).trans e0, (hbe.cell 1).trans e1, (HF1.out.mono (fun _ _ h => h.elim)).trans HF3.out (fun x _ e => .inr (by rw [e]))⟩
    · intro x c w1 cnt1 hwx hwc hlx hat hrg1 hlt hg1 hs1 hen
      have hf1 : Fr (fun k => k = w.heap.size) wr w1 := (Fr.of_grown hg1).mono (fun _ _ e => (Option.some.inj e).symm)
      have hno : u3.ownBlock ≠ some w.heap.size := hrow.not (fun g t cs hb => Rng.ne hrg hb)
      have hrow1 : OwnI w1 u3 ys := hrow.fr hf1 (fun k hk e => hno (by rw [hk, e]))
      have hK1 := (H.out.fr hfr.1 (fun _ _ h => h)).1.fr hf1 (by omega)
      have c0 : w1.cell? ⟨g, 0, none⟩ = some (.int .i64 now) := hK1.cell 0
      have hfr1 : Fresh w w1 u3 := ⟨hfr.1.trans hf1 (fun x hx e => by omega), hfr.2⟩
      have hx : I64 x := by have := bounds_i64 hwx; exact ⟨this.1, this.2⟩
      clear hs1
      by_cases hc : c ≤ now
      · have hg' := hgot.yes hx hlx hat hc
        go_wp2_with (at_builtin; refine wpList_appendI _ rfl (.tmp 24) (.tmp 26) rfl u3 ys rfl x hrow1 rfl (by omega) ?_; intro g1 cp w2 ho1 hf2 hm)
        go_roundw
        case rel =>
          refine ⟨_, cnt1, ys ++ [x], _, rfl, by simpa using ho1, Rng.fr hrg1 hf2 (fun e => ?_) (fun e => hno e), hg', hfr1.step hf2 hm, by simp; omega⟩
          have := hfr.2 _ e
          omega
        case measure =>
          have hrg2 : Rng w2 b w.heap.size n D (fun z => left z && !z.sameKey (Lit.int .i64 x)) cnt1 := Rng.fr hrg1 hf2 (fun e => by have := hfr.2 _ e; omega) (fun e => hno e)
          rw [World.ranges.left_eq hrg2, World.ranges.left_eq hrg]; exact hlt
      · have hg' := hgot.no hat hc
        go_wp2
        go_roundw
        case rel => exact ⟨_, cnt1, ys, _, rfl, hrow1, hrg1, hg', hfr1, by omega⟩
        case measure => rw [World.ranges.left_eq hrg1, World.ranges.left_eq hrg]; exact hlt
end Go.Proofs.Ytholaofgdahcbaa
