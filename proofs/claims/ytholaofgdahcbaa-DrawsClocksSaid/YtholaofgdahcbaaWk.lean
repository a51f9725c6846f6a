/- slices.pdqsortCmpFunc, SortFunc under a clock's comparison. -/
import Derived.Test.YtholaofgdahcbaaWj
import Derived.Sort.Walk13a
import Derived.Sort.AssemblyPlain
import Derived.Sort.LotD4
import Derived.Sort.LotB
import Derived.Deep.Cut
namespace Go.Proofs.Ytholaofgdahcbaa
open Go.RowKit Go.Maps Go.Sort

theorem cmpI_lt (a b : Int) : cmpI a b < 0 ↔ a < b := by
  unfold cmpI; split
  · constructor <;> intro <;> omega
  · split <;> constructor <;> intro <;> omega
theorem cmpI_zero (a b : Int) : cmpI a b = 0 ↔ a = b := by
  unfold cmpI; split
  · constructor <;> intro <;> omega
  · split <;> constructor <;> intro <;> omega
/-- By tick, then id. -/
theorem ltC_iff (D : DataW Unit) (x y : Int) : ltC D x y = true ↔ (tickOf D x < tickOf D y ∨ tickOf D x = tickOf D y ∧ x < y) := by
  unfold ltC cmpC
  by_cases h : cmpI (tickOf D x) (tickOf D y) = 0
  · have e := (cmpI_zero _ _).1 h
    rw [h, orL_on]
    by_cases h2 : cmpI x y = 0
    · rw [h2, orL_on]
      have := (cmpI_zero _ _).1 h2
      simp [orL]; omega
    · rw [orL_go h2, decide_eq_true_iff, cmpI_lt]
      omega
  · have e : tickOf D x ≠ tickOf D y := fun e => h ((cmpI_zero _ _).2 e)
    rw [orL_go h, decide_eq_true_iff, cmpI_lt]
    omega
theorem ltC_not (D : DataW Unit) (x y : Int) : ltC D x y = false ↔ (tickOf D y < tickOf D x ∨ tickOf D x = tickOf D y ∧ y ≤ x) := by
  have := ltC_iff D x y
  cases h : ltC D x y
  · rw [h] at this
    have h2 : ¬ (tickOf D x < tickOf D y ∨ tickOf D x = tickOf D y ∧ x < y) := fun h => Bool.false_ne_true (this.2 h)
    simp only [true_iff]; omega
  · rw [h] at this
    have h2 := this.1 rfl
    constructor
    · intro h; cases h
    · intro h; omega
theorem ltC_swo (D : DataW Unit) : SWO (ltC D) where
  irrefl x := by rw [ltC_not]; omega
  trans x y z := by rw [ltC_iff, ltC_iff, ltC_iff]; omega
  ntrans x y z := by rw [ltC_not, ltC_not, ltC_not]; omega
theorem hint_two {h : Hint} (e : hintCode h = 2) : h = .decreasing := by cases h <;> simp [hintCode] at e ⊢
theorem eighth2 {x y p q : Nat} (h1 : q ≤ p) (h2 : y ≤ x) (z : Int) (hz : z = ((x : Int) - (y : Int)) / 8) : decide (z ≤ (p : Int) - (q : Int)) = decide (p - q ≥ (x - y) / 8) :=
  decide_eq_decide.2 ⟨fun h => by omega, fun h => by omega⟩

set_option maxRecDepth 1000000 in
set_option maxHeartbeats 16000000 in
theorem pdq_any (w0 : World) (d cap g b n : Nat) (now : Int) (D : DataW Unit) (tl : List Value) (N : Nat) (h3 : (N : Int) ≤ 4611686018427387903) : ∀ (M a hi lim : Nat) (dk : Array Int) (w : World), hi - a < M → SR w0 d g b n now D tl dk w → dk.size = N → a ≤ hi → hi ≤ N → (lim : Int) ≤ 4611686018427387903 → Below (ltC D) a hi dk →
    Calls Try.prog 27 #[.slice (some ⟨d, 0, none⟩) N cap, .int .i64 a, .int .i64 hi, .int .i64 lim, cmpF g] w fun e w' => e = .returned (.tuple #[]) ∧ SR w0 d g b n now D tl (pdq (ltC D) dk a hi lim true true) w' := by
  intro M
  induction M with
  | zero => intro _ _ _ _ _ h; exact absurd h (Nat.not_lt_zero _)
  | succ M ih =>
    intro a0 b0 l0 dk w hM h hN h1 h2 h5 hB
    have H := Lib.hid h
    have HN := Lib.hid hN
    have HB := Lib.hid hB
    have HIH := Lib.hid ih
    clear h hN hB ih
    unfold cmpF at *
    go_enter Try.func27, Try.ntmps27
    go_wp2
    go_loopg [1, 2, 3, 10, 11] (b0 - a0) (fun k s1 s2 s3 s10 s11 wr => ∃ (a hi l : Nat) (wb wp : Bool) (dj : Array Int), s1 = .int .i64 a ∧ s2 = .int .i64 hi ∧ s3 = .int .i64 l ∧ s10 = .bool wb ∧ s11 = .bool wp ∧
      a ≤ hi ∧ hi ≤ N ∧ hi - a ≤ k ∧ k ≤ b0 - a0 ∧ (l : Int) ≤ 4611686018427387903 ∧ Hid (dj.size = N) ∧ Hid (Below (ltC D) a hi dj) ∧ Hid (SR w0 d g b n now D tl dj wr) ∧ Hid (pdq (ltC D) dj a hi l wb wp = pdq (ltC D) dk a0 b0 l0 true true))
    case atStart => exact ⟨a0, b0, l0, true, true, dk, rfl, rfl, rfl, rfl, rfl, h1, h2, Nat.le_refl _, Nat.le_refl _, h5, HN, HB, H, Lib.hid rfl⟩
    case round =>
      obtain ⟨a, hi, l, wb, wp, dj, rfl, rfl, rfl, rfl, rfl, q1, q2, q3, q4, q5, HD, HBL, HW, HE⟩ := hrel
      clear H HN HB h1 h2 h5
      have hsub : IntKind.i64.wrap ((hi : Int) - (a : Int)) = (hi : Int) - (a : Int) := IntWalk.i64_in _ (by omega)
      by_cases h12 : hi - a ≤ 12
      · have h12z : (hi : Int) - (a : Int) ≤ 12 := by omega
        have C := ins_any w0 d cap g b n now D tl a hi dj wr HW.out q1 (by rw [HD.out]; exact q2) (by rw [HD.out]; exact h3)
        rw [HD.out] at C
        unfold cmpF at C
        have HC := Lib.hid C
        clear C
        go_wp2_with fail
        refine HC.out.mono ?_; rintro e w1 ⟨rfl, h9⟩
        have HR := Lib.hid (show SR w0 d g b n now D tl (pdq (ltC D) dk a0 b0 l0 true true) w1 from by rw [← HE.out, pdq_small h12]; exact h9)
        clear h9 HC
        go_wp2
        (try simp only [Exit.inBlock, Exit.then]); refine bodyPost_ret (results_none rfl _ _ _) rfl ?_
        exact ⟨rfl, HR.out⟩
      · have h12z : ¬ ((hi : Int) - (a : Int) ≤ 12) := by omega
        by_cases hl0 : l = 0
        · subst hl0
          have C := heap_any w0 d cap g b n now D tl a hi dj wr HW.out q1 (by rw [HD.out]; exact q2) (by rw [HD.out]; exact h3)
          rw [HD.out] at C
          unfold cmpF at C
          have HC := Lib.hid C
          clear C
          rw [show ((0 : Nat) : Int) = 0 from rfl]
          go_wp2_with fail
          refine HC.out.mono ?_; rintro e w1 ⟨rfl, h9⟩
          have HR := Lib.hid (show SR w0 d g b n now D tl (pdq (ltC D) dk a0 b0 l0 true true) w1 from by rw [← HE.out, pdq_heap h12 rfl]; exact h9)
          clear h9 HC
          go_wp2
          (try simp only [Exit.inBlock, Exit.then]); refine bodyPost_ret (results_none rfl _ _ _) rfl ?_
          exact ⟨rfl, HR.out⟩
        · have hl0z : ((l : Int) == 0) = false := by simp; omega
          have hlw : IntKind.i64.wrap ((l : Int) - 1) = ((l - 1 : Nat) : Int) := by rw [show (l : Int) - 1 = ((l - 1 : Nat) : Int) by omega]; exact IntWalk.i64_in _ (by omega)
          have hlw2 : (l : Int) - 1 = ((l - 1 : Nat) : Int) := by omega
          obtain ⟨s1, B1, hc1, s2, B2, hpv, s3, B3⟩ := rd_facts (limit := l) (wb := wb) (wp := wp) (ltC_swo D) partialInsertionSort_holds reverseRange_holds (show a < hi by omega) (show hi ≤ dj.size by rw [HD.out]; exact q2) HBL.out
          have hE1 := fun h1 => pdq_done (lt := ltC D) (d := dj) (a := a) (b := hi) (limit := l) (wb := wb) (wp := wp) h12 hl0 h1
          have hE2 := fun h1 => pdq_eq (lt := ltC D) (d := dj) (a := a) (b := hi) (limit := l) (wb := wb) (wp := wp) h12 hl0 h1
          have hE3 := fun h1 => pdq_left (lt := ltC D) (d := dj) (a := a) (b := hi) (limit := l) (wb := wb) (wp := wp) h12 hl0 h1
          have hE4 := fun h1 => pdq_right (lt := ltC D) (d := dj) (a := a) (b := hi) (limit := l) (wb := wb) (wp := wp) h12 hl0 h1
          have hll : (rd (ltC D) dj a hi l wb wp).lim ≤ l := rd_lim_le
          have hR1 := (show wb = false → (rd (ltC D) dj a hi l wb wp).d1 = breakPatterns dj a hi ∧ (rd (ltC D) dj a hi l wb wp).lim = l - 1 from fun e => by subst e; exact rd_false)
          have hR2 := (show wb = true → (rd (ltC D) dj a hi l wb wp).d1 = dj ∧ (rd (ltC D) dj a hi l wb wp).lim = l from fun e => by subst e; exact rd_true)
          have hR3 : (rd (ltC D) dj a hi l wb wp).c = choosePivot (ltC D) (rd (ltC D) dj a hi l wb wp).d1 a hi := rd_c
          have hR4 := rd_dec (lt := ltC D) (d := dj) (a := a) (b := hi) (limit := l) (wb := wb) (wp := wp)
          have hR5 := rd_not (lt := ltC D) (d := dj) (a := a) (b := hi) (limit := l) (wb := wb) (wp := wp)
          have hR6 := rd_pi_yes (lt := ltC D) (d := dj) (a := a) (b := hi) (limit := l) (wb := wb) (wp := wp)
          have hR7 := rd_pi_no (lt := ltC D) (d := dj) (a := a) (b := hi) (limit := l) (wb := wb) (wp := wp)
          generalize rd (ltC D) dj a hi l wb wp = R at *
          rw [HD.out] at s1 s2 s3
          have HS1 := Lib.hid s1
          have HS2 := Lib.hid s2
          have HS3 := Lib.hid s3
          have HB3 := Lib.hid B3
          have HE1 := Lib.hid hE1
          have HE2 := Lib.hid hE2
          have HE3 := Lib.hid hE3
          have HE4 := Lib.hid hE4
          have HR1 := Lib.hid hR1
          have HR2 := Lib.hid hR2
          have HR3 := Lib.hid hR3
          have HR4 := Lib.hid hR4
          have HR5 := Lib.hid hR5
          have HR6 := Lib.hid hR6
          have HR7 := Lib.hid hR7
          obtain ⟨c1, c2⟩ := hc1
          obtain ⟨pv1, pv2⟩ := hpv
          clear s1 s2 s3 B1 B2 B3 hE1 hE2 hE3 hE4 hR1 hR2 hR3 hR4 hR5 hR6 hR7
          go_upto_if 39 with fail
          go_cut [3] from 21 (fun s3 wc => s3 = .int .i64 (R.lim : Nat) ∧ Hid (SR w0 d g b n now D tl R.d1 wc))
          case first =>
            cases wb
            · obtain ⟨e1, e2⟩ := HR1.out rfl
              have C := brk_long w0 d cap g b n now D tl a (hi - a) N dj wr HW.out HD.out (by omega) (by omega) h3
              rw [show a + (hi - a) = hi by omega] at C
              unfold cmpF at C
              have HC := Lib.hid C
              have HX := Lib.hid e1
              have HY := Lib.hid e2
              clear C e1 e2
              go_wp2_with fail
              refine HC.out.mono ?_; rintro e w1 ⟨rfl, h9⟩
              have HZ := Lib.hid h9
              clear h9 HC
              go_wp2_with fail
              go_meet
              case rel => exact ⟨by rw [HY.out], Lib.hid (by rw [HX.out]; exact HZ.out)⟩
            · obtain ⟨e1, e2⟩ := HR2.out rfl
              have HX := Lib.hid e1
              have HY := Lib.hid e2
              clear e1 e2
              go_wp2_with fail
              go_meet
              case rel => exact ⟨by rw [HY.out], Lib.hid (by rw [HX.out]; exact HW.out)⟩
          case rest =>
            obtain ⟨rfl, HW1⟩ := hcut
            clear HW
            have C := pivot_any w0 d cap g b n now D tl a hi N R.d1 wc HW1.out HS1.out q2 (by omega) h3
            rw [← HR3.out] at C
            unfold cmpF at C
            have HC := Lib.hid C
            clear C
            obtain ⟨cc, ch⟩ : ∃ ch, R.c = ch := ⟨_, rfl⟩
            obtain ⟨cp, chh⟩ := cc
            rw [ch] at HC HR4 HR5 c1 c2
            simp only at HC HR4 HR5 c1 c2
            clear ch
            go_upto_if 56 with (go_at_call 35; refine HC.out.mono ?_; rintro e w2 ⟨rfl, h9⟩)
            have HW2 := Lib.hid h9
            clear h9 HC
            go_cut [13, 14] from 21 (fun s13 s14 wc => s13 = .int .i64 (R.pivot : Nat) ∧ s14 = .int .i64 (hintCode R.hint) ∧ Hid (SR w0 d g b n now D tl R.d2 wc))
            case first =>
              by_cases hh : chh = .decreasing
              · subst hh
                obtain ⟨e2, epv, eht⟩ := HR4.out rfl
                have C := rev_any w0 d cap g b n now D tl a hi R.d1 w2 HW2.out q1 (by rw [HS1.out]; exact q2) (by rw [HS1.out]; exact h3)
                rw [HS1.out] at C
                unfold cmpF at C
                have HC := Lib.hid C
                have HX := Lib.hid e2
                have HY := Lib.hid epv
                have HZ := Lib.hid eht
                have k1 : IntKind.i64.wrap ((hi : Int) - 1) = (hi : Int) - 1 := IntWalk.i64_in _ (by omega)
                have k2 : IntKind.i64.wrap ((cp : Int) - (a : Int)) = (cp : Int) - (a : Int) := IntWalk.i64_in _ (by omega)
                have k3 : IntKind.i64.wrap ((hi : Int) - 1 - ((cp : Int) - (a : Int))) = (hi : Int) - 1 - ((cp : Int) - (a : Int)) := IntWalk.i64_in _ (by omega)
                have hcode : hintCode Hint.decreasing = 2 := rfl
                clear C e2 epv eht
                go_wp2_with fail
                refine HC.out.mono ?_; rintro e w3 ⟨rfl, h9⟩
                have HQ := Lib.hid h9
                clear h9 HC
                go_wp2_with fail
                go_meet
                case rel => exact ⟨by rw [HY.out]; congr 1; omega, by rw [HZ.out]; rfl, Lib.hid (by rw [HX.out]; exact HQ.out)⟩
              · have hcode : (hintCode chh == 2) = false := by simp; exact fun h => hh (hint_two h)
                obtain ⟨e2, epv, eht⟩ := HR5.out hh
                have HX := Lib.hid e2
                have HY := Lib.hid epv
                have HZ := Lib.hid eht
                clear e2 epv eht
                go_wp2_with fail
                go_meet
                case rel => exact ⟨by rw [HY.out], by rw [HZ.out], Lib.hid (by rw [HX.out]; exact HW2.out)⟩
            case rest =>
              obtain ⟨rfl, rfl, HW3⟩ := hcut
              clear HW1 HW2
              go_upto_region 15 with fail
              go_cut [14, 75] from 21 (fun s14 s75 wx => s14 = .int .i64 (hintCode R.hint) ∧ s75 = .bool (wb && wp && decide (R.hint = .increasing)) ∧ wx = wc)
              case first =>
                cases wb <;> cases wp <;> cases hh3 : R.hint <;>
                  (have hcode3 := congrArg hintCode hh3
                   simp only [hintCode] at hcode3
                   go_wp2_with fail
                   go_meet
                   exact ⟨by simp [hh3, hintCode], by simp [hh3, hintCode], rfl⟩)
              case rest =>
                obtain ⟨rfl, rfl, rfl⟩ := hcut
                go_upto_if 75 with fail
                go_cut [] from 21 (fun wx => R.pi.2 = false ∧ Hid (SR w0 d g b n now D tl R.pi.1 wx))
                case first =>
                  cases h68 : (wb && wp && decide (R.hint = .increasing))
                  · have epi := HR7.out h68
                    have HX := Lib.hid epi
                    clear epi h68
                    go_wp2_with fail
                    go_meet
                    case rel => exact ⟨by rw [HX.out], Lib.hid (by rw [HX.out]; exact HW3.out)⟩
                  · have epi := HR6.out h68
                    have C := pi_any w0 d cap g b n now D tl a hi N R.d2 wc HW3.out HS2.out (by omega) q2 h3
                    rw [← epi] at C
                    unfold cmpF at C
                    have HC := Lib.hid C
                    clear C epi h68
                    cases hp2 : R.pi.2
                    · rw [hp2] at HC
                      go_wp2_with fail
                      refine HC.out.mono ?_; rintro e w3 ⟨rfl, h9⟩
                      have HQ := Lib.hid h9
                      clear h9 HC
                      go_wp2_with fail
                      go_meet
                      case rel => exact ⟨hp2, HQ⟩
                    · rw [hp2] at HC
                      go_wp2_with fail
                      refine HC.out.mono ?_; rintro e w3 ⟨rfl, h9⟩
                      have HQ := Lib.hid (show SR w0 d g b n now D tl (pdq (ltC D) dk a0 b0 l0 true true) w3 from by rw [← HE.out, HE1.out hp2]; exact h9)
                      clear h9 HC
                      go_wp2
                      (try simp only [Exit.inBlock, Exit.then]); refine bodyPost_ret (results_none rfl _ _ _) rfl ?_
                      exact ⟨rfl, HQ.out⟩
                case rest =>
                  obtain ⟨hp2, HW5⟩ := hcut
                  clear HW3
                  have HP2 := Lib.hid hp2
                  obtain ⟨d3, hd3⟩ : ∃ z, R.pi.1 = z := ⟨_, rfl⟩
                  rw [hd3] at HW5 HS3 HB3 HE2 HE3 HE4
                  clear hp2 hd3
                  go_upto_region 17 with fail
                  go_cut [97] from 21 (fun s97 wx => s97 = .bool (decide (a > 0) && !ltC D d3[a - 1]! d3[R.pivot]!) ∧ Hid (SR w0 d g b n now D tl d3 wx))
                  case first =>
                    rcases Nat.eq_zero_or_pos a with ha0 | ha0
                    · subst ha0
                      have mixed := Try.mixed
                      have HJ2 := Lib.hid HW5.out.drew
                      clear HW5
                      rw [show ((0 : Nat) : Int) = 0 from rfl] at *
                      go_wp2_with fail
                      go_big_region_o
                      clear mixed
                      generalize wc.drew = wq at *
                      go_wp2_with fail
                      go_meet
                      case rel => exact ⟨by simp, HJ2⟩
                    · have ha0z : (0 : Int) < (a : Int) := by omega
                      obtain ⟨am, ham⟩ : ∃ am, a - 1 = am := ⟨_, rfl⟩
                      have e1 : ((a : Int) - 1).toNat = am := by omega
                      have e2 : (0 : Int) ≤ (a : Int) - 1 := by omega
                      have e7 : (1 : Int) ≤ (a : Int) := by omega
                      have e3 : (a : Int) - 1 < (N : Int) := by omega
                      have e4 : IntKind.i64.wrap ((a : Int) - 1) = (a : Int) - 1 := IntWalk.i64_in _ (by omega)
                      have e5 : (R.pivot : Int) < (N : Int) := by omega
                      have e6 : am < N := by omega
                      have HAM := Lib.hid ham
                      clear ham
                      have HC1 := Lib.hid (fun w (h : SR w0 d g b n now D tl d3 w) => h.cmp am R.pivot (by have := HS3.out; omega) (by have := HS3.out; omega))
                      have HE1 := Lib.hid (fun w (h : SR w0 d g b n now D tl d3 w) => And.intro (h.cell am (by have := HS3.out; omega)) (h.cell R.pivot (by have := HS3.out; omega)))
                      obtain ⟨x1, hx1⟩ : ∃ x, d3[am]! = x := ⟨_, rfl⟩
                      obtain ⟨y1, hy1⟩ : ∃ x, d3[R.pivot]! = x := ⟨_, rfl⟩
                      simp only [hx1, hy1] at HC1 HE1
                      obtain ⟨cv1, hc1⟩ : ∃ z, cmpC D x1 y1 = z := ⟨_, rfl⟩
                      have HV1 := Lib.hid (show ltC D d3[am]! d3[R.pivot]! = decide (cv1 < 0) from by rw [hx1, hy1, ← hc1]; rfl)
                      rw [hc1] at HC1
                      clear hx1 hy1 hc1
                      go_wp2_with fail
                      refine wp_region_held_drew (S := fun w' => SR w0 d g b n now D tl d3 w') (by kernel_rfl) (HW5.out.drew) (fun hHeld => ?_)
                      refine wpAnyH_takeD (i := 0) (v := ?_) (some 81) rfl rfl (by kernel_rfl) (by kernel_rfl) (by kernel_rfl) (fun _ _ _ h => h) (Or.inl ⟨by rfl, ?_⟩) (by assumption) ?_
                      rotate_left
                      · intro w' hSw
                        go_simp
                        first | done | with_reducible rfl
                      try simp only [Go.Act.put, List.setIfInBounds_toArray, List.set_cons_zero, List.set_cons_succ]
                      refine wpAnyH_takeD (i := 1) (v := ?_) (some 82) rfl rfl (by kernel_rfl) (by kernel_rfl) (by kernel_rfl) (fun _ _ _ h => h) (Or.inl ⟨by rfl, ?_⟩) (by assumption) ?_
                      rotate_left
                      · intro w' hSw
                        go_simp
                        first | done | with_reducible rfl
                      try simp only [Go.Act.put, List.setIfInBounds_toArray, List.set_cons_zero, List.set_cons_succ]
                      refine wpAnyH_takeD (i := 2) (v := ?_) (some 83) rfl rfl (by kernel_rfl) (by kernel_rfl) (by kernel_rfl) (fun _ _ _ h => h) (Or.inl ⟨by rfl, ?_⟩) (by assumption) ?_
                      rotate_left
                      · intro w' hSw
                        go_simp
                        first | done | with_reducible rfl
                      try simp only [Go.Act.put, List.setIfInBounds_toArray, List.set_cons_zero, List.set_cons_succ]
                      refine wpAnyH_takeD (i := 3) (v := ?_) (some 84) rfl rfl (by kernel_rfl) (by kernel_rfl) (by kernel_rfl) (fun _ _ _ h => h) (Or.inl ⟨by rfl, ?_⟩) (by assumption) ?_
                      rotate_left
                      · intro w' hSw
                        go_simp
                        first | done | with_reducible rfl
                      try simp only [Go.Act.put, List.setIfInBounds_toArray, List.set_cons_zero, List.set_cons_succ]
                      refine wpAnyH_takeD (i := 4) (v := ?_) (some 85) rfl rfl (by kernel_rfl) (by kernel_rfl) (by kernel_rfl) (fun _ _ _ h => h) (Or.inl ⟨by rfl, ?_⟩) (by assumption) ?_
                      rotate_left
                      · intro w' hSw
                        go_simp
                        first | done | with_reducible rfl
                      try simp only [Go.Act.put, List.setIfInBounds_toArray, List.set_cons_zero, List.set_cons_succ]
                      refine wpAnyH_takeD (i := 5) (v := ?_) (some 86) rfl rfl (by kernel_rfl) (by kernel_rfl) (by kernel_rfl) (fun _ _ _ h => h) (Or.inl ⟨by rfl, ?_⟩) (by assumption) ?_
                      rotate_left
                      · intro w' hSw
                        go_simp
                        first | done | with_reducible rfl
                      try simp only [Go.Act.put, List.setIfInBounds_toArray, List.set_cons_zero, List.set_cons_succ]
                      refine wpAnyH_takeD (i := 6) (v := ?_) (some 87) rfl rfl (by kernel_rfl) (by kernel_rfl) (by kernel_rfl) (fun _ _ _ h => h) (Or.inl ⟨by rfl, ?_⟩) (by assumption) ?_
                      rotate_left
                      · intro w' hSw
                        go_simp
                        first | done | with_reducible rfl
                      try simp only [Go.Act.put, List.setIfInBounds_toArray, List.set_cons_zero, List.set_cons_succ]
                      refine wpAnyH_takeD (i := 7) (v := ?_) (some 88) rfl rfl (by kernel_rfl) (by kernel_rfl) (by kernel_rfl) (fun _ _ _ h => h) (Or.inl ⟨by rfl, ?_⟩) (by assumption) ?_
                      rotate_left
                      · intro w' hSw
                        go_simp
                        first | done | with_reducible rfl
                      try simp only [Go.Act.put, List.setIfInBounds_toArray, List.set_cons_zero, List.set_cons_succ]
                      refine wpAnyH_takeD (i := 8) (v := ?_) (some 89) rfl rfl (by kernel_rfl) (by kernel_rfl) (by kernel_rfl) (fun _ _ _ h => h) (Or.inl ⟨by rfl, ?_⟩) (by assumption) ?_
                      rotate_left
                      · intro w' hSw
                        obtain ⟨m0, m1⟩ := HE1.out w' hSw
                        go_simp
                        first | done | with_reducible rfl
                      try simp only [Go.Act.put, List.setIfInBounds_toArray, List.set_cons_zero, List.set_cons_succ]
                      refine wpAnyH_takeD (i := 9) (v := ?_) (some 90) rfl rfl (by kernel_rfl) (by kernel_rfl) (by kernel_rfl) (fun _ _ _ h => h) (Or.inl ⟨by rfl, ?_⟩) (by assumption) ?_
                      rotate_left
                      · intro w' hSw
                        go_simp
                        first | done | with_reducible rfl
                      try simp only [Go.Act.put, List.setIfInBounds_toArray, List.set_cons_zero, List.set_cons_succ]
                      refine wpAnyH_takeD (i := 10) (v := ?_) (some 91) rfl rfl (by kernel_rfl) (by kernel_rfl) (by kernel_rfl) (fun _ _ _ h => h) (Or.inl ⟨by rfl, ?_⟩) (by assumption) ?_
                      rotate_left
                      · intro w' hSw
                        go_simp
                        first | done | with_reducible rfl
                      try simp only [Go.Act.put, List.setIfInBounds_toArray, List.set_cons_zero, List.set_cons_succ]
                      refine wpAnyH_takeD (i := 11) (v := ?_) (some 92) rfl rfl (by kernel_rfl) (by kernel_rfl) (by kernel_rfl) (fun _ _ _ h => h) (Or.inl ⟨by rfl, ?_⟩) (by assumption) ?_
                      rotate_left
                      · intro w' hSw
                        go_simp
                        first | done | with_reducible rfl
                      try simp only [Go.Act.put, List.setIfInBounds_toArray, List.set_cons_zero, List.set_cons_succ]
                      refine wpAnyH_takeD (i := 12) (v := ?_) (some 93) rfl rfl (by kernel_rfl) (by kernel_rfl) (by kernel_rfl) (fun _ _ _ h => h) (Or.inl ⟨by rfl, ?_⟩) (by assumption) ?_
                      rotate_left
                      · intro w' hSw
                        obtain ⟨m0, m1⟩ := HE1.out w' hSw
                        go_simp
                        first | done | with_reducible rfl
                      try simp only [Go.Act.put, List.setIfInBounds_toArray, List.set_cons_zero, List.set_cons_succ]
                      refine wpAnyH_ready (rs := [13]) (by kernel_rfl) (by simp) ?_
                      refine AllReadyH.cons rfl (fun K hK => ?_) AllReadyH.nil
                      go_simp
                      refine (HC1.out _ hHeld).mono ?_; rintro e v1 ⟨rfl, h9⟩
                      try go_simp
                      refine hK.out _ _ (h9) (fun hHeld => ?_)
                      clear hK K
                      try change wpAnyH _ _ _ _ _ _ _ (Go.Act.put _ (some 94) _) _
                      try simp only [Go.Act.put, List.setIfInBounds_toArray, List.set_cons_zero, List.set_cons_succ]
                      clear h9 HW5 HC1
                      refine wpAnyH_takeD (i := 14) (v := ?_) (some 95) rfl rfl (by kernel_rfl) (by kernel_rfl) (by kernel_rfl) (fun _ _ _ h => h) (Or.inl ⟨by rfl, ?_⟩) (by assumption) ?_
                      rotate_left
                      · intro w' hSw
                        go_simp
                        first | done | with_reducible rfl
                      try simp only [Go.Act.put, List.setIfInBounds_toArray, List.set_cons_zero, List.set_cons_succ]
                      refine wpAnyH_takeD (i := 15) (v := ?_) (some 96) rfl rfl (by kernel_rfl) (by kernel_rfl) (by kernel_rfl) (fun _ _ _ h => h) (Or.inl ⟨by rfl, ?_⟩) (by assumption) ?_
                      rotate_left
                      · intro w' hSw
                        go_simp
                        first | done | with_reducible rfl
                      try simp only [Go.Act.put, List.setIfInBounds_toArray, List.set_cons_zero, List.set_cons_succ]
                      refine wpAnyH_takeD (i := 16) (v := ?_) (some 97) rfl rfl (by kernel_rfl) (by kernel_rfl) (by kernel_rfl) (fun _ _ _ h => h) (Or.inl ⟨by rfl, ?_⟩) (by assumption) ?_
                      rotate_left
                      · intro w' hSw
                        go_simp
                        first | done | with_reducible rfl
                      try simp only [Go.Act.put, List.setIfInBounds_toArray, List.set_cons_zero, List.set_cons_succ]
                      refine wpAnyH_done (by kernel_rfl) ?_ _
                      have HS1 := Lib.hid hHeld
                      clear hHeld HE1
                      have HCV := Lib.hid (show (decide (a > 0) && !ltC D d3[am]! d3[R.pivot]!) = !decide (cv1 < 0) from by rw [HV1.out]; simp [ha0])
                      clear HV1
                      go_wp2_with fail
                      go_meet
                      case rel => exact ⟨by rw [HAM.out, HCV.out], HS1⟩
                  case rest =>
                    obtain ⟨rfl, HW6⟩ := hcut
                    clear HW5
                    have hpv0 : (0 : Int) ≤ (R.pivot : Int) := by omega
                    cases h87 : (decide (a > 0) && !ltC D d3[a - 1]! d3[R.pivot]!)
                    · obtain ⟨mid, ap, d4, hx⟩ : ∃ mid ap d4, partition (ltC D) d3 a hi R.pivot = (mid, ap, d4) := ⟨(partition (ltC D) d3 a hi R.pivot).1, (partition (ltC D) d3 a hi R.pivot).2.1, (partition (ltC D) d3 a hi R.pivot).2.2, rfl⟩
                      obtain ⟨r1, r2, r3, r4, r5, r6, r7⟩ := round_part (ltC_swo D) (partition_holds (ltC D)) pv1 pv2 (show hi ≤ d3.size by rw [HS3.out]; exact q2) HB3.out hx
                      have hE3 := HE3.out HP2.out h87
                      have hE4 := HE4.out HP2.out h87
                      have C := prt_any w0 d cap g b n now D tl a hi R.pivot N d3 wc HW6.out HS3.out pv1 pv2 q2 h3
                      rw [hx] at C hE3 hE4
                      simp only at C hE3 hE4
                      rw [HS3.out] at r3
                      unfold cmpF at C
                      have HC := Lib.hid C
                      have HX3 := Lib.hid (hE3 ⟨r1, r2⟩)
                      have HX4 := Lib.hid (hE4 ⟨r1, r2⟩)
                      have HD4 := Lib.hid r3
                      have HL4 := Lib.hid r4
                      have HG4 := Lib.hid r5
                      have HP6 := Lib.hid r6
                      have HP7 := Lib.hid r7
                      have k1 : IntKind.i64.wrap ((mid : Int) - (a : Int)) = (mid : Int) - (a : Int) := IntWalk.i64_in _ (by omega)
                      have k2 : IntKind.i64.wrap ((hi : Int) - (mid : Int)) = (hi : Int) - (mid : Int) := IntWalk.i64_in _ (by omega)
                      have k3 : IntKind.i64.wrap ((mid : Int) + 1) = (mid : Int) + 1 := IntWalk.i64_in _ (by omega)
                      obtain ⟨z8, hz8⟩ : ∃ z, ((hi : Int) - (a : Int)).tdiv 8 = z := ⟨_, rfl⟩
                      have hz8' : z8 = ((hi : Int) - (a : Int)) / 8 := by rw [← hz8, Int.tdiv_eq_ediv_of_nonneg (by omega)]
                      have hz9 : IntKind.i64.wrap z8 = z8 := IntWalk.i64_in _ (by omega)
                      have hz10 : ((hi : Int) - (a : Int)) / 8 = z8 := hz8'.symm
                      have HZ8 := Lib.hid hz8'
                      clear C hx hE3 hE4 r3 r4 r5 r6 r7 hz8'
                      go_upto_if 125 with (go_at_call 39; refine HC.out.mono ?_; rintro e w7 ⟨rfl, h9⟩)
                      have HW7 := Lib.hid h9
                      clear h9 HC h87
                      by_cases h4 : mid - a < hi - mid
                      · have h4z : (mid : Int) - (a : Int) < (hi : Int) - (mid : Int) := by omega
                        have C := HIH.out a mid R.lim d4 w7 (by omega) HW7.out HD4.out (by omega) (by omega) (by omega) HL4.out
                        obtain ⟨pL, sL⟩ := pdq_sorts (ltC D) (ltC_swo D) d4 a mid R.lim true true (by omega) (by rw [HD4.out]; omega) HL4.out
                        have HB9 := Lib.hid (HP6.out _ pL sL).1
                        have HD9 := Lib.hid (show (pdq (ltC D) d4 a mid R.lim true true).size = N from by rw [pL.1]; exact HD4.out)
                        have HC := Lib.hid C
                        have HE9 := Lib.hid (HX3.out h4)
                        clear C pL sL
                        go_wp2_with fail
                        refine HC.out.mono ?_; rintro e w8 ⟨rfl, h9⟩
                        have HW8 := Lib.hid h9
                        clear h9 HC
                        go_wp2_with fail
                        go_roundg (hi - (mid + 1))
                        case measure => omega
                        case rel => exact ⟨mid + 1, hi, R.lim, _, ap, _, by go_num, rfl, rfl, congrArg Value.bool (eighth2 (by omega) (by omega) z8 HZ8.out), rfl, by omega, by omega, Nat.le_refl _, by omega, by omega, HD9, HB9, HW8, Lib.hid (by rw [← HE.out]; exact HE9.out.symm)⟩
                      · have h4z : ¬ ((mid : Int) - (a : Int) < (hi : Int) - (mid : Int)) := by omega
                        have C := HIH.out (mid + 1) hi R.lim d4 w7 (by omega) HW7.out HD4.out (by omega) (by omega) (by omega) HG4.out
                        obtain ⟨pL, sL⟩ := pdq_sorts (ltC D) (ltC_swo D) d4 (mid + 1) hi R.lim true true (by omega) (by rw [HD4.out]; omega) HG4.out
                        have HB9 := Lib.hid (HP7.out _ pL sL).1
                        have HD9 := Lib.hid (show (pdq (ltC D) d4 (mid + 1) hi R.lim true true).size = N from by rw [pL.1]; exact HD4.out)
                        rw [show ((mid + 1 : Nat) : Int) = (mid : Int) + 1 from rfl] at C
                        have HC := Lib.hid C
                        have HE9 := Lib.hid (HX4.out h4)
                        clear C pL sL
                        go_wp2_with fail
                        refine HC.out.mono ?_; rintro e w8 ⟨rfl, h9⟩
                        have HW8 := Lib.hid h9
                        clear h9 HC
                        go_wp2_with fail
                        go_roundg (mid - a)
                        case measure => omega
                        case rel => exact ⟨a, mid, R.lim, _, ap, _, rfl, rfl, rfl, congrArg Value.bool (eighth2 (by omega) (by omega) z8 HZ8.out), rfl, by omega, by omega, Nat.le_refl _, by omega, by omega, HD9, HB9, HW8, Lib.hid (by rw [← HE.out]; exact HE9.out.symm)⟩
                    · have h87' := h87
                      simp only [Bool.and_eq_true, decide_eq_true_eq, Bool.not_eq_true'] at h87'
                      obtain ⟨mid, d4, hx⟩ : ∃ mid d4, partitionEqual (ltC D) d3 a hi R.pivot = (mid, d4) := ⟨(partitionEqual (ltC D) d3 a hi R.pivot).1, (partitionEqual (ltC D) d3 a hi R.pivot).2, rfl⟩
                      obtain ⟨r1, r2, r3, r4, _⟩ := round_eq (ltC_swo D) (partitionEqual_holds (ltC D)) h87'.1 pv1 pv2 (show hi ≤ d3.size by rw [HS3.out]; exact q2) HB3.out h87'.2 hx
                      have hE2 := HE2.out HP2.out h87
                      have C := peq_any w0 d cap g b n now D tl a hi R.pivot N d3 wc HW6.out HS3.out pv1 pv2 q2 h3
                      rw [hx] at C hE2
                      simp only at C hE2
                      rw [HS3.out] at r3
                      unfold cmpF at C
                      have HC := Lib.hid C
                      have HX2 := Lib.hid (hE2 ⟨r1, r2⟩)
                      have HD4 := Lib.hid r3
                      have HG4 := Lib.hid r4
                      clear C hx hE2 r3 r4 h87 h87'
                      go_wp2_with fail
                      refine HC.out.mono ?_; rintro e w7 ⟨rfl, h9⟩
                      have HW7 := Lib.hid h9
                      clear h9 HC
                      go_wp2_with fail
                      go_roundg (hi - mid)
                      case measure => omega
                      case rel => exact ⟨mid, hi, R.lim, wb, wp, d4, rfl, rfl, rfl, rfl, rfl, r2, by omega, Nat.le_refl _, by omega, by omega, HD4, HG4, HW7, Lib.hid (by rw [← HE.out]; exact HX2.out.symm)⟩
end Go.Proofs.Ytholaofgdahcbaa
