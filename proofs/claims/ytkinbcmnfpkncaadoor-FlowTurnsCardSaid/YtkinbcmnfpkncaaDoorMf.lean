/- event: lacks. -/
import Derived.Test.YtkinbcmnfpkncaaDoorMe
namespace Go.Proofs.YtkinbcmnfpkncaaDoor
open Go.RowKit Go.Maps

def wordW : Nat → ByteArray
  | 0 => ⟨#[]⟩
  | 1 => ⟨#[101, 118, 101, 110, 116]⟩
  | 2 => ⟨#[116, 105, 109, 101]⟩
  | 3 => ⟨#[102, 105, 114, 115, 116]⟩
  | 4 => ⟨#[99, 108, 111, 115, 101, 100]⟩
  | 5 => ⟨#[114, 101, 102]⟩
  | 6 => wTask
  | _ => wId
theorem fieldK (tk ti sk : Int) (w : World) : (Instr.field 147 (.agg #[.int .i64 tk, .int .i64 ti, .int .i64 sk]) 1).run Tryd.prog w = .ok (.int .i64 sk) w := by kernel_rfl
theorem fieldT (tk ti sk : Int) (w : World) : (Instr.field 147 (.agg #[.int .i64 tk, .int .i64 ti, .int .i64 sk]) 0).run Tryd.prog w = .ok (.agg #[.int .i64 tk, .int .i64 ti]) w := by kernel_rfl
theorem lacks_ask {b : Bo} {e : Ev} {q : Int} (h : askK e.k = q) (hq : q ≠ 0) : b.lacks e = if (b.opn e.r).k = q then 0 else 5 := by
  unfold Bo.lacks; rw [h, if_pos hq]
theorem lacks_no {b : Bo} {e : Ev} (h : askK e.k = 0) : b.lacks e = if e.r ≠ 0 then 5 else if opensK e.k = true then (if thingOf e ∈ b.used then (if e.k = 2 then 6 else 7) else 0) else 0 := by
  unfold Bo.lacks; rw [h]; simp

set_option maxRecDepth 100000 in
set_option maxHeartbeats 8000000 in
theorem lacks_any {w : World} {g bo bu : Nat} {b : Bo} (h : Book w g bo bu b) (p : VL) (ok : p.ok) :
    Calls Tryd.prog 99 #[.pointer (some ⟨g, 0, none⟩), p.val] w fun e w' => e = .returned (.string (wordW (b.lacks p.e))) ∧ Fr (fun _ => False) w w' := by
  obtain ⟨W, hW⟩ : ∃ W, w.alloc (.cells p.cells.toArray 75) = W := ⟨_, rfl⟩
  obtain ⟨g0, hg0⟩ : ∃ g0, w.heap.size = g0 := ⟨_, rfl⟩
  have FW : Hid (Fr (fun _ => False) w W) := Lib.hid (by rw [← hW]; exact (Fr.refl _ _).alloc _)
  have KW : Hid (Bk W g0 75 p.cells.toArray) := Lib.hid (by rw [← hW, ← hg0]; exact Bk.new _ _ _)
  have CO := Lib.hid (fun w' => opened_any p w')
  have HTh : Hid (I64 (thingOf p.e).1 ∧ I64 (thingOf p.e).2) := Lib.hid (by
    unfold thingOf; split
    · exact ⟨⟨by decide, by decide⟩, ⟨by decide, by decide⟩⟩
    · exact ⟨ok.k, ok.i⟩)
  have CT := Lib.hid (fun w' (hf : Fr (fun _ => False) w w') => taken_any (h.fr0 hf) HTh.out.1 HTh.out.2)
  obtain ⟨Do, Du, hb⟩ := h
  have HB := Lib.hid (hb.blk.fr FW.out (fun h => h))
  have HL : Hid (∀ n, (Instr.lookup 114 (.map (some bo)) (.int .i64 p.e.r) false).run Tryd.prog (W.drewN n) = .ok (stV (b.opn p.e.r)) (W.drewN n)) := Lib.hid (fun n => (hb.fr0 (FW.out.drewN n)).look ok.r)
  obtain ⟨⟨k, a, r, i, l, m, d⟩, A, c⟩ := p
  unfold VL.val VL.cells VL.bv stV thV at *
  simp only at *
  have K0 : W.cell? ⟨g0, 0, none⟩ = some (.int .i64 k) := KW.out.cell 0
  have K2 : ∀ n, (W.drewN n).cell? ⟨g0, 2, none⟩ = some (.int .i64 r) := fun n => (KW.out.fr ((Fr.refl (fun _ => False) _).drewN n) (fun h => h)).cell 2
  have KL : W.cell? ⟨g0, 1, none⟩ = some (.int .i64 a) ∧ W.cell? ⟨g0, 2, none⟩ = some (.int .i64 r) ∧ W.cell? ⟨g0, 3, none⟩ = some (.int .i64 i) ∧ W.cell? ⟨g0, 4, none⟩ = some (.int .i64 l) ∧ W.cell? ⟨g0, 5, none⟩ = some (.int .i64 m) ∧ W.cell? ⟨g0, 6, none⟩ = some (.slice A d.length c) := ⟨KW.out.cell 1, KW.out.cell 2, KW.out.cell 3, KW.out.cell 4, KW.out.cell 5, KW.out.cell 6⟩
  have HKL := Lib.hid KL
  have B3 : ∀ n, (W.drewN n).cell? ⟨g, 3, none⟩ = some (.map (some bo)) := fun n => (HB.out.fr ((Fr.refl (fun _ => False) _).drewN n) (fun h => h)).cell 3
  have HK2 := Lib.hid K2
  have HB3 := Lib.hid B3
  clear hb ok KL K2 B3
  obtain ⟨s, hs⟩ : ∃ s, b.opn r = s := ⟨_, rfl⟩
  rw [hs] at HL
  have HS := Lib.hid hs
  clear hs
  by_cases hk3 : k = 3
  · subst hk3
    have HR := Lib.hid (lacks_ask (b := b) (e := ⟨3, a, r, i, l, m, d⟩) (q := 2) (by simp [askK]) (by decide))
    obtain ⟨tk, ti, sk⟩ := s
    clear CO CT HTh HKL
    have hfk := fieldK tk ti sk
    have hlk := HL.out
    simp only at hlk
    have q2 := HK2.out
    have q3 := HB3.out
    clear HL HK2 HB3
    by_cases hq : sk = 2
    · subst hq
      go_enter Tryd.func99, Tryd.ntmps99
      go_wp2_with fail
      go_quiet (fail)
      go_wp2
      go_ret
      exact ⟨by rw [HR.out, HS.out, if_pos rfl]; rfl, FW.out.drewN _⟩
    · have d0 : (sk != 2) = true := by simp [hq]
      have HQ := Lib.hid hq
      clear hq
      go_enter Tryd.func99, Tryd.ntmps99
      go_wp2_with fail
      go_quiet (fail)
      go_wp2
      go_ret
      exact ⟨by rw [HR.out, HS.out, if_neg HQ.out]; rfl, FW.out.drewN _⟩
  by_cases hk4 : k = 4
  · subst hk4
    have HR := Lib.hid (lacks_ask (b := b) (e := ⟨4, a, r, i, l, m, d⟩) (q := 3) (by simp [askK]) (by decide))
    obtain ⟨tk, ti, sk⟩ := s
    clear CO CT HTh HKL
    have hfk := fieldK tk ti sk
    have hlk := HL.out
    simp only at hlk
    have q2 := HK2.out
    have q3 := HB3.out
    clear HL HK2 HB3
    by_cases hq : sk = 3
    · subst hq
      go_enter Tryd.func99, Tryd.ntmps99
      go_wp2_with fail
      go_quiet (fail)
      go_wp2
      go_ret
      exact ⟨by rw [HR.out, HS.out, if_pos rfl]; rfl, FW.out.drewN _⟩
    · have d0 : (sk != 3) = true := by simp [hq]
      have HQ := Lib.hid hq
      clear hq
      go_enter Tryd.func99, Tryd.ntmps99
      go_wp2_with fail
      go_quiet (fail)
      go_wp2
      go_ret
      exact ⟨by rw [HR.out, HS.out, if_neg HQ.out]; rfl, FW.out.drewN _⟩
  by_cases hk5 : k = 5
  · subst hk5
    have HR := Lib.hid (lacks_ask (b := b) (e := ⟨5, a, r, i, l, m, d⟩) (q := 3) (by simp [askK]) (by decide))
    obtain ⟨tk, ti, sk⟩ := s
    clear CO CT HTh HKL
    have hfk := fieldK tk ti sk
    have hlk := HL.out
    simp only at hlk
    have q2 := HK2.out
    have q3 := HB3.out
    clear HL HK2 HB3
    by_cases hq : sk = 3
    · subst hq
      go_enter Tryd.func99, Tryd.ntmps99
      go_wp2_with fail
      go_quiet (fail)
      go_wp2
      go_ret
      exact ⟨by rw [HR.out, HS.out, if_pos rfl]; rfl, FW.out.drewN _⟩
    · have d0 : (sk != 3) = true := by simp [hq]
      have HQ := Lib.hid hq
      clear hq
      go_enter Tryd.func99, Tryd.ntmps99
      go_wp2_with fail
      go_quiet (fail)
      go_wp2
      go_ret
      exact ⟨by rw [HR.out, HS.out, if_neg HQ.out]; rfl, FW.out.drewN _⟩
  by_cases hk6 : k = 6
  · subst hk6
    have HR := Lib.hid (lacks_ask (b := b) (e := ⟨6, a, r, i, l, m, d⟩) (q := 3) (by simp [askK]) (by decide))
    obtain ⟨tk, ti, sk⟩ := s
    clear CO CT HTh HKL
    have hfk := fieldK tk ti sk
    have hlk := HL.out
    simp only at hlk
    have q2 := HK2.out
    have q3 := HB3.out
    clear HL HK2 HB3
    by_cases hq : sk = 3
    · subst hq
      go_enter Tryd.func99, Tryd.ntmps99
      go_wp2_with fail
      go_quiet (fail)
      go_wp2
      go_ret
      exact ⟨by rw [HR.out, HS.out, if_pos rfl]; rfl, FW.out.drewN _⟩
    · have d0 : (sk != 3) = true := by simp [hq]
      have HQ := Lib.hid hq
      clear hq
      go_enter Tryd.func99, Tryd.ntmps99
      go_wp2_with fail
      go_quiet (fail)
      go_wp2
      go_ret
      exact ⟨by rw [HR.out, HS.out, if_neg HQ.out]; rfl, FW.out.drewN _⟩
  by_cases hk8 : k = 8
  · subst hk8
    have HR := Lib.hid (lacks_ask (b := b) (e := ⟨8, a, r, i, l, m, d⟩) (q := 7) (by simp [askK]) (by decide))
    obtain ⟨tk, ti, sk⟩ := s
    clear CO CT HTh HKL
    have hfk := fieldK tk ti sk
    have hlk := HL.out
    simp only at hlk
    have q2 := HK2.out
    have q3 := HB3.out
    clear HL HK2 HB3
    by_cases hq : sk = 7
    · subst hq
      go_enter Tryd.func99, Tryd.ntmps99
      go_wp2_with fail
      go_quiet (fail)
      go_wp2
      go_ret
      exact ⟨by rw [HR.out, HS.out, if_pos rfl]; rfl, FW.out.drewN _⟩
    · have d0 : (sk != 7) = true := by simp [hq]
      have HQ := Lib.hid hq
      clear hq
      go_enter Tryd.func99, Tryd.ntmps99
      go_wp2_with fail
      go_quiet (fail)
      go_wp2
      go_ret
      exact ⟨by rw [HR.out, HS.out, if_neg HQ.out]; rfl, FW.out.drewN _⟩
  by_cases hk9 : k = 9
  · subst hk9
    have HR := Lib.hid (lacks_ask (b := b) (e := ⟨9, a, r, i, l, m, d⟩) (q := 8) (by simp [askK]) (by decide))
    obtain ⟨tk, ti, sk⟩ := s
    clear CO CT HTh HKL
    have hfk := fieldK tk ti sk
    have hlk := HL.out
    simp only at hlk
    have q2 := HK2.out
    have q3 := HB3.out
    clear HL HK2 HB3
    by_cases hq : sk = 8
    · subst hq
      go_enter Tryd.func99, Tryd.ntmps99
      go_wp2_with fail
      go_quiet (fail)
      go_wp2
      go_ret
      exact ⟨by rw [HR.out, HS.out, if_pos rfl]; rfl, FW.out.drewN _⟩
    · have d0 : (sk != 8) = true := by simp [hq]
      have HQ := Lib.hid hq
      clear hq
      go_enter Tryd.func99, Tryd.ntmps99
      go_wp2_with fail
      go_quiet (fail)
      go_wp2
      go_ret
      exact ⟨by rw [HR.out, HS.out, if_neg HQ.out]; rfl, FW.out.drewN _⟩
  by_cases hk10 : k = 10
  · subst hk10
    have HR := Lib.hid (lacks_ask (b := b) (e := ⟨10, a, r, i, l, m, d⟩) (q := 8) (by simp [askK]) (by decide))
    obtain ⟨tk, ti, sk⟩ := s
    clear CO CT HTh HKL
    have hfk := fieldK tk ti sk
    have hlk := HL.out
    simp only at hlk
    have q2 := HK2.out
    have q3 := HB3.out
    clear HL HK2 HB3
    by_cases hq : sk = 8
    · subst hq
      go_enter Tryd.func99, Tryd.ntmps99
      go_wp2_with fail
      go_quiet (fail)
      go_wp2
      go_ret
      exact ⟨by rw [HR.out, HS.out, if_pos rfl]; rfl, FW.out.drewN _⟩
    · have d0 : (sk != 8) = true := by simp [hq]
      have HQ := Lib.hid hq
      clear hq
      go_enter Tryd.func99, Tryd.ntmps99
      go_wp2_with fail
      go_quiet (fail)
      go_wp2
      go_ret
      exact ⟨by rw [HR.out, HS.out, if_neg HQ.out]; rfl, FW.out.drewN _⟩
  by_cases hk11 : k = 11
  · subst hk11
    have HR := Lib.hid (lacks_ask (b := b) (e := ⟨11, a, r, i, l, m, d⟩) (q := 8) (by simp [askK]) (by decide))
    obtain ⟨tk, ti, sk⟩ := s
    clear CO CT HTh HKL
    have hfk := fieldK tk ti sk
    have hlk := HL.out
    simp only at hlk
    have q2 := HK2.out
    have q3 := HB3.out
    clear HL HK2 HB3
    by_cases hq : sk = 8
    · subst hq
      go_enter Tryd.func99, Tryd.ntmps99
      go_wp2_with fail
      go_quiet (fail)
      go_wp2
      go_ret
      exact ⟨by rw [HR.out, HS.out, if_pos rfl]; rfl, FW.out.drewN _⟩
    · have d0 : (sk != 8) = true := by simp [hq]
      have HQ := Lib.hid hq
      clear hq
      go_enter Tryd.func99, Tryd.ntmps99
      go_wp2_with fail
      go_quiet (fail)
      go_wp2
      go_ret
      exact ⟨by rw [HR.out, HS.out, if_neg HQ.out]; rfl, FW.out.drewN _⟩
  by_cases hk13 : k = 13
  · subst hk13
    have HR := Lib.hid (lacks_ask (b := b) (e := ⟨13, a, r, i, l, m, d⟩) (q := 12) (by simp [askK]) (by decide))
    obtain ⟨tk, ti, sk⟩ := s
    clear CO CT HTh HKL
    have hfk := fieldK tk ti sk
    have hlk := HL.out
    simp only at hlk
    have q2 := HK2.out
    have q3 := HB3.out
    clear HL HK2 HB3
    by_cases hq : sk = 12
    · subst hq
      go_enter Tryd.func99, Tryd.ntmps99
      go_wp2_with fail
      go_quiet (fail)
      go_wp2
      go_ret
      exact ⟨by rw [HR.out, HS.out, if_pos rfl]; rfl, FW.out.drewN _⟩
    · have d0 : (sk != 12) = true := by simp [hq]
      have HQ := Lib.hid hq
      clear hq
      go_enter Tryd.func99, Tryd.ntmps99
      go_wp2_with fail
      go_quiet (fail)
      go_wp2
      go_ret
      exact ⟨by rw [HR.out, HS.out, if_neg HQ.out]; rfl, FW.out.drewN _⟩
  by_cases hk14 : k = 14
  · subst hk14
    have HR := Lib.hid (lacks_ask (b := b) (e := ⟨14, a, r, i, l, m, d⟩) (q := 12) (by simp [askK]) (by decide))
    obtain ⟨tk, ti, sk⟩ := s
    clear CO CT HTh HKL
    have hfk := fieldK tk ti sk
    have hlk := HL.out
    simp only at hlk
    have q2 := HK2.out
    have q3 := HB3.out
    clear HL HK2 HB3
    by_cases hq : sk = 12
    · subst hq
      go_enter Tryd.func99, Tryd.ntmps99
      go_wp2_with fail
      go_quiet (fail)
      go_wp2
      go_ret
      exact ⟨by rw [HR.out, HS.out, if_pos rfl]; rfl, FW.out.drewN _⟩
    · have d0 : (sk != 12) = true := by simp [hq]
      have HQ := Lib.hid hq
      clear hq
      go_enter Tryd.func99, Tryd.ntmps99
      go_wp2_with fail
      go_quiet (fail)
      go_wp2
      go_ret
      exact ⟨by rw [HR.out, HS.out, if_neg HQ.out]; rfl, FW.out.drewN _⟩
  by_cases hk18 : k = 18
  · subst hk18
    have HR := Lib.hid (lacks_ask (b := b) (e := ⟨18, a, r, i, l, m, d⟩) (q := 17) (by simp [askK]) (by decide))
    obtain ⟨tk, ti, sk⟩ := s
    clear CO CT HTh HKL
    have hfk := fieldK tk ti sk
    have hlk := HL.out
    simp only at hlk
    have q2 := HK2.out
    have q3 := HB3.out
    clear HL HK2 HB3
    by_cases hq : sk = 17
    · subst hq
      go_enter Tryd.func99, Tryd.ntmps99
      go_wp2_with fail
      go_quiet (fail)
      go_wp2
      go_ret
      exact ⟨by rw [HR.out, HS.out, if_pos rfl]; rfl, FW.out.drewN _⟩
    · have d0 : (sk != 17) = true := by simp [hq]
      have HQ := Lib.hid hq
      clear hq
      go_enter Tryd.func99, Tryd.ntmps99
      go_wp2_with fail
      go_quiet (fail)
      go_wp2
      go_ret
      exact ⟨by rw [HR.out, HS.out, if_neg HQ.out]; rfl, FW.out.drewN _⟩
  by_cases hk2 : k = 2
  · subst hk2
    have HR := Lib.hid (lacks_no (b := b) (e := ⟨2, a, r, i, l, m, d⟩) (by simp [askK]))
    clear HL HB3
    have HTK : Hid (thingOf ⟨2, a, r, i, l, m, d⟩ = (2, 0)) := Lib.hid (by simp [thingOf])
    have CT2 : Hid (∀ w', Fr (fun _ => False) w w' → Calls Tryd.prog 109 #[.pointer (some ⟨g, 0, none⟩), .agg #[.int .i64 2, .int .i64 0]] w' fun e w2 => e = .returned (.string (if (2, 0) ∈ b.used then wTask else ⟨#[]⟩)) ∧ Fr (fun _ => False) w' w2) := Lib.hid (fun w' hf => by
      have := CT.out w' hf
      rw [HTK.out] at this
      simpa using this)
    have CO2 : Hid (∀ w', Calls Tryd.prog 100 #[.agg #[.int .i64 2, .int .i64 a, .int .i64 r, .int .i64 i, .int .i64 l, .int .i64 m, .slice A d.length c]] w' fun e w2 => e = .returned (.agg #[.int .i64 2, .int .i64 0]) ∧ Fr (fun _ => False) w' w2) := Lib.hid (fun w' => by
      have := CO.out w'
      rw [HTK.out] at this
      exact this)
    clear CO CT HTh
    obtain ⟨sx, hsx⟩ : ∃ sx : ByteArray, (if (2, 0) ∈ b.used then wTask else ⟨#[]⟩) = sx := ⟨_, rfl⟩
    rw [hsx] at CT2
    have HSX := Lib.hid hsx
    clear hsx
    obtain ⟨k1, k2, k3, k4, k5, k6⟩ := HKL.out
    by_cases hr : r = 0
    · subst hr
      go_enter Tryd.func99, Tryd.ntmps99
      go_wp2_with fail
      clear hW hg0
      refine (CO2.out _).mono ?_; rintro e w1 ⟨rfl, hf1⟩
      have HF1 := Lib.hid hf1
      clear hf1 CO2
      go_wp2_with fail
      refine (CT2.out _ (FW.out.trans HF1.out (fun _ _ h => h))).mono ?_; rintro e w2 ⟨rfl, hf2⟩
      have HF2 := Lib.hid (HF1.out.trans hf2 (fun _ _ h => h))
      clear hf2 CT2
      have q2 : w2.cell? ⟨g0, 2, none⟩ = some (.int .i64 0) := (KW.out.fr HF2.out (fun h => h)).cell 2
      clear K0 k1 k2 k3 k4 k5 k6
      go_wp2
      go_ret
      refine ⟨?_, FW.out.trans HF2.out (fun _ _ h => h)⟩
      rw [HR.out, HTK.out, show sx = _ from HSX.out.symm]
      by_cases hu : (2, 0) ∈ b.used
      · simp [hu, opensK, wordW]
      · simp [hu, opensK, wordW]
    · have d0 : (r != 0) = true := by simp [hr]
      have HRR := Lib.hid hr
      clear hr
      go_enter Tryd.func99, Tryd.ntmps99
      go_wp2_with fail
      clear hW hg0
      refine (CO2.out _).mono ?_; rintro e w1 ⟨rfl, hf1⟩
      have HF1 := Lib.hid hf1
      clear hf1 CO2
      go_wp2_with fail
      refine (CT2.out _ (FW.out.trans HF1.out (fun _ _ h => h))).mono ?_; rintro e w2 ⟨rfl, hf2⟩
      have HF2 := Lib.hid (HF1.out.trans hf2 (fun _ _ h => h))
      clear hf2 CT2
      have q2 : w2.cell? ⟨g0, 2, none⟩ = some (.int .i64 r) := (KW.out.fr HF2.out (fun h => h)).cell 2
      clear K0 k1 k2 k3 k4 k5 k6
      go_wp2
      go_ret
      refine ⟨?_, FW.out.trans HF2.out (fun _ _ h => h)⟩
      rw [HR.out, if_pos HRR.out]; rfl
  by_cases hk7 : k = 7
  · subst hk7
    have HR := Lib.hid (lacks_no (b := b) (e := ⟨7, a, r, i, l, m, d⟩) (by simp [askK]))
    clear HL HB3
    have HTK : Hid (thingOf ⟨7, a, r, i, l, m, d⟩ = (7, i)) := Lib.hid (by simp [thingOf])
    have CT2 : Hid (∀ w', Fr (fun _ => False) w w' → Calls Tryd.prog 109 #[.pointer (some ⟨g, 0, none⟩), .agg #[.int .i64 7, .int .i64 i]] w' fun e w2 => e = .returned (.string (if (7, i) ∈ b.used then wId else ⟨#[]⟩)) ∧ Fr (fun _ => False) w' w2) := Lib.hid (fun w' hf => by
      have := CT.out w' hf
      rw [HTK.out] at this
      simpa using this)
    have CO2 : Hid (∀ w', Calls Tryd.prog 100 #[.agg #[.int .i64 7, .int .i64 a, .int .i64 r, .int .i64 i, .int .i64 l, .int .i64 m, .slice A d.length c]] w' fun e w2 => e = .returned (.agg #[.int .i64 7, .int .i64 i]) ∧ Fr (fun _ => False) w' w2) := Lib.hid (fun w' => by
      have := CO.out w'
      rw [HTK.out] at this
      exact this)
    clear CO CT HTh
    obtain ⟨sx, hsx⟩ : ∃ sx : ByteArray, (if (7, i) ∈ b.used then wId else ⟨#[]⟩) = sx := ⟨_, rfl⟩
    rw [hsx] at CT2
    have HSX := Lib.hid hsx
    clear hsx
    obtain ⟨k1, k2, k3, k4, k5, k6⟩ := HKL.out
    by_cases hr : r = 0
    · subst hr
      go_enter Tryd.func99, Tryd.ntmps99
      go_wp2_with fail
      clear hW hg0
      refine (CO2.out _).mono ?_; rintro e w1 ⟨rfl, hf1⟩
      have HF1 := Lib.hid hf1
      clear hf1 CO2
      go_wp2_with fail
      refine (CT2.out _ (FW.out.trans HF1.out (fun _ _ h => h))).mono ?_; rintro e w2 ⟨rfl, hf2⟩
      have HF2 := Lib.hid (HF1.out.trans hf2 (fun _ _ h => h))
      clear hf2 CT2
      have q2 : w2.cell? ⟨g0, 2, none⟩ = some (.int .i64 0) := (KW.out.fr HF2.out (fun h => h)).cell 2
      clear K0 k1 k2 k3 k4 k5 k6
      go_wp2
      go_ret
      refine ⟨?_, FW.out.trans HF2.out (fun _ _ h => h)⟩
      rw [HR.out, HTK.out, show sx = _ from HSX.out.symm]
      by_cases hu : (7, i) ∈ b.used
      · simp [hu, opensK, wordW]
      · simp [hu, opensK, wordW]
    · have d0 : (r != 0) = true := by simp [hr]
      have HRR := Lib.hid hr
      clear hr
      go_enter Tryd.func99, Tryd.ntmps99
      go_wp2_with fail
      clear hW hg0
      refine (CO2.out _).mono ?_; rintro e w1 ⟨rfl, hf1⟩
      have HF1 := Lib.hid hf1
      clear hf1 CO2
      go_wp2_with fail
      refine (CT2.out _ (FW.out.trans HF1.out (fun _ _ h => h))).mono ?_; rintro e w2 ⟨rfl, hf2⟩
      have HF2 := Lib.hid (HF1.out.trans hf2 (fun _ _ h => h))
      clear hf2 CT2
      have q2 : w2.cell? ⟨g0, 2, none⟩ = some (.int .i64 r) := (KW.out.fr HF2.out (fun h => h)).cell 2
      clear K0 k1 k2 k3 k4 k5 k6
      go_wp2
      go_ret
      refine ⟨?_, FW.out.trans HF2.out (fun _ _ h => h)⟩
      rw [HR.out, if_pos HRR.out]; rfl
  by_cases hk12 : k = 12
  · subst hk12
    have HR := Lib.hid (lacks_no (b := b) (e := ⟨12, a, r, i, l, m, d⟩) (by simp [askK]))
    clear HL HB3
    have HTK : Hid (thingOf ⟨12, a, r, i, l, m, d⟩ = (12, i)) := Lib.hid (by simp [thingOf])
    have CT2 : Hid (∀ w', Fr (fun _ => False) w w' → Calls Tryd.prog 109 #[.pointer (some ⟨g, 0, none⟩), .agg #[.int .i64 12, .int .i64 i]] w' fun e w2 => e = .returned (.string (if (12, i) ∈ b.used then wId else ⟨#[]⟩)) ∧ Fr (fun _ => False) w' w2) := Lib.hid (fun w' hf => by
      have := CT.out w' hf
      rw [HTK.out] at this
      simpa using this)
    have CO2 : Hid (∀ w', Calls Tryd.prog 100 #[.agg #[.int .i64 12, .int .i64 a, .int .i64 r, .int .i64 i, .int .i64 l, .int .i64 m, .slice A d.length c]] w' fun e w2 => e = .returned (.agg #[.int .i64 12, .int .i64 i]) ∧ Fr (fun _ => False) w' w2) := Lib.hid (fun w' => by
      have := CO.out w'
      rw [HTK.out] at this
      exact this)
    clear CO CT HTh
    obtain ⟨sx, hsx⟩ : ∃ sx : ByteArray, (if (12, i) ∈ b.used then wId else ⟨#[]⟩) = sx := ⟨_, rfl⟩
    rw [hsx] at CT2
    have HSX := Lib.hid hsx
    clear hsx
    obtain ⟨k1, k2, k3, k4, k5, k6⟩ := HKL.out
    by_cases hr : r = 0
    · subst hr
      go_enter Tryd.func99, Tryd.ntmps99
      go_wp2_with fail
      clear hW hg0
      refine (CO2.out _).mono ?_; rintro e w1 ⟨rfl, hf1⟩
      have HF1 := Lib.hid hf1
      clear hf1 CO2
      go_wp2_with fail
      refine (CT2.out _ (FW.out.trans HF1.out (fun _ _ h => h))).mono ?_; rintro e w2 ⟨rfl, hf2⟩
      have HF2 := Lib.hid (HF1.out.trans hf2 (fun _ _ h => h))
      clear hf2 CT2
      have q2 : w2.cell? ⟨g0, 2, none⟩ = some (.int .i64 0) := (KW.out.fr HF2.out (fun h => h)).cell 2
      clear K0 k1 k2 k3 k4 k5 k6
      go_wp2
      go_ret
      refine ⟨?_, FW.out.trans HF2.out (fun _ _ h => h)⟩
      rw [HR.out, HTK.out, show sx = _ from HSX.out.symm]
      by_cases hu : (12, i) ∈ b.used
      · simp [hu, opensK, wordW]
      · simp [hu, opensK, wordW]
    · have d0 : (r != 0) = true := by simp [hr]
      have HRR := Lib.hid hr
      clear hr
      go_enter Tryd.func99, Tryd.ntmps99
      go_wp2_with fail
      clear hW hg0
      refine (CO2.out _).mono ?_; rintro e w1 ⟨rfl, hf1⟩
      have HF1 := Lib.hid hf1
      clear hf1 CO2
      go_wp2_with fail
      refine (CT2.out _ (FW.out.trans HF1.out (fun _ _ h => h))).mono ?_; rintro e w2 ⟨rfl, hf2⟩
      have HF2 := Lib.hid (HF1.out.trans hf2 (fun _ _ h => h))
      clear hf2 CT2
      have q2 : w2.cell? ⟨g0, 2, none⟩ = some (.int .i64 r) := (KW.out.fr HF2.out (fun h => h)).cell 2
      clear K0 k1 k2 k3 k4 k5 k6
      go_wp2
      go_ret
      refine ⟨?_, FW.out.trans HF2.out (fun _ _ h => h)⟩
      rw [HR.out, if_pos HRR.out]; rfl
  by_cases hk17 : k = 17
  · subst hk17
    have HR := Lib.hid (lacks_no (b := b) (e := ⟨17, a, r, i, l, m, d⟩) (by simp [askK]))
    clear HL HB3
    have HTK : Hid (thingOf ⟨17, a, r, i, l, m, d⟩ = (17, i)) := Lib.hid (by simp [thingOf])
    have CT2 : Hid (∀ w', Fr (fun _ => False) w w' → Calls Tryd.prog 109 #[.pointer (some ⟨g, 0, none⟩), .agg #[.int .i64 17, .int .i64 i]] w' fun e w2 => e = .returned (.string (if (17, i) ∈ b.used then wId else ⟨#[]⟩)) ∧ Fr (fun _ => False) w' w2) := Lib.hid (fun w' hf => by
      have := CT.out w' hf
      rw [HTK.out] at this
      simpa using this)
    have CO2 : Hid (∀ w', Calls Tryd.prog 100 #[.agg #[.int .i64 17, .int .i64 a, .int .i64 r, .int .i64 i, .int .i64 l, .int .i64 m, .slice A d.length c]] w' fun e w2 => e = .returned (.agg #[.int .i64 17, .int .i64 i]) ∧ Fr (fun _ => False) w' w2) := Lib.hid (fun w' => by
      have := CO.out w'
      rw [HTK.out] at this
      exact this)
    clear CO CT HTh
    obtain ⟨sx, hsx⟩ : ∃ sx : ByteArray, (if (17, i) ∈ b.used then wId else ⟨#[]⟩) = sx := ⟨_, rfl⟩
    rw [hsx] at CT2
    have HSX := Lib.hid hsx
    clear hsx
    obtain ⟨k1, k2, k3, k4, k5, k6⟩ := HKL.out
    by_cases hr : r = 0
    · subst hr
      go_enter Tryd.func99, Tryd.ntmps99
      go_wp2_with fail
      clear hW hg0
      refine (CO2.out _).mono ?_; rintro e w1 ⟨rfl, hf1⟩
      have HF1 := Lib.hid hf1
      clear hf1 CO2
      go_wp2_with fail
      refine (CT2.out _ (FW.out.trans HF1.out (fun _ _ h => h))).mono ?_; rintro e w2 ⟨rfl, hf2⟩
      have HF2 := Lib.hid (HF1.out.trans hf2 (fun _ _ h => h))
      clear hf2 CT2
      have q2 : w2.cell? ⟨g0, 2, none⟩ = some (.int .i64 0) := (KW.out.fr HF2.out (fun h => h)).cell 2
      clear K0 k1 k2 k3 k4 k5 k6
      go_wp2
      go_ret
      refine ⟨?_, FW.out.trans HF2.out (fun _ _ h => h)⟩
      rw [HR.out, HTK.out, show sx = _ from HSX.out.symm]
      by_cases hu : (17, i) ∈ b.used
      · simp [hu, opensK, wordW]
      · simp [hu, opensK, wordW]
    · have d0 : (r != 0) = true := by simp [hr]
      have HRR := Lib.hid hr
      clear hr
      go_enter Tryd.func99, Tryd.ntmps99
      go_wp2_with fail
      clear hW hg0
      refine (CO2.out _).mono ?_; rintro e w1 ⟨rfl, hf1⟩
      have HF1 := Lib.hid hf1
      clear hf1 CO2
      go_wp2_with fail
      refine (CT2.out _ (FW.out.trans HF1.out (fun _ _ h => h))).mono ?_; rintro e w2 ⟨rfl, hf2⟩
      have HF2 := Lib.hid (HF1.out.trans hf2 (fun _ _ h => h))
      clear hf2 CT2
      have q2 : w2.cell? ⟨g0, 2, none⟩ = some (.int .i64 r) := (KW.out.fr HF2.out (fun h => h)).cell 2
      clear K0 k1 k2 k3 k4 k5 k6
      go_wp2
      go_ret
      refine ⟨?_, FW.out.trans HF2.out (fun _ _ h => h)⟩
      rw [HR.out, if_pos HRR.out]; rfl
  have HR := Lib.hid (lacks_no (b := b) (e := ⟨k, a, r, i, l, m, d⟩) (by simp only [askK]; rw [if_neg (by omega), if_neg (by omega), if_neg (by omega), if_neg (by omega), if_neg (by omega), if_neg (by omega)]))
  have HO : Hid (opensK k = false) := Lib.hid (by simp [opensK]; omega)
  have e2 : (k == 2) = false := by simp; omega
  have e3 : (k == 3) = false := by simp; omega
  have e4 : (k == 4) = false := by simp; omega
  have e5 : (k == 5) = false := by simp; omega
  have e6 : (k == 6) = false := by simp; omega
  have e7 : (k == 7) = false := by simp; omega
  have e8 : (k == 8) = false := by simp; omega
  have e9 : (k == 9) = false := by simp; omega
  have e10 : (k == 10) = false := by simp; omega
  have e11 : (k == 11) = false := by simp; omega
  have e12 : (k == 12) = false := by simp; omega
  have e13 : (k == 13) = false := by simp; omega
  have e14 : (k == 14) = false := by simp; omega
  have e17 : (k == 17) = false := by simp; omega
  have e18 : (k == 18) = false := by simp; omega
  obtain ⟨k1, k2, k3, k4, k5, k6⟩ := HKL.out
  clear CO CT HTh HL HB3 HKL HK2
  clear hk2 hk3 hk4 hk5 hk6 hk7 hk8 hk9 hk10 hk11 hk12 hk13 hk14 hk17 hk18
  by_cases hr : r = 0
  · subst hr
    go_enter Tryd.func99, Tryd.ntmps99
    go_wp2
    go_ret
    refine ⟨?_, FW.out⟩
    rw [HR.out, HO.out]; rfl
  · have d0 : (r != 0) = true := by simp [hr]
    have HRR := Lib.hid hr
    clear hr
    go_enter Tryd.func99, Tryd.ntmps99
    go_wp2
    go_ret
    refine ⟨?_, FW.out⟩
    rw [HR.out, if_pos HRR.out]; rfl
end Go.Proofs.YtkinbcmnfpkncaaDoor
