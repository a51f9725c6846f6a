/- Of, both; Less, both. -/
import Derived.Test.YtjgccgfabacbkaaIe
namespace Go.Proofs.Ytjgccgfabacbkaa
open Go.RowKit

def Tok.zero : Tok := ⟨0, 0, 0, 0⟩
/-- What a number is as a token, and the number of the fault. -/
def ofN (v : Nat) : Tok × Int := if noneB v = true then (Tok.zero, 8) else (tokOf v, 0)

set_option maxRecDepth 100000 in
theorem of_any (v : Nat) (w : World) (h : U64 v) :
    Calls Try.prog 19 #[.int .u64 v] w fun e w' => e = .returned (.tuple #[.agg (ofN v).1.cs, .int .i64 (ofN v).2]) ∧ Fr (fun _ => False) w w' := by
  have C1 := Lib.hid (fun w => isNone_any v w h)
  have C2 := Lib.hid (fun w => unpack_any v w h)
  have HO : Hid (ofN v = if noneB v = true then (Tok.zero, 8) else (tokOf v, 0)) := Lib.hid rfl
  generalize ofN v = o at *
  generalize tokOf v = q at *
  obtain ⟨f, r, e, t⟩ := q
  have hcs : Hid (Bk (w.alloc (.cells #[Value.int IntKind.i64 0, Value.int IntKind.i64 0, Value.int IntKind.i64 0, Value.int IntKind.i64 0] 38)) w.heap.size 38 #[Value.int IntKind.i64 0, Value.int IntKind.i64 0, Value.int IntKind.i64 0, Value.int IntKind.i64 0]) := Lib.hid (Bk.new w _ _)
  clear h
  cases hb : noneB v
  · obtain rfl := HO.out.trans (by simp [hb]; first | done | rfl)
    rw [hb] at C1
    clear hb HO
    simp only [Tok.cs] at *
    go_enter Try.func19, Try.ntmps19
    go_wp2_with fail
    refine (C1.out _).mono ?_; rintro e2 w1 ⟨rfl, rfl⟩
    go_wp2_with fail
    refine (C2.out _).mono ?_; rintro e2 w1 ⟨rfl, hf⟩
    have HB := hcs.out.fr hf (fun h => h)
    have m0 : w1.cell? ⟨w.heap.size, 0, none⟩ = some (.int .i64 0) := HB.cell 0
    have m1 : w1.cell? ⟨w.heap.size, 1, none⟩ = some (.int .i64 0) := HB.cell 1
    have m2 : w1.cell? ⟨w.heap.size, 2, none⟩ = some (.int .i64 0) := HB.cell 2
    have m3 : w1.cell? ⟨w.heap.size, 3, none⟩ = some (.int .i64 0) := HB.cell 3
    have n0 := HB.frozen 0
    have n1 := HB.frozen 1
    have n2 := HB.frozen 2
    have n3 := HB.frozen 3
    have hF := (Fr.refl (fun k => k = w.heap.size) w).alloc (.cells #[Value.int IntKind.i64 0, Value.int IntKind.i64 0, Value.int IntKind.i64 0, Value.int IntKind.i64 0] 38) |>.trans hf (fun _ _ h => h.elim)
    have hG : w.heap.size < w1.heap.size := HB.lt
    clear hcs hf HB
    go_wp2
    refine bodyPost_ret (v := .tuple #[.agg #[.int .i64 f, .int .i64 r, .int .i64 e, .int .i64 t], .int .i64 0]) (by simp [results, Try.results19, go_sem, m0, m1, m2, m3]) rfl ⟨rfl, ?_⟩
    exact ((((hF.setCell (fun _ => rfl) _).setCell (fun _ => rfl) _).setCell (fun _ => rfl) _).setCell (fun _ => rfl) _).mono (fun x hx e => absurd hx (by have e' : x = w.heap.size := e; omega))
  · obtain rfl := HO.out.trans (by simp [hb]; first | done | rfl)
    rw [hb] at C1
    clear hb HO C2
    simp only [Tok.cs] at *
    go_enter Try.func19, Try.ntmps19
    go_wp2_with fail
    refine (C1.out _).mono ?_; rintro e2 w1 ⟨rfl, rfl⟩
    go_wp2
    refine bodyPost_ret (v := .tuple #[.agg #[.int .i64 0, .int .i64 0, .int .i64 0, .int .i64 0], .int .i64 8]) (by simp [results, Try.results19, go_sem]) rfl ⟨rfl, ?_⟩
    exact (Fr.refl _ _).alloc _

theorem tokN_tokOf {v : Nat} (h : U64 v) : tokN (tokOf v) = if noneB v = true then 0 else v := by
  unfold tokN noneB
  rw [pack_tokOf h]
  have hp := tokOf_none h
  by_cases hn : (tokOf v).none
  · rw [if_neg (fun h => h.2 hn), if_pos (by simpa using hp.2 hn)]
  · rw [if_pos ⟨tokOf_fits v, hn⟩, if_neg (by simpa using fun h => hn (hp.1 h))]
theorem noneB_zero : noneB 0 = true := by decide

set_option maxRecDepth 100000 in
set_option maxHeartbeats 1000000 in
theorem refof_any (v : Nat) (w : World) (h : U64 v) :
    Calls Try.prog 20 #[.int .u64 v] w fun e w' => e = .returned (.tuple #[.agg (ofN v).1.cs, .int .i64 (ofN v).2]) ∧ Fr (fun _ => False) w w' := by
  have C1 := Lib.hid (fun w => reftoken_any (tokOf v) w)
  have HT := Lib.hid (tokN_tokOf h)
  have HO : Hid (ofN v = if noneB v = true then (Tok.zero, 8) else (tokOf v, 0)) := Lib.hid rfl
  have b0 : (0 : Int) ≤ v := by omega
  have b1 : (v : Int) ≤ 18446744073709551615 := by have := h.lt; omega
  have e0 : (v : Int) / 17592186044416 = (tokOf v).f := by
    show (v : Int) / 17592186044416 = ((v / 17592186044416 % 1048576 : Nat) : Int)
    have := h.lt; omega
  have e1 : wrap64 (bits .and .u64 ((v : Int) / 268435456) 65535) = (tokOf v).r := fld_val v 268435456 65536 16 h rfl (by decide) 65535 rfl
  have e2 : wrap64 (bits .and .u64 ((v : Int) / 4096) 65535) = (tokOf v).e := fld_val v 4096 65536 16 h rfl (by decide) 65535 rfl
  have e3 : wrap64 (bits .and .u64 (v : Int) 4095) = (tokOf v).t := by
    have := fld_val v 1 4096 12 h rfl (by decide) 4095 rfl
    rw [show (v : Int) / ((1 : Nat) : Int) = v by simp] at this
    exact this
  have hq : tokOf v = ⟨(tokOf v).f, (tokOf v).r, (tokOf v).e, (tokOf v).t⟩ := rfl
  generalize (tokOf v).f = f at *
  generalize (tokOf v).r = r at *
  generalize (tokOf v).e = e at *
  generalize (tokOf v).t = t at *
  rw [hq] at C1 HT HO
  clear hq
  have hcs : Hid (Bk ((w.alloc (.cells #[Value.int IntKind.i64 0, Value.int IntKind.i64 0, Value.int IntKind.i64 0, Value.int IntKind.i64 0] 38)).alloc (.cells #[Value.int IntKind.i64 f, Value.int IntKind.i64 r, Value.int IntKind.i64 e, Value.int IntKind.i64 t] 38)) w.heap.size 38 #[Value.int IntKind.i64 0, Value.int IntKind.i64 0, Value.int IntKind.i64 0, Value.int IntKind.i64 0]) := Lib.hid ((Bk.new w _ _).alloc _)
  have hcs2 : Hid (Bk ((w.alloc (.cells #[Value.int IntKind.i64 0, Value.int IntKind.i64 0, Value.int IntKind.i64 0, Value.int IntKind.i64 0] 38)).alloc (.cells #[Value.int IntKind.i64 f, Value.int IntKind.i64 r, Value.int IntKind.i64 e, Value.int IntKind.i64 t] 38)) (w.heap.size + 1) 38 #[Value.int IntKind.i64 f, Value.int IntKind.i64 r, Value.int IntKind.i64 e, Value.int IntKind.i64 t]) := Lib.hid (by
      have := Bk.new (w.alloc (.cells #[Value.int IntKind.i64 0, Value.int IntKind.i64 0, Value.int IntKind.i64 0, Value.int IntKind.i64 0] 38)) 38 #[Value.int IntKind.i64 f, Value.int IntKind.i64 r, Value.int IntKind.i64 e, Value.int IntKind.i64 t]
      simpa using this)
  clear h
  by_cases hz : ((v : Int) == 0) = true
  · have hv : v = 0 := by have : (v : Int) = 0 := by simpa using hz
                          omega
    have hO := HO.out.trans (by rw [hv, noneB_zero]; rfl : _ = (Tok.zero, (8 : Int)))
    rw [hO]
    clear hO HO C1 HT hcs hcs2 hv
    go_enter Try.func20, Try.ntmps20
    go_wp2
    refine bodyPost_ret (v := .tuple #[.agg #[.int .i64 0, .int .i64 0, .int .i64 0, .int .i64 0], .int .i64 8]) (by simp [results, Try.results20, go_sem]) rfl ⟨rfl, ?_⟩
    exact ((Fr.refl _ _).alloc _).alloc _
  · have hz' : ((v : Int) == 0) = false := by simpa using hz
    have hF0 : ∀ {w1 : World}, Fr (fun _ => False) ((w.alloc (.cells #[Value.int IntKind.i64 0, Value.int IntKind.i64 0, Value.int IntKind.i64 0, Value.int IntKind.i64 0] 38)).alloc (.cells #[Value.int IntKind.i64 f, Value.int IntKind.i64 r, Value.int IntKind.i64 e, Value.int IntKind.i64 t] 38)) w1 → Fr (fun k => k = w.heap.size) w w1 := fun h => (((Fr.refl (fun k => k = w.heap.size) w).alloc _).alloc _).trans h (fun _ _ h => h.elim)
    have HF0 := @Lib.hid _ @hF0
    clear hF0
    cases hb : noneB v
    · have hT : tokN ⟨f, r, e, t⟩ = v := HT.out.trans (by rw [hb]; rfl)
      have hO : ofN v = (⟨f, r, e, t⟩, (0 : Int)) := HO.out.trans (by rw [hb]; rfl)
      rw [hO]
      rw [hT] at C1
      clear hO HO hT HT hz hb
      simp only [Tok.cs] at *
      go_enter Try.func20, Try.ntmps20
      go_wp2_with fail
      refine (C1.out _).mono ?_; rintro e2 w1 ⟨rfl, hf⟩
      have HB := hcs.out.fr hf (fun h => h)
      have m0 : w1.cell? ⟨w.heap.size, 0, none⟩ = some (.int .i64 0) := HB.cell 0
      have m1 : w1.cell? ⟨w.heap.size, 1, none⟩ = some (.int .i64 0) := HB.cell 1
      have m2 : w1.cell? ⟨w.heap.size, 2, none⟩ = some (.int .i64 0) := HB.cell 2
      have m3 : w1.cell? ⟨w.heap.size, 3, none⟩ = some (.int .i64 0) := HB.cell 3
      have n0 := HB.frozen 0
      have n1 := HB.frozen 1
      have n2 := HB.frozen 2
      have n3 := HB.frozen 3
      have HC := hcs2.out.fr hf (fun h => h)
      have p0 : w1.cell? ⟨w.heap.size + 1, 0, none⟩ = some (.int .i64 f) := HC.cell 0
      have p1 : w1.cell? ⟨w.heap.size + 1, 1, none⟩ = some (.int .i64 r) := HC.cell 1
      have p2 : w1.cell? ⟨w.heap.size + 1, 2, none⟩ = some (.int .i64 e) := HC.cell 2
      have p3 : w1.cell? ⟨w.heap.size + 1, 3, none⟩ = some (.int .i64 t) := HC.cell 3
      have hF := HF0.out hf
      have hG : w.heap.size < w1.heap.size := HB.lt
      clear hcs hcs2 hf HB HC e0 e1 e2 e3
      go_wp2
      refine bodyPost_ret (v := .tuple #[.agg #[.int .i64 f, .int .i64 r, .int .i64 e, .int .i64 t], .int .i64 0]) (by simp [results, Try.results20, go_sem, m0, m1, m2, m3]) rfl ⟨rfl, ?_⟩
      exact ((((hF.setCell (fun _ => rfl) _).setCell (fun _ => rfl) _).setCell (fun _ => rfl) _).setCell (fun _ => rfl) _).mono (fun x hx e => absurd hx (by have e' : x = w.heap.size := e; omega))
    · have hT : tokN ⟨f, r, e, t⟩ = 0 := HT.out.trans (by rw [hb]; rfl)
      have hO : ofN v = (Tok.zero, (8 : Int)) := HO.out.trans (by rw [hb]; rfl)
      have hz2 : ((0 : Int) == (v : Int)) = false := by
        rw [beq_eq_false_iff_ne] at hz' ⊢; omega
      rw [hO]
      rw [hT] at C1
      clear hO HO hT HT hz hb
      simp only [Tok.cs] at *
      have hz3 : ((0 : Int) != (v : Int)) = true := by rw [bne, hz2]; rfl
      go_enter Try.func20, Try.ntmps20
      go_wp2_with fail
      refine (C1.out _).mono ?_; rintro e2 w1 ⟨rfl, hf⟩
      have HB := hcs.out.fr hf (fun h => h)
      have m0 : w1.cell? ⟨w.heap.size, 0, none⟩ = some (.int .i64 0) := HB.cell 0
      have m1 : w1.cell? ⟨w.heap.size, 1, none⟩ = some (.int .i64 0) := HB.cell 1
      have m2 : w1.cell? ⟨w.heap.size, 2, none⟩ = some (.int .i64 0) := HB.cell 2
      have m3 : w1.cell? ⟨w.heap.size, 3, none⟩ = some (.int .i64 0) := HB.cell 3
      have n0 := HB.frozen 0
      have n1 := HB.frozen 1
      have n2 := HB.frozen 2
      have n3 := HB.frozen 3
      have hF := HF0.out hf
      have hG : w.heap.size < w1.heap.size := HB.lt
      clear hcs hcs2 hf HB e0 e1 e2 e3
      go_wp2
      refine bodyPost_ret (v := .tuple #[.agg #[.int .i64 0, .int .i64 0, .int .i64 0, .int .i64 0], .int .i64 8]) (by simp [results, Try.results20, go_sem, m0, m1, m2, m3]) rfl ⟨rfl, ?_⟩
      exact ((((hF.setCell (fun _ => rfl) _).setCell (fun _ => rfl) _).setCell (fun _ => rfl) _).setCell (fun _ => rfl) _).mono (fun x hx e => absurd hx (by have e' : x = w.heap.size := e; omega))
end Go.Proofs.Ytjgccgfabacbkaa
