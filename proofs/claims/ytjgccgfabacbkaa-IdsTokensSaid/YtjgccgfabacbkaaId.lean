/- Token. -/
import Derived.Test.YtjgccgfabacbkaaIc
import Derived.Deep.RegionWith
namespace Go.Proofs.Ytjgccgfabacbkaa
open Go.RowKit

theorem Tok.ne {a b : Tok} (h : a ≠ b) : (a.f == b.f) = false ∨ ((a.f == b.f) = true ∧ (a.r == b.r) = false) ∨ ((a.f == b.f) = true ∧ (a.r == b.r) = true ∧ (a.e == b.e) = false) ∨ ((a.f == b.f) = true ∧ (a.r == b.r) = true ∧ (a.e == b.e) = true ∧ (a.t == b.t) = false) := by
  obtain ⟨f, r, e, t⟩ := a
  obtain ⟨f', r', e', t'⟩ := b
  simp only [ne_eq, Tok.mk.injEq, not_and] at h
  simp only [beq_iff_eq, beq_eq_false_iff_ne]
  by_cases h1 : f = f'
  · by_cases h2 : r = r'
    · by_cases h3 : e = e'
      · exact .inr (.inr (.inr ⟨h1, h2, h3, h h1 h2 h3⟩))
      · exact .inr (.inr (.inl ⟨h1, h2, h3⟩))
    · exact .inr (.inl ⟨h1, h2⟩)
  · exact .inl h1
/-- The token lies here. -/
def TokAt (g : Nat) (k : Tok) (w : World) : Prop := w.cell? ⟨g, 0, none⟩ = some (.int .i64 k.f) ∧ w.cell? ⟨g, 1, none⟩ = some (.int .i64 k.r) ∧ w.cell? ⟨g, 2, none⟩ = some (.int .i64 k.e) ∧ w.cell? ⟨g, 3, none⟩ = some (.int .i64 k.t)
theorem TokAt.lt {g : Nat} {k : Tok} {w : World} (h : TokAt g k w) : g < w.heap.size := World.block_lt_of_cell? w _ h.1
theorem TokAt.fr {g : Nat} {k : Tok} {w w' : World} {S : Nat → Prop} (h : TokAt g k w) (hf : Fr S w w') (hS : ¬ S g) : TokAt g k w' :=
  ⟨(hf.cell (p := ⟨g, 0, none⟩) h.lt hS).trans h.1, (hf.cell (p := ⟨g, 1, none⟩) h.lt hS).trans h.2.1, (hf.cell (p := ⟨g, 2, none⟩) h.lt hS).trans h.2.2.1, (hf.cell (p := ⟨g, 3, none⟩) h.lt hS).trans h.2.2.2⟩
theorem TokAt.of_bk {g : Nat} {k : Tok} {w : World} {t : TypeId} (h : Bk w g t k.cs) : TokAt g k w :=
  ⟨h.cell 0, h.cell 1, h.cell 2, h.cell 3⟩

set_option maxRecDepth 100000 in
set_option maxHeartbeats 4000000 in
theorem token_no (k : Tok) (w : World) (hn : tokOf (packN k) ≠ k) :
    Calls Try.prog 21 #[.agg k.cs] w fun e w' => e = .returned (.int .u64 0) ∧ Fr (fun _ => False) w w' := by
  have C1 := Lib.hid (fun w => pack_any k w)
  have C2 := Lib.hid (fun w => unpack_any (packN k) w (packN_lt k))
  have hcs : Hid (Bk (w.alloc (.cells k.cs 38)) w.heap.size 38 k.cs) := Lib.hid (Bk.new w _ _)
  generalize packN k = p at *
  generalize tokOf p = q at *
  obtain ⟨f, r, e, t⟩ := k
  obtain ⟨f', r', e', t'⟩ := q
  have hne := Tok.ne hn
  clear hn
  simp only [Tok.cs] at *
  rcases hne with h1 | ⟨h1, h2⟩ | ⟨h1, h2, h3⟩ | ⟨h1, h2, h3, h4⟩
  all_goals
    go_enter Try.func21, Try.ntmps21
    go_wp2_with fail
    refine (C1.out _).mono ?_; rintro e2 w1 ⟨rfl, hf1⟩
    have HT := TokAt.of_bk (k := ⟨f, r, e, t⟩) (hcs.out.fr hf1 (fun h => h))
    have MK := Lib.hid (fun w2 (h : Fr (fun _ => False) w1 w2) => HT.fr h (fun h => h))
    obtain ⟨m0, m1, m2, m3⟩ := HT
    simp only at m0 m1 m2 m3
    have hF := (Fr.refl (fun _ => False) w).alloc (.cells #[Value.int IntKind.i64 f, Value.int IntKind.i64 r, Value.int IntKind.i64 e, Value.int IntKind.i64 t] 38) |>.trans hf1 (fun _ _ h => h)
    clear hcs hf1
    generalize w.heap.size = g at *
    go_wp2_with fail
    first | go_region_with (go_at_call 32; refine (C2.out _).mono ?_; rintro e3 w2 ⟨rfl, hf2⟩; have hG : Fr (fun _ => False) w1 w2 := (Fr.refl _ _).drew.trans hf2 (fun _ _ h => h); obtain ⟨n0, n1, n2, n3⟩ := MK.out w2 hG; simp only at n0 n1 n2 n3) | fail
    all_goals
      go_wp2
      go_ret
      exact ⟨rfl, hF.trans hG (fun _ _ h => h)⟩

set_option maxRecDepth 100000 in
set_option maxHeartbeats 4000000 in
theorem token_yes (k : Tok) (w : World) (hn : tokOf (packN k) = k) :
    Calls Try.prog 21 #[.agg k.cs] w fun e w' => e = .returned (.int .u64 ((if noneB (packN k) = true then 0 else packN k : Nat) : Int)) ∧ Fr (fun _ => False) w w' := by
  have C1 := Lib.hid (fun w => pack_any k w)
  have C2 := Lib.hid (fun w => unpack_any (packN k) w (packN_lt k))
  have C3 := Lib.hid (fun w => isNone_any (packN k) w (packN_lt k))
  have hcs : Hid (Bk (w.alloc (.cells k.cs 38)) w.heap.size 38 k.cs) := Lib.hid (Bk.new w _ _)
  rw [hn] at C2
  clear hn
  generalize packN k = p at *
  generalize noneB p = nb at *
  obtain ⟨f, r, e, t⟩ := k
  simp only [Tok.cs] at *
  cases nb
  all_goals
    go_enter Try.func21, Try.ntmps21
    go_wp2_with fail
    refine (C1.out _).mono ?_; rintro e2 w1 ⟨rfl, hf1⟩
    have HT := TokAt.of_bk (k := ⟨f, r, e, t⟩) (hcs.out.fr hf1 (fun h => h))
    have MK := Lib.hid (fun w2 (h : Fr (fun _ => False) w1 w2) => HT.fr h (fun h => h))
    obtain ⟨m0, m1, m2, m3⟩ := HT
    simp only at m0 m1 m2 m3
    have hF := (Fr.refl (fun _ => False) w).alloc (.cells #[Value.int IntKind.i64 f, Value.int IntKind.i64 r, Value.int IntKind.i64 e, Value.int IntKind.i64 t] 38) |>.trans hf1 (fun _ _ h => h)
    clear hcs hf1
    generalize w.heap.size = g at *
    go_wp2_with fail
    first | go_region_with (first | (go_at_call 32; refine (C2.out _).mono ?_; rintro e3 w2 ⟨rfl, hf2⟩; have hG : Fr (fun _ => False) w1 w2 := (Fr.refl _ _).drew.trans hf2 (fun _ _ h => h); obtain ⟨n0, n1, n2, n3⟩ := MK.out w2 hG; simp only at n0 n1 n2 n3) | (go_at_call 31; refine (C3.out _).mono ?_; rintro e3 w3 ⟨rfl, rfl⟩)) | fail
    all_goals
      go_wp2
      go_ret
      exact ⟨rfl, hF.trans hG (fun _ _ h => h)⟩
theorem token_any (k : Tok) (w : World) :
    Calls Try.prog 21 #[.agg k.cs] w fun e w' => e = .returned (.int .u64 ((tokN k : Nat) : Int)) ∧ Fr (fun _ => False) w w' := by
  by_cases h : k.fits
  · have := token_yes k w (tokOf_pack h)
    rw [show tokN k = (if noneB (packN k) = true then 0 else packN k : Nat) from ?_]
    · exact this
    · unfold tokN noneB
      have hp := pack_none h
      by_cases hn : k.none
      · rw [if_neg (fun h => h.2 hn), if_pos (by simpa using hp.2 hn)]
      · rw [if_pos ⟨h, hn⟩, if_neg (by simpa using fun h => hn (hp.1 h))]
  · have := token_no k w (fun e => h (e ▸ tokOf_fits _))
    rw [show tokN k = 0 from if_neg (fun h' => h h'.1)]
    exact this
end Go.Proofs.Ytjgccgfabacbkaa
