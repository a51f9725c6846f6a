/- The walk of IdsTokens. -/
import Derived.Test.YtjgccgfabacbkaaIj
namespace Go.Proofs.Ytjgccgfabacbkaa
open Go.RowKit

/-- Two tokens' cells in a world in which all that was there still is. -/
theorem two_new (w : World) (a b : Tok) : TokAt w.heap.size a ((w.alloc (.cells a.cs 38)).alloc (.cells b.cs 38)) ∧ TokAt (w.heap.size + 1) b ((w.alloc (.cells a.cs 38)).alloc (.cells b.cs 38)) :=
  ⟨TokAt.of_bk ((Bk.new w _ _).alloc _), TokAt.of_bk (by
    have := Bk.new (w.alloc (.cells a.cs 38)) 38 b.cs
    simpa using this)⟩
theorem one_new (w : World) (a : Tok) : TokAt w.heap.size a (w.alloc (.cells a.cs 38)) := TokAt.of_bk (Bk.new w _ _)

set_option maxRecDepth 100000 in
set_option maxHeartbeats 4000000 in
theorem tokens_any (a b : Tok) (v : Nat) (w : World) (hv : U64 v) :
    Calls Try.prog 4 #[.agg a.cs, .agg b.cs, .int .u64 v] w fun e w' => e = .returned (.bool true) ∧ Fr (fun _ => False) w w' := by
  have C1 := Lib.hid (fun w => known_any w)
  have C2 := Lib.hid (fun w => of_any v w hv)
  have C3 := Lib.hid (fun w => refof_any v w hv)
  have C4 := Lib.hid (fun w => token_any a w)
  have C5 := Lib.hid (fun w => reftoken_any a w)
  have C6 := Lib.hid (fun w => less_any a b w)
  have C7 := Lib.hid (fun w => refless_any a b w)
  have T2 := Lib.hid (fun w => two_new w a b)
  have hF0 : ∀ w, Fr (fun _ => False) w ((w.alloc (.cells a.cs 38)).alloc (.cells b.cs 38)) := fun w => ((Fr.refl _ w).alloc _).alloc _
  have HF0 := @Lib.hid _ hF0
  clear hF0 hv
  generalize lessB a b = L at *
  generalize tokN a = x at *
  generalize (ofN v).1 = k at *
  generalize (ofN v).2 = er at *
  have T1 := Lib.hid (fun w => one_new w k)
  obtain ⟨f, r, e, t⟩ := a
  obtain ⟨f', r', e', t'⟩ := b
  obtain ⟨f2, r2, e2, t2⟩ := k
  simp only [Tok.cs] at *
  go_enter Try.func4, Try.ntmps4
  go_wp2_with fail
  refine (C1.out _).mono ?_; rintro e9 w1 ⟨rfl, hf1⟩
  have hA := (T2.out w).1.fr hf1 (fun h => h)
  have hB := (T2.out w).2.fr hf1 (fun h => h)
  have hF1 := (HF0.out w).trans hf1 (fun _ _ h => h)
  clear hf1 T2 HF0
  generalize w.heap.size = g at *
  go_wp2_with fail
  refine (C2.out _).mono ?_; rintro e9 w2 ⟨rfl, hf2⟩
  have hA := hA.fr hf2 (fun h => h)
  have hB := hB.fr hf2 (fun h => h)
  have hF2 := hF1.trans hf2 (fun _ _ h => h)
  clear hf2 hF1
  go_wp2_with fail
  refine (C3.out _).mono ?_; rintro e9 w3 ⟨rfl, hf3⟩
  have hC := (T1.out w2).fr hf3 (fun h => h)
  have hA := (hA.fr ((Fr.refl (fun _ => False) w2).alloc _) (fun h => h)).fr hf3 (fun h => h)
  have hB := (hB.fr ((Fr.refl (fun _ => False) w2).alloc _) (fun h => h)).fr hf3 (fun h => h)
  have hF3 := (hF2.alloc _).trans hf3 (fun _ _ h => h)
  clear hf3 hF2
  generalize w2.heap.size = h at *
  go_wp2_with fail
  have hA := hA.fr ((Fr.refl (fun _ => False) w3).alloc (.cells #[Value.int IntKind.i64 f2, Value.int IntKind.i64 r2, Value.int IntKind.i64 e2, Value.int IntKind.i64 t2] 38)) (fun h => h)
  have hB := hB.fr ((Fr.refl (fun _ => False) w3).alloc (.cells #[Value.int IntKind.i64 f2, Value.int IntKind.i64 r2, Value.int IntKind.i64 e2, Value.int IntKind.i64 t2] 38)) (fun h => h)
  have hC := hC.fr ((Fr.refl (fun _ => False) w3).alloc (.cells #[Value.int IntKind.i64 f2, Value.int IntKind.i64 r2, Value.int IntKind.i64 e2, Value.int IntKind.i64 t2] 38)) (fun h => h)
  have hD := T1.out w3
  have hF4 := hF3.alloc (.cells #[Value.int IntKind.i64 f2, Value.int IntKind.i64 r2, Value.int IntKind.i64 e2, Value.int IntKind.i64 t2] 38)
  clear hF3 T1 C1 C2 C3
  generalize w3.heap.size = j at *
  generalize w3.alloc (.cells #[Value.int IntKind.i64 f2, Value.int IntKind.i64 r2, Value.int IntKind.i64 e2, Value.int IntKind.i64 t2] 38) = W at *
  have mk : ∀ w', Fr (fun _ => False) W w' → (w'.cell? ⟨g, 0, none⟩ = some (.int .i64 f) ∧ w'.cell? ⟨g, 1, none⟩ = some (.int .i64 r) ∧ w'.cell? ⟨g, 2, none⟩ = some (.int .i64 e) ∧ w'.cell? ⟨g, 3, none⟩ = some (.int .i64 t)) ∧
      (w'.cell? ⟨g + 1, 0, none⟩ = some (.int .i64 f') ∧ w'.cell? ⟨g + 1, 1, none⟩ = some (.int .i64 r') ∧ w'.cell? ⟨g + 1, 2, none⟩ = some (.int .i64 e') ∧ w'.cell? ⟨g + 1, 3, none⟩ = some (.int .i64 t')) ∧
      (w'.cell? ⟨h, 0, none⟩ = some (.int .i64 f2) ∧ w'.cell? ⟨h, 1, none⟩ = some (.int .i64 r2) ∧ w'.cell? ⟨h, 2, none⟩ = some (.int .i64 e2) ∧ w'.cell? ⟨h, 3, none⟩ = some (.int .i64 t2)) ∧
      (w'.cell? ⟨j, 0, none⟩ = some (.int .i64 f2) ∧ w'.cell? ⟨j, 1, none⟩ = some (.int .i64 r2) ∧ w'.cell? ⟨j, 2, none⟩ = some (.int .i64 e2) ∧ w'.cell? ⟨j, 3, none⟩ = some (.int .i64 t2)) ∧ Fr (fun _ => False) W w' := fun w' hf =>
    ⟨hA.fr hf (fun h => h), hB.fr hf (fun h => h), hC.fr hf (fun h => h), hD.fr hf (fun h => h), hf⟩
  have MK := @Lib.hid _ mk
  clear mk hA hB hC hD
  have b1 : (f2 == f2) = true := by simp
  have b2 : (r2 == r2) = true := by simp
  have b3 : (e2 == e2) = true := by simp
  have b4 : (t2 == t2) = true := by simp
  have b5 : ((x : Int) == (x : Int)) = true := by simp
  have b6 : (er == er) = true := by simp
  have b7 : (L == L) = true := by cases L <;> rfl
  go_region_held3 (fun w' => (w'.cell? ⟨g, 0, none⟩ = some (.int .i64 f) ∧ w'.cell? ⟨g, 1, none⟩ = some (.int .i64 r) ∧ w'.cell? ⟨g, 2, none⟩ = some (.int .i64 e) ∧ w'.cell? ⟨g, 3, none⟩ = some (.int .i64 t)) ∧
      (w'.cell? ⟨g + 1, 0, none⟩ = some (.int .i64 f') ∧ w'.cell? ⟨g + 1, 1, none⟩ = some (.int .i64 r') ∧ w'.cell? ⟨g + 1, 2, none⟩ = some (.int .i64 e') ∧ w'.cell? ⟨g + 1, 3, none⟩ = some (.int .i64 t')) ∧
      (w'.cell? ⟨h, 0, none⟩ = some (.int .i64 f2) ∧ w'.cell? ⟨h, 1, none⟩ = some (.int .i64 r2) ∧ w'.cell? ⟨h, 2, none⟩ = some (.int .i64 e2) ∧ w'.cell? ⟨h, 3, none⟩ = some (.int .i64 t2)) ∧
      (w'.cell? ⟨j, 0, none⟩ = some (.int .i64 f2) ∧ w'.cell? ⟨j, 1, none⟩ = some (.int .i64 r2) ∧ w'.cell? ⟨j, 2, none⟩ = some (.int .i64 e2) ∧ w'.cell? ⟨j, 3, none⟩ = some (.int .i64 t2)) ∧ Fr (fun _ => False) W w')
    (first
      | exact MK.out _ (Fr.refl _ _).drew
      | exact MK.out _ hg4
      | exact MK.out _ hg3
      | exact MK.out _ hg2
      | exact MK.out _ hg1)
    (first
      | (go_at_call 21; refine (C4.out _).mono ?_; rintro e9 v1 ⟨rfl, hf1⟩; have hg1 : Fr (fun _ => False) W v1 := (Fr.refl (fun _ => False) W).drew.trans hf1 (fun _ _ h => h))
      | (go_at_call 22; refine (C5.out _).mono ?_; rintro e9 v2 ⟨rfl, hf2⟩; have hg2 : Fr (fun _ => False) W v2 := hg1.trans hf2 (fun _ _ h => h))
      | (go_at_call 23; refine (C6.out _).mono ?_; rintro e9 v3 ⟨rfl, hf3⟩; have hg3 : Fr (fun _ => False) W v3 := hg2.trans hf3 (fun _ _ h => h))
      | (go_at_call 24; refine (C7.out _).mono ?_; rintro e9 v4 ⟨rfl, hf4⟩; have hg4 : Fr (fun _ => False) W v4 := hg3.trans hf4 (fun _ _ h => h)))
  all_goals
    go_wp2
    go_ret
    exact ⟨rfl, hF4.trans hg4 (fun _ _ h => h)⟩
end Go.Proofs.Ytjgccgfabacbkaa
