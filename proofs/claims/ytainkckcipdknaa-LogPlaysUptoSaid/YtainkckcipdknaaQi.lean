/- The law's known. -/
import Derived.Test.YtainkckcipdknaaQh
namespace Go.Proofs.Ytainkckcipdknaa
open Go.RowKit

/-- An entry without bytes. -/
def E0 (t : Int) : EL := ⟨⟨t, []⟩, none, 0⟩
theorem E0_rd (w : World) (G : Nat → Prop) (t : Int) (h0 : 0 ≤ t) (h1 : t ≤ 9) : RdE w G (E0 t) :=
  ⟨Rd8.nil _ _, ⟨by show _ ≤ t; omega, by show t ≤ _; omega, by show 0 ≤ _; omega⟩, fun ad e => by cases e⟩
theorem es_one (w : World) (t : Int) (h0 : 0 ≤ t) (h1 : t ≤ 9) : Es (w.alloc (.cells #[.int .i64 t, .slice none 0 0] 51)) (some ⟨w.heap.size, 0, none⟩) 1 [E0 t] (fun k => k = w.heap.size) := by
  have hb := Bk.new w 51 #[.int .i64 t, .slice none 0 0]
  refine ⟨rfl, fun _ => ⟨_, 0, rfl, rfl, fun j x hx => ?_⟩, fun p hp => ?_⟩
  · rw [Nat.zero_add, hb.cell]
    simpa [elc, EL.cells, EL.bv, E0] using hx
  · simp at hp; subst hp; exact E0_rd _ _ t h0 h1
theorem es_two (w : World) (t u : Int) (h0 : 0 ≤ t) (h1 : t ≤ 9) (h2 : 0 ≤ u) (h3 : u ≤ 9) : Es (w.alloc (.cells #[.int .i64 t, .slice none 0 0, .int .i64 u, .slice none 0 0] 51)) (some ⟨w.heap.size, 0, none⟩) 2 [E0 t, E0 u] (fun k => k = w.heap.size) := by
  have hb := Bk.new w 51 #[.int .i64 t, .slice none 0 0, .int .i64 u, .slice none 0 0]
  refine ⟨rfl, fun _ => ⟨_, 0, rfl, rfl, fun j x hx => ?_⟩, fun p hp => ?_⟩
  · rw [Nat.zero_add, hb.cell]
    simpa [elc, EL.cells, EL.bv, E0] using hx
  · simp at hp
    rcases hp with rfl | rfl
    · exact E0_rd _ _ _ h0 h1
    · exact E0_rd _ _ _ h2 h3

set_option maxRecDepth 100000 in
set_option maxHeartbeats 4000000 in
theorem known_any (w : World) : Calls Try.prog 8 #[] w fun e w' => e = .returned (.bool true) ∧ Fr (fun _ => False) w w' := by
  have ES := Lib.hid (es_two w 1 2 (by omega) (by omega) (by omega) (by omega))
  have HA : Hid (Fr (fun _ => False) w (w.alloc (.cells #[.int .i64 1, .slice none 0 0, .int .i64 2, .slice none 0 0] 51))) := Lib.hid ((Fr.refl _ _).alloc _)
  have C1 := Lib.hid (lgNew 0 0 (some ⟨w.heap.size, 0, none⟩) 2 2 [E0 1, E0 2] (fun k => k = w.heap.size) _ ES.out (fun k hk => by subst hk; simp) (by omega) (by omega) (by omega))
  unfold NewL at C1
  rw [show (begins 0 0 && rise 0 ([E0 1, E0 2].map EL.e)) = true by decide] at C1
  simp only [if_true] at C1
  go_enter Try.func8, Try.ntmps8
  go_wp2_with fail
  refine C1.out.mono ?_; rintro e w1 ⟨g, F1, rfl, hl1, hf1, hn1, hg1⟩
  have HL1 := Lib.hid hl1
  have HF1 := Lib.hid (HA.out.trans hf1 (fun _ _ h => h))
  have HN1 : Hid (∀ k, F1 k → w.heap.size ≤ k) := Lib.hid (fun k hk => Nat.le_trans HA.out.size (hn1 k hk))
  have ES2 := Lib.hid (es_one w1 3 (by omega) (by omega))
  have HA2 : Hid (Fr (fun _ => False) w1 (w1.alloc (.cells #[.int .i64 3, .slice none 0 0] 51))) := Lib.hid ((Fr.refl _ _).alloc _)
  have C2 := Lib.hid (lgMerge (c := 1) (hl1.fr0 HA2.out) ES2.out (fun k hk => by subst hk; simp) (fun k hk e => by subst hk; exact absurd (hl1.lt e) (Nat.lt_irrefl _)) (by omega) (by omega) (by unfold maxLen; omega) (by show 0 + 2 + 1 ≤ _; omega) (by show 2 + 1 ≤ _; omega) 1 (by omega) (by omega))
  unfold MergeE at C2
  rw [show (⟨(0 : Int).toNat, 0, [E0 1, E0 2].map EL.e⟩ : LG).mres 1 ([E0 3].map EL.e) = (2, [⟨3, []⟩], 0) by rfl,
    show (⟨(0 : Int).toNat, 0, [E0 1, E0 2].map EL.e⟩ : LG).merge 1 ([E0 3].map EL.e) = ⟨0, 0, [⟨1, []⟩, ⟨3, []⟩]⟩ by rfl] at C2
  clear hl1 hf1 hn1 hg1 C1 ES ES2
  go_wp2_with fail
  refine C2.out.mono ?_; rintro e w2 ⟨v, qs, rfl, hq, hv, F2, hl2, hf2, hn2⟩
  have HF2 : Hid (Fr (fun _ => False) w w2) := Lib.hid ((HF1.out.trans HA2.out (fun _ _ h => h)).trans hf2 (fun k hk e => by have := HN1.out k e; omega))
  have HV : Hid (∃ A c, v = .slice A 1 c) := Lib.hid (by
    obtain ⟨A, c, e, _⟩ := hv.1.row.form
    have : qs.length = 1 := by have := congrArg List.length hq; simpa using this
    rw [this] at e
    exact ⟨A, c, e⟩)
  have CL := Lib.hid (lgLast hl2)
  rw [show (⟨0, 0, [⟨1, []⟩, ⟨3, []⟩]⟩ : LG).lastI = 2 by rfl, show (⟨0, 0, [⟨1, []⟩, ⟨3, []⟩]⟩ : LG).lastT = 3 by rfl] at CL
  have CN1 := Lib.hid (fun w' (hf : Fr (fun _ => False) w2 w') => lgNewer (hl2.fr0 hf) 1 4)
  have CN2 := Lib.hid (fun w' (hf : Fr (fun _ => False) w2 w') => lgNewer (hl2.fr0 hf) 1 3)
  rw [show (⟨0, 0, [⟨1, []⟩, ⟨3, []⟩]⟩ : LG).newer 1 4 = true by rfl] at CN1
  rw [show (⟨0, 0, [⟨1, []⟩, ⟨3, []⟩]⟩ : LG).newer 1 3 = false by rfl] at CN2
  obtain ⟨A2, c2, rfl⟩ := HV.out
  clear hq hv hl2 hf2 hn2 C2 HV
  go_wp2_with fail
  refine CL.out.mono ?_; rintro e w3 ⟨rfl, hf3⟩
  have HF3 := Lib.hid hf3
  clear hf3 CL
  go_wp2_with fail
  refine (CN1.out _ HF3.out).mono ?_; rintro e w4 ⟨rfl, hf4⟩
  have HF4 := Lib.hid (HF3.out.trans hf4 (fun _ _ h => h))
  clear hf4 CN1
  go_wp2_with fail
  refine (CN2.out _ HF4.out).mono ?_; rintro e w5 ⟨rfl, hf5⟩
  have HF5 := Lib.hid (HF4.out.trans hf5 (fun _ _ h => h))
  clear hf5 CN2
  go_wp2
  go_ret
  exact ⟨rfl, HF2.out.trans HF5.out (fun _ _ h => h)⟩
end Go.Proofs.Ytainkckcipdknaa
