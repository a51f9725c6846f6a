/- The reference's four bytes, its frame. -/
import Derived.Test.YtlchihjkeheejaaDoorGa
namespace Go.Proofs.YtlchihjkeheejaaDoor
open Go.RowKit

set_option maxRecDepth 100000 in
theorem refFour_any (x : Nat) (w : World) (hx : (x : Int) ≤ 4294967295) :
    Calls Tryd.prog 45 #[.int .u32 x] w fun e w' => ∃ g, e = .returned (.slice (some ⟨g, 0, none⟩) 4 4) ∧ Rd8 w' (some ⟨g, 0, none⟩) (four x) ∧ Fr (fun _ => False) w w' ∧ w.heap.size ≤ g ∧ g < w'.heap.size := by
  have hx0 : (0 : Int) ≤ x := by omega
  have hfour := Lib.hid (four_rd w x hx)
  go_enter Tryd.func45, Tryd.ntmps45
  go_wp2
  go_ret
  exact ⟨_, rfl, hfour.out, (Fr.refl _ _).alloc _, Nat.le_refl _, by simp⟩

set_option maxRecDepth 100000 in
set_option maxHeartbeats 1000000 in
theorem refFrame_any (A : Option Addr) (n c : Nat) (xs : List UInt8) (w : World) (hr : Rd8 w A xs) (hn : xs.length = n) (hb : n ≤ 17592186044416) :
    Calls Tryd.prog 23 #[.slice A n c] w fun e w' => ∃ A' c', e = .returned (.slice A' (n + 12) c') ∧ Own8 w' 5 (.slice A' (n + 12) c') (frameOf xs) ∧ Fresh w w' (.slice A' (n + 12) c') := by
  go_enter Tryd.func23, Tryd.ntmps23
  go_wp2_with fail
  refine (refFour_any (n % 4294967296) w (by omega)).mono ?_; rintro e w1 ⟨g1, rfl, hr1, hf1, _, hg1⟩
  have l1 : (four (n % 4294967296)).length = 4 := rfl
  generalize hF1 : four (n % 4294967296) = F1 at *
  have HF1 := Lib.hid hF1
  clear hF1
  have ho1 : Own8 (w1.alloc (.cells #[] 5)) 5 (.slice (some ⟨w1.heap.size, 0, none⟩) 0 0) [] := Own8.fresh w1 _ #[] 0 rfl (by unfold maxLen; omega)
  have hq1 : Fr (fun _ => False) w1 (w1.alloc (.cells #[] 5)) := (Fr.refl _ _).alloc _
  have hfr1 : Fresh w (w1.alloc (.cells #[] 5)) (.slice (some ⟨w1.heap.size, 0, none⟩) 0 0) := ⟨hf1.trans hq1 (fun _ _ h => h), fun k hk => by
    have : w1.heap.size = k := by injection hk
    have := hf1.size; omega⟩
  have hr1a := hr1.fr hq1 (fun _ _ _ h => h)
  clear hr1 hf1 hq1
  go_wp2_with (at_builtin; (refine wpList_append8s _ rfl (.tmp 9) (.tmp 10) Tryd.t8 rfl (.slice (some ⟨w1.heap.size, 0, none⟩) 0 0) [] rfl ho1 (some ⟨g1, 0, none⟩) 4 4 F1 rfl l1 hr1a (by simp; omega) ?_; intro A2 c2 w2 ho2 hf2 hm2))
  have hfr2 := hfr1.step hf2 hm2
  have hr1b := hr1a.fr hf2 (fun ad ha _ h => by
    injection ha with ha; subst ha
    have h' : w1.heap.size = g1 := by injection h
    omega)
  have hrx2 := hr.fr hfr2.1 (fun _ _ _ h => h)
  simp only [List.length_nil, Nat.zero_add, List.nil_append, l1] at ho2 hfr2 ⊢
  clear hr1a hf2 hm2 ho1 hfr1 hg1
  refine (refSum_any (some ⟨g1, 0, none⟩) 4 4 F1 w2 hr1b l1 (by omega)).mono ?_; rintro e _ ⟨rfl, rfl⟩
  have hle := crcOf_le F1
  generalize hS1 : crcOf F1 = S1 at *
  have HS1 := Lib.hid hS1
  clear hS1
  go_wp2_with fail
  refine (refFour_any S1 w2 hle).mono ?_; rintro e w3 ⟨g3, rfl, hr3, hf3, hg3a, hg3⟩
  have l3 : (four S1).length = 4 := rfl
  have ho3 := ho2.fr hf3 (fun _ _ h => h)
  have hfr3 := hfr2.quiet hf3
  have hlt2 : ∀ k, (Value.slice A2 4 c2).ownBlock = some k → k < w2.heap.size := fun k hk => ho2.lt hk
  generalize hF4 : four S1 = F4 at *
  have HF4 := Lib.hid hF4
  clear hF4 hf3 ho2 hfr2
  have rel5 : ∀ A5 c5 w5, Own8 w5 5 (.slice A5 (F1.length + F4.length) c5) (F1 ++ F4) → Fr (fun k => (Value.slice A2 4 c2).ownBlock = some k) w3 w5 → Moved w3 (.slice A2 4 c2) (.slice A5 (F1.length + F4.length) c5) →
      Own8 w5 5 (.slice A5 8 c5) (F1 ++ F4) ∧ Fresh w w5 (.slice A5 8 c5) ∧ Rd8 w5 A xs := fun A5 c5 w5 h1 h2 h3 => by
    have h4 := hfr3.step h2 h3
    rw [l1, l3] at h1 h4
    exact ⟨h1, h4, hr.fr h4.1 (fun _ _ _ h => h)⟩
  have REL5 := Lib.hid rel5
  have l5 : (F1 ++ F4).length = 8 := by simp [l1, l3]
  have l13 : F1.length + F4.length = 8 := by omega
  have L13 := Lib.hid l13
  clear rel5 l13
  go_wp2_with (first
    | (at_builtin; refine wpList_append8s _ rfl (.tmp 11) (.tmp 14) Tryd.t8 rfl (.slice A2 4 c2) F1 rfl ho3 (some ⟨g3, 0, none⟩) 4 4 F4 rfl l3 hr3 (by omega) ?_; intro A5 c5 w5 ho5 hf5 hm5; obtain ⟨hp5, hfr5, hrx5⟩ := REL5.out _ _ _ ho5 hf5 hm5; rw [L13.out]; clear ho5 hf5 hm5)
    | (at_builtin; refine wpList_append8s _ rfl (.tmp 16) (.tmp 17) Tryd.t8 rfl (.slice A5 8 c5) (F1 ++ F4) rfl hp5 A n c xs rfl hn hrx5 (by omega) ?_; intro A6 c6 w6 ho6 hf6 hm6))
  generalize hF5 : F1 ++ F4 = F5 at *
  have HF5 := Lib.hid hF5
  clear hF5
  have hfr6 := hfr5.step hf6 hm6
  have hrx6 := hr.fr hfr6.1 (fun _ _ _ h => h)
  simp only [l5, hn] at ho6 hfr6 ⊢
  have l6 : (F5 ++ xs).length = 8 + n := by simp [l5, hn]
  clear hf6 hm6 hp5 hfr5 hrx5
  go_wp2_with fail
  refine (refSum_any A n c xs w6 hrx6 hn (by omega)).mono ?_; rintro e _ ⟨rfl, rfl⟩
  have hle2 := crcOf_le xs
  generalize hS2 : crcOf xs = S2 at *
  have HS2 := Lib.hid hS2
  clear hS2
  go_wp2_with fail
  refine (refFour_any S2 w6 hle2).mono ?_; rintro e w7 ⟨g7, rfl, hr7, hf7, hg7a, hg7⟩
  have l7 : (four S2).length = 4 := rfl
  have ho7 := ho6.fr hf7 (fun _ _ h => h)
  have hfr7 := hfr6.quiet hf7
  generalize hF7 : four S2 = F7 at *
  have HF7 := Lib.hid hF7
  generalize hF6 : F5 ++ xs = F6 at *
  have HF6 := Lib.hid hF6
  clear hF7 hF6 hf7 ho6 hfr6
  go_wp2_with (at_builtin; (refine wpList_append8s _ rfl (.tmp 18) (.tmp 21) Tryd.t8 rfl (.slice A6 (8 + n) c6) F6 rfl ho7 (some ⟨g7, 0, none⟩) 4 4 F7 rfl l7 hr7 (by omega) ?_; intro A8 c8 w8 ho8 hf8 hm8))
  have hfr8 := hfr7.step hf8 hm8
  simp only [l6, l7] at ho8 hfr8 ⊢
  rw [show 8 + n + 4 = n + 12 by omega] at ho8 hfr8 ⊢
  go_ret
  refine ⟨A8, c8, rfl, ?_, hfr8⟩
  unfold frameOf
  rw [hn, HF1.out, HS1.out, HF4.out, HF5.out, HS2.out, HF6.out, HF7.out]
  exact ho8
end Go.Proofs.YtlchihjkeheejaaDoor
