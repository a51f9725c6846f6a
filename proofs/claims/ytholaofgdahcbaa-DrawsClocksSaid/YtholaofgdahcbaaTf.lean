/- What each law of draws asks first. -/
import Derived.Test.YtholaofgdahcbaaTe
namespace Go.Proofs.Ytholaofgdahcbaa
open Go.RowKit Go.Maps

theorem Src.fr {S : Nat → Prop} {w w' : World} {g s k : Nat} (h : Src w g s k) (hf : Fr S w w') (hg : ¬ S g) : Src w' g s k := Bk.fr h hf hg
theorem src_new (w : World) (s : Nat) : Src (w.alloc (.cells #[.int .u64 s, .int .i64 0] 54)) w.heap.size s 0 := Bk.new _ _ _

def D51 : DataW Unit := ((DataW.map [] : DataW Unit).put (.int .i64 5) (.lit (.int .i64 3))).put (.int .i64 1) (.lit (.int .i64 3))
theorem key_int (x : Int) : WideAt.IsKeyLit (.int .i64 x) := trivial
theorem d51_at (x : Int) (z : DataW Unit) : D51.atKey (.int .i64 x) z = if x = 1 ∨ x = 5 then .lit (.int .i64 3) else z := by
  unfold D51
  by_cases h1 : x = 1
  · subst h1
    rw [atKey_put_same (IsMap.put ⟨_, rfl⟩ _ _) (key_int 1)]; simp
  · rw [atKey_put_other (by simpa using h1)]
    by_cases h5 : x = 5
    · subst h5
      rw [atKey_put_same ⟨_, rfl⟩ (key_int 5)]; simp
    · rw [atKey_put_other (by simpa using h5)]
      simp [h1, h5, DataW.atKey]
theorem d51_has (x : Int) : has D51 (.int .i64 x) = decide (x = 1 ∨ x = 5) := by
  unfold D51
  by_cases h1 : x = 1
  · subst h1
    rw [has_put_same (IsMap.put ⟨_, rfl⟩ _ _) (key_int 1)]; simp
  · rw [has_put_other (by simpa using h1)]
    by_cases h5 : x = 5
    · subst h5
      rw [has_put_same ⟨_, rfl⟩ (key_int 5)]; simp
    · rw [has_put_other (by simpa using h5)]
      simp [h1, h5, has]
theorem d51_tick {x : Int} (h : x = 1 ∨ x = 5) : tickOf D51 x = 3 := by unfold tickOf; rw [d51_at, if_pos h]
theorem d51_due (x : Int) : (has D51 (.int .i64 x) = true ∧ tickOf D51 x ≤ 3) ↔ x = 1 ∨ x = 5 := by
  rw [d51_has]
  constructor
  · intro ⟨h, _⟩; simpa using h
  · intro h; exact ⟨by simpa using h, by rw [d51_tick h]; decide⟩

theorem clkTo_some {w w' : World} {g : Nat} {m m' : Option Nat} {now : Int} {n : Nat} {k x : Int} {D : DataW Unit} (h : ClkTo w g m w' now m' n (D.put (.int .i64 k) (.lit (.int .i64 x)))) (hD : IsMap D) : ∃ b, m' = some b := by
  rcases h.1.2 with ⟨_, e⟩ | ⟨b, e, _⟩
  · have := has_put_same (k := .int .i64 k) hD (key_int k) (.lit (.int .i64 x))
    rw [e] at this
    simp [has] at this
  · exact ⟨b, e⟩
theorem knownB : betV 7 4 4 = 4 := by
  have h := betV_in 7 (lo := 4) (hi := 4) (by omega)
  omega
theorem knownK : betK 0 4 4 = 1 := by decide +kernel

set_option maxRecDepth 100000 in
set_option maxHeartbeats 2000000 in
theorem known_any (w : World) :
    Calls Try.prog 5 #[] w fun e w' => e = .returned (.bool true) ∧ Fr (fun _ => False) w w' := by
  have hs1 : setB 0 3 = true := by decide
  have hd1 : setD 0 (.map []) 5 3 = (DataW.map [] : DataW Unit).put (.int .i64 5) (.lit (.int .i64 3)) := if_pos hs1
  have hd2 : setD 0 ((DataW.map [] : DataW Unit).put (.int .i64 5) (.lit (.int .i64 3))) 1 3 = D51 := if_pos hs1
  have ht : tickI 0 3 = 3 := by decide
  have HS1 := Lib.hid hs1
  have HD1 := Lib.hid hd1
  have HD2 := Lib.hid hd2
  have HT := Lib.hid ht
  clear hs1 hd1 hd2 ht
  go_enter Try.func5, Try.ntmps5
  go_wp2_with fail
  refine (newClock_any w).mono ?_; rintro e w1 ⟨rfl, hw1⟩
  have hc1 : Clk w1 w.heap.size 0 none 0 (.map []) := by rw [hw1]; exact clk_new w 0
  have hf1 : Fr (fun _ => False) w w1 := by rw [hw1]; exact (Fr.refl _ _).alloc _
  have hs1 : w1.heap.size = w.heap.size + 1 := by rw [hw1]; simp
  generalize hg : w.heap.size = g at *
  clear hw1
  have HG := Lib.hid hg
  have HZ := Lib.hid hs1
  clear hg hs1
  go_wp2_with fail
  refine (new_any 7 w1).mono ?_; rintro e w2 ⟨rfl, hw2⟩
  have hs2 : Src w2 w1.heap.size 7 0 := by rw [hw2]; exact src_new w1 7
  have hf2 : Fr (fun _ => False) w1 w2 := by rw [hw2]; exact (Fr.refl _ _).alloc _
  have HZ2 := Lib.hid (show w2.heap.size = w1.heap.size + 1 by rw [hw2]; simp)
  clear hw2
  generalize hgs : w1.heap.size = gs at *
  have hgne : gs = g + 1 := hgs ▸ HZ.out
  clear hgs
  have HGN := Lib.hid hgne
  clear hgne
  have hc2 := hc1.fr hf2 (fun _ _ h => h)
  have hff2 := hf1.trans hf2 (fun _ _ h => h)
  clear hc1 hf1 hf2 HZ
  go_wp2_with fail
  refine (set_any g 0 5 3 none 0 _ w2 hc2 ⟨by omega, by omega⟩ ⟨by omega, by omega⟩ (by omega)).mono ?_
  rw [HS1.out, HD1.out]
  rintro e w3 ⟨rfl, m3, hc3⟩
  obtain ⟨b, rfl⟩ := clkTo_some hc3 ⟨_, rfl⟩
  have hb3 : w2.heap.size ≤ b := by
    rcases hc3.2.2 with e | ⟨b', e, h⟩
    · cases e
    · injection e with e; omega
  have hs3 : Src w3 gs 7 0 := hs2.fr hc3.2.1 (fun h => by
    rcases h with e | e
    · have := HGN.out
      omega
    · cases e)
  have hff3 : Fr (fun _ => False) w w3 := hff2.trans hc3.2.1 (fun x hx h => by
    rcases h with e | e
    · have := HG.out; omega
    · cases e)
  have hw3 : w2.heap.size ≤ w3.heap.size := hc3.2.1.size
  have hcl3 := hc3.1
  clear hc2 hs2 hff2 hc3
  go_wp2_with fail
  refine (set_any g 0 1 3 (some b) 1 _ w3 hcl3 ⟨by omega, by omega⟩ ⟨by omega, by omega⟩ (by omega)).mono ?_
  rw [HS1.out, HD2.out]
  rintro e w4 ⟨rfl, m4, hc4⟩
  have hm4 : ∃ b4, m4 = some b4 ∧ w2.heap.size ≤ b4 := by
    rcases hc4.2.2 with e | ⟨b', e, h⟩
    · exact ⟨b, e, hb3⟩
    · exact ⟨b', e, by omega⟩
  obtain ⟨b4, rfl, hb4⟩ := hm4
  have hs4 : Src w4 gs 7 0 := hs3.fr hc4.2.1 (fun h => by
    have h1 := HGN.out
    have h2 := HZ2.out
    rcases h with e | e
    · omega
    · injection e with e; omega)
  have hff4 : Fr (fun _ => False) w w4 := hff3.trans hc4.2.1 (fun x hx h => by
    have h1 := HG.out
    have h2 := HGN.out
    have h3 := HZ2.out
    rcases h with e | e
    · omega
    · injection e with e; omega)
  have hcl4 := hc4.1
  clear hcl3 hs3 hff3 hc4 hw3 hb3
  go_wp2_with fail
  refine (tick_any g 0 3 (some b4) 2 _ w4 hcl4 (by omega) (by omega)).mono ?_
  rw [HT.out]
  rintro e w5 ⟨rfl, hcl5, hf5⟩
  have hCS : ∀ x, CS g (some b4) x → x = g ∨ x = b4 := fun x h => h.imp id (fun e => by injection e with e; exact e.symm)
  have hs5 : Src w5 gs 7 0 := hs4.fr hf5 (fun h => by
    have h1 := HGN.out
    have h2 := HZ2.out
    rcases hCS _ h with e | e <;> omega)
  have hff5 : Fr (fun _ => False) w w5 := hff4.trans hf5 (fun x hx h => by
    have h1 := HG.out
    have h2 := HGN.out
    have h3 := HZ2.out
    rcases hCS _ h with e | e <;> omega)
  clear hcl4 hs4 hff4 hf5
  go_wp2_with fail
  refine (due_known g b4 2 3 D51 w5 hcl5 (by omega) d51_due (by rw [d51_tick (.inl rfl), d51_tick (.inr rfl)])).mono ?_
  rintro e w6 ⟨d, cap, rfl, m0, m1, hf6⟩
  have hs6 : Src w6 gs 7 0 := hs5.fr hf6 (fun h => by
    have h1 := HGN.out
    have h2 := HZ2.out
    rcases hCS _ h with e | e <;> omega)
  have hff6 : Fr (fun _ => False) w w6 := hff5.trans hf6 (fun x hx h => by
    have h1 := HG.out
    have h2 := HGN.out
    have h3 := HZ2.out
    rcases hCS _ h with e | e <;> omega)
  have HF6 := Lib.hid hff6
  have HS6 := Lib.hid hs6
  clear hcl5 hs5 hff5 hf6 hCS hs6 hff6 HS1 HD1 HD2 HT hb4
  go_wp2_with fail
  refine (below_any gs 7 0 0 w6 HS6.out (by omega) (by omega)).mono ?_
  rw [(below_no (s := 7) (n := 0) (by omega)).1, (below_no (s := 7) (n := 0) (by omega)).2.1, (below_no (s := 7) (n := 0) (by omega)).2.2]
  rintro e w7 ⟨rfl, hs7, hf7⟩
  have HF7 := Lib.hid (HF6.out.trans hf7 (fun x hx h => by have h1 := HG.out; have h2 := HGN.out; omega))
  clear m0 m1 hf7 HF6
  have HS7 := Lib.hid hs7
  clear hs7
  go_wp2_with fail
  refine (count_any gs 7 0 w7 HS7.out).mono ?_; rintro e _ ⟨rfl, rfl⟩
  go_wp2_with fail
  refine (between_any gs 7 0 4 4 w7 HS7.out (by omega)).mono ?_
  rw [knownB, knownK]
  rintro e w8 ⟨rfl, hs8, hf8⟩
  have HF8 := Lib.hid (HF7.out.trans hf8 (fun x hx h => by have h1 := HG.out; have h2 := HGN.out; omega))
  have HS8 := Lib.hid hs8
  clear hf8 HF7 hs8
  go_wp2_with fail
  refine (count_any gs _ 1 w8 HS8.out).mono ?_; rintro e _ ⟨rfl, rfl⟩
  go_wp2
  go_ret
  exact ⟨rfl, HF8.out⟩
end Go.Proofs.Ytholaofgdahcbaa
