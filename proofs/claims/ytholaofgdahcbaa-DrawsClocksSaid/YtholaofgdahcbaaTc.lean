/- A clock's sort, at two alarms. -/
import Derived.Test.YtholaofgdahcbaaTb
import Derived.Handy
import Derived.Deep.RegionWith
import Derived.BigRegion
import Derived.Shelf.RegionOpenPlain
namespace Go.Proofs.Ytholaofgdahcbaa
open Go.RowKit Go.Maps

/-- The method value: the clock's comparison, bound to it. -/
def cmpF (g : Nat) : Value := .func (.func 24) #[.pointer (some ⟨g, 0, none⟩)] #[]

theorem Try.mixed : Try.prog.follows Departure.mixedOrders = true := by kernel_rfl

set_option maxRecDepth 100000 in
set_option maxHeartbeats 1000000 in
theorem ins2_any (d cap g b n : Nat) (now x y : Int) (D : DataW Unit) (cur : Array Value) (w : World) (h : Clk w g now (some b) n D) (hx : I64 x) (hy : I64 y) (hd : Bk w d 3 cur) (h0 : cur[0]? = some (.int .i64 x)) (h1 : cur[1]? = some (.int .i64 y)) (hlt : cmpC D y x < 0) :
    Calls Try.prog 32 #[.slice (some ⟨d, 0, none⟩) 2 cap, .int .i64 0, .int .i64 2, cmpF g] w fun e w' => e = .returned (.tuple #[]) ∧ Bk w' d 3 ((cur.setIfInBounds 1 (.int .i64 x)).setIfInBounds 0 (.int .i64 y)) ∧ Fr (fun k => k = d) w w' := by
  have m0 : w.cell? ⟨d, 0, none⟩ = some (.int .i64 x) := by rw [hd.cell 0, h0]
  have m1 : w.cell? ⟨d, 1, none⟩ = some (.int .i64 y) := by rw [hd.cell 1, h1]
  have hw0 : IntKind.i64.wrap 0 = 0 := by decide
  have C := Lib.hid (fun w h => clkcmp_any g b n now y x D w h hy hx)
  have H := Lib.hid h
  have HD := Lib.hid hd
  clear h hd
  unfold cmpF
  go_enter Try.func32, Try.ntmps32
  go_wp2
  refine wp_loop_rounds 2 ?_
  rw [rounds_succ]
  go_wp2
  refine wp_loop_rounds 2 ?_
  rw [rounds_succ]
  go_wp2
  refine wp_region_still_tail 14 (by kernel_rfl) (by kernel_rfl) ?_
  simp only [List.take_succ_cons, List.take_zero, List.drop_succ_cons, List.drop_zero]
  still_step; still_step; still_step; still_step; still_step; still_step; still_step; still_step; still_step; still_step; still_step; still_step; still_step; still_step
  refine wpStill_nil ?_
  change wpList _ _ _ _ _ w.drew
  have H2 := Lib.hid (show Clk w.drew g now (some b) n D from H.out)
  have HD2 := Lib.hid (show Bk w.drew d 3 cur from HD.out)
  have HF := Lib.hid ((Fr.refl (fun _ => False) w).drew)
  clear m0 m1 H HD
  generalize w.drew = w0 at *
  generalize cmpC D y x = cv at *
  go_wp2_with fail
  refine (C.out _ H2.out).mono ?_; rintro e w1 ⟨rfl, hf⟩
  have H3 := Lib.hid (H2.out.fr hf (fun _ _ h => h))
  have HD3 := Lib.hid (HD2.out.fr hf (fun h => h))
  have HF3 := Lib.hid (HF.out.trans hf (fun _ _ h => h))
  have m0 : w1.cell? ⟨d, 0, none⟩ = some (.int .i64 x) := by rw [HD3.out.cell 0, h0]
  have m1 : w1.cell? ⟨d, 1, none⟩ = some (.int .i64 y) := by rw [HD3.out.cell 1, h1]
  have f0 : w1.frozen? ⟨d, 0, none⟩ = false := HD3.out.frozen 0
  have f1 : w1.frozen? ⟨d, 1, none⟩ = false := HD3.out.frozen 1
  clear H2 HD2 HF hf h1 C
  go_wp2_with fail
  have m2 : (w1.setCell ⟨d, 1, none⟩ (.int .i64 x)).cell? ⟨d, 0, none⟩ = some (.int .i64 x) := by simpa [Bk] using (HD3.out.set 1 (.int .i64 x)).cell 0 |>.trans (by simp [h0])
  have mixed := Try.mixed
  go_big_region_o
  clear m0 m1 f0 f1 m2
  have HB := Lib.hid (show Bk ((w1.setCell ⟨d, 1, none⟩ (.int .i64 x)).setCell ⟨d, 0, none⟩ (.int .i64 y)).drew d 3 ((cur.setIfInBounds 1 (.int .i64 x)).setIfInBounds 0 (.int .i64 y)) from (HD3.out.set 1 _).set 0 _)
  have HR := Lib.hid (show Fr (fun k => k = d) w ((w1.setCell ⟨d, 1, none⟩ (.int .i64 x)).setCell ⟨d, 0, none⟩ (.int .i64 y)).drew from
    (Fr.setCell (S := fun k => k = d) (p := ⟨d, 0, none⟩) (Fr.setCell (S := fun k => k = d) (p := ⟨d, 1, none⟩) (HF3.out.mono (fun _ _ h => h.elim)) (fun _ => rfl) _) (fun _ => rfl) _).drew)
  generalize ((w1.setCell ⟨d, 1, none⟩ (.int .i64 x)).setCell ⟨d, 0, none⟩ (.int .i64 y)).drew = w2 at *
  clear H3 HD3 HF3
  go_wp2_with fail
  rw [rounds_succ]
  go_wp2_with fail
  go_big_region_o
  go_wp2
  rw [rounds_succ]
  go_wp2
  go_end0
  exact ⟨rfl, HB.out, HR.out.drew⟩

set_option maxRecDepth 100000 in
set_option maxHeartbeats 1000000 in
theorem ins2_no (d cap g b n : Nat) (now x y : Int) (D : DataW Unit) (cur : Array Value) (w : World) (h : Clk w g now (some b) n D) (hx : I64 x) (hy : I64 y) (hd : Bk w d 3 cur) (h0 : cur[0]? = some (.int .i64 x)) (h1 : cur[1]? = some (.int .i64 y)) (hlt : 0 ≤ cmpC D y x) :
    Calls Try.prog 32 #[.slice (some ⟨d, 0, none⟩) 2 cap, .int .i64 0, .int .i64 2, cmpF g] w fun e w' => e = .returned (.tuple #[]) ∧ Bk w' d 3 cur ∧ Fr (fun k => k = d) w w' := by
  have m0 : w.cell? ⟨d, 0, none⟩ = some (.int .i64 x) := by rw [hd.cell 0, h0]
  have m1 : w.cell? ⟨d, 1, none⟩ = some (.int .i64 y) := by rw [hd.cell 1, h1]
  have hw0 : IntKind.i64.wrap 0 = 0 := by decide
  have C := Lib.hid (fun w h => clkcmp_any g b n now y x D w h hy hx)
  have H := Lib.hid h
  have HD := Lib.hid hd
  clear h hd
  unfold cmpF
  go_enter Try.func32, Try.ntmps32
  go_wp2
  refine wp_loop_rounds 2 ?_
  rw [rounds_succ]
  go_wp2
  refine wp_loop_rounds 2 ?_
  rw [rounds_succ]
  go_wp2
  refine wp_region_still_tail 14 (by kernel_rfl) (by kernel_rfl) ?_
  simp only [List.take_succ_cons, List.take_zero, List.drop_succ_cons, List.drop_zero]
  still_step; still_step; still_step; still_step; still_step; still_step; still_step; still_step; still_step; still_step; still_step; still_step; still_step; still_step
  refine wpStill_nil ?_
  change wpList _ _ _ _ _ w.drew
  have H2 := Lib.hid (show Clk w.drew g now (some b) n D from H.out)
  have HD2 := Lib.hid (show Bk w.drew d 3 cur from HD.out)
  have HF := Lib.hid ((Fr.refl (fun _ => False) w).drew)
  clear m0 m1 H HD
  generalize w.drew = w0 at *
  generalize cmpC D y x = cv at *
  go_wp2_with fail
  refine (C.out _ H2.out).mono ?_; rintro e w1 ⟨rfl, hf⟩
  have H3 := Lib.hid (H2.out.fr hf (fun _ _ h => h))
  have HD3 := Lib.hid (HD2.out.fr hf (fun h => h))
  have HF3 := Lib.hid (HF.out.trans hf (fun _ _ h => h))
  have HR := Lib.hid (HF3.out.mono (T := fun k => k = d) (fun _ _ h => h.elim))
  clear H2 HD2 HF hf h1 h0 C H3 HF3
  have hlt' : ¬ cv < 0 := by omega
  go_wp2_with fail
  rw [rounds_succ]
  go_wp2
  go_end0
  exact ⟨rfl, HD3.out, HR.out⟩

/-- The row of two, sorted. -/
def sorted2 (D : DataW Unit) (x y : Int) (cur : Array Value) : Array Value := if cmpC D y x < 0 then (cur.setIfInBounds 1 (.int .i64 x)).setIfInBounds 0 (.int .i64 y) else cur
theorem ins2_all (d cap g b n : Nat) (now x y : Int) (D : DataW Unit) (cur : Array Value) (w : World) (h : Clk w g now (some b) n D) (hx : I64 x) (hy : I64 y) (hd : Bk w d 3 cur) (h0 : cur[0]? = some (.int .i64 x)) (h1 : cur[1]? = some (.int .i64 y)) :
    Calls Try.prog 32 #[.slice (some ⟨d, 0, none⟩) 2 cap, .int .i64 0, .int .i64 2, cmpF g] w fun e w' => e = .returned (.tuple #[]) ∧ Bk w' d 3 (sorted2 D x y cur) ∧ Fr (fun k => k = d) w w' := by
  unfold sorted2
  by_cases hc : cmpC D y x < 0
  · rw [if_pos hc]; exact ins2_any d cap g b n now x y D cur w h hx hy hd h0 h1 hc
  · rw [if_neg hc]; exact ins2_no d cap g b n now x y D cur w h hx hy hd h0 h1 (by omega)

set_option maxRecDepth 100000 in
theorem len64_two (w : World) : Calls Try.prog 41 #[.int .u64 2] w fun e w' => e = .returned (.int .i64 2) ∧ w' = w := by
  go_enter Try.func41, Try.ntmps41
  go_wp2
  go_ret
  exact ⟨ret_int (by decide +kernel), rfl⟩
set_option maxRecDepth 100000 in
theorem len_two (w : World) : Calls Try.prog 28 #[.int .u64 2] w fun e w' => e = .returned (.int .i64 2) ∧ w' = w := by
  go_enter Try.func28, Try.ntmps28
  go_wp2_with fail
  refine (len64_two _).mono ?_; rintro e w1 ⟨rfl, rfl⟩
  go_wp2
  go_ret
  exact ⟨rfl, rfl⟩
set_option maxRecDepth 100000 in
theorem pdq2_any (d cap g b n : Nat) (now x y : Int) (D : DataW Unit) (cur : Array Value) (w : World) (h : Clk w g now (some b) n D) (hx : I64 x) (hy : I64 y) (hd : Bk w d 3 cur) (h0 : cur[0]? = some (.int .i64 x)) (h1 : cur[1]? = some (.int .i64 y)) :
    Calls Try.prog 27 #[.slice (some ⟨d, 0, none⟩) 2 cap, .int .i64 0, .int .i64 2, .int .i64 2, cmpF g] w fun e w' => e = .returned (.tuple #[]) ∧ Bk w' d 3 (sorted2 D x y cur) ∧ Fr (fun k => k = d) w w' := by
  have C := Lib.hid (ins2_all d cap g b n now x y D cur w h hx hy hd h0 h1)
  clear h hd h0 h1
  go_enter Try.func27, Try.ntmps27
  go_wp2
  refine wp_loop_rounds 1 ?_
  rw [rounds_succ]
  go_wp2_with fail
  refine C.out.mono ?_; rintro e w1 ⟨rfl, hb, hf⟩
  go_wp2
  (try simp only [Exit.inBlock, Exit.then]); refine bodyPost_ret (results_none rfl _ _ _) rfl ?_
  exact ⟨rfl, hb, hf⟩
set_option maxRecDepth 100000 in
theorem sort2_any (d cap g b n : Nat) (now x y : Int) (D : DataW Unit) (cur : Array Value) (w : World) (h : Clk w g now (some b) n D) (hx : I64 x) (hy : I64 y) (hd : Bk w d 3 cur) (h0 : cur[0]? = some (.int .i64 x)) (h1 : cur[1]? = some (.int .i64 y)) :
    Calls Try.prog 23 #[.slice (some ⟨d, 0, none⟩) 2 cap, cmpF g] w fun e w' => e = .returned (.tuple #[]) ∧ Bk w' d 3 (sorted2 D x y cur) ∧ Fr (fun k => k = d) w w' := by
  have C := Lib.hid (fun w h hd => pdq2_any d cap g b n now x y D cur w h hx hy hd h0 h1)
  have CL := Lib.hid (fun w => len_two w)
  have H := Lib.hid h
  have HD := Lib.hid hd
  clear h hd h0 h1
  go_enter Try.func23, Try.ntmps23
  go_wp2_with fail
  refine (CL.out _).mono ?_; rintro e w1 ⟨rfl, rfl⟩
  go_wp2_with fail
  refine (C.out _ H.out HD.out).mono ?_; rintro e w1 ⟨rfl, hb, hf⟩
  go_wp2
  go_end0
  exact ⟨rfl, hb, hf⟩
end Go.Proofs.Ytholaofgdahcbaa
