/- The disk's small calls: the power, the queue's readings, copies. -/
import Derived.Test.YtnkkdpmmnenncaaUb
namespace Go.Proofs.Ytnkkdpmmnenncaa
open Go.RowKit Go.Maps

theorem isOff_any (g : Nat) (b : Bool) (w : World) (h : w.cell? ⟨g, 0, none⟩ = some (.bool b)) :
    Calls Try.prog 33 #[.pointer (some ⟨g, 0, none⟩)] w fun e w' => e = .returned (.bool b) ∧ w = w' := by
  go_enter Try.func33, Try.ntmps33
  go_wp2
  go_ret
  exact ⟨rfl, rfl⟩
theorem count_any (g n c : Nat) (A : Option Addr) (w : World) (h : w.cell? ⟨g, 7, none⟩ = some (.slice A n c)) :
    Calls Try.prog 34 #[.pointer (some ⟨g, 6, none⟩)] w fun e w' => e = .returned (.int .i64 (n : Int)) ∧ w = w' := by
  go_enter Try.func34, Try.ntmps34
  go_wp2
  go_ret
  exact ⟨rfl, rfl⟩

set_option maxRecDepth 100000 in
theorem piece_any (b n c i sz : Nat) (w : World) (hs0 : 1 ≤ sz) (hs1 : sz ≤ 1024) (hi : i ≤ 1048576) (hn : (i + 1) * sz ≤ n) (hc : n ≤ c) :
    Calls Try.prog 44 #[.slice (some ⟨b, 0, none⟩) n c, .int .i64 (i : Int), .int .i64 (sz : Int)] w fun e w' => e = .returned (.slice (some ⟨b, i * sz, none⟩) sz sz) ∧ w = w' := by
  have e1 : IntKind.i64.wrap ((i : Int) * (sz : Int)) = ((i * sz : Nat) : Int) := by
    have h1 : i * sz ≤ 1048576 * 1024 := Nat.mul_le_mul hi hs1
    have h2 : ((i * sz : Nat) : Int) = (i : Int) * sz := by simp
    rw [← h2]
    exact IntWalk.i64_in _ (by omega)
  have e2 : IntKind.i64.wrap (((i : Int) + 1) * (sz : Int)) = (((i + 1) * sz : Nat) : Int) := by
    have h1 : (i + 1) * sz ≤ 1048577 * 1024 := Nat.mul_le_mul (by omega) hs1
    have h2 : (((i + 1) * sz : Nat) : Int) = ((i : Int) + 1) * sz := by simp
    rw [← h2]
    exact IntWalk.i64_in _ (by omega)
  have e3 : (i + 1) * sz = i * sz + sz := by rw [Nat.add_mul]; omega
  have e4 : i * sz + sz ≤ n := by omega
  generalize (i + 1) * sz = q at *
  generalize i * sz = p at *
  subst e3
  clear hn
  go_enter Try.func44, Try.ntmps44
  go_wp2
  go_ret
  exact ⟨by show Ending.returned (.slice _ (p + sz - p) (p + sz - p)) = _; rw [Nat.add_sub_cancel_left], rfl⟩

/-- A block's cells stored one behind the other. -/
theorem Bk.fr_set {w : World} {g : Nat} (p : Nat) (u : Value) : Fr (fun k => k = g) w (w.setCell ⟨g, p, none⟩ u) :=
  Fr.setCell (S := fun k => k = g) (p := ⟨g, p, none⟩) (Fr.refl _ _) (fun _ => rfl) _
theorem Fr.set {w w' : World} {g : Nat} (h : Fr (fun k => k = g) w w') (p : Nat) (u : Value) : Fr (fun k => k = g) w (w'.setCell ⟨g, p, none⟩ u) :=
  Fr.setCell (S := fun k => k = g) (p := ⟨g, p, none⟩) h (fun _ => rfl) _

theorem turnOn_any (g : Nat) (a0 a1 a2 a3 a4 a5 a6 a7 a8 a9 a10 : Value) (w : World) (h : Bk w g 67 #[a0, a1, a2, a3, a4, a5, a6, a7, a8, a9, a10]) :
    Calls Try.prog 40 #[.pointer (some ⟨g, 0, none⟩)] w fun e w' => e = .returned (.tuple #[]) ∧ Bk w' g 67 #[.bool false, a1, a2, a3, a4, a5, a6, a7, a8, a9, a10] ∧ Fr (fun k => k = g) w w' := by
  have c0 : w.cell? ⟨g, 0, none⟩ = some a0 := h.cell 0
  have f0 : w.frozen? ⟨g, 0, none⟩ = false := h.frozen 0
  have H := Lib.hid h
  clear h
  go_enter Try.func40, Try.ntmps40
  go_wp2
  go_end0
  exact ⟨rfl, by simpa using H.out.set 0 (.bool false), Bk.fr_set _ _⟩

theorem turnOff_any (g : Nat) (a0 a1 a2 a3 a4 a5 a6 a7 a8 a9 a10 : Value) (w : World) (h : Bk w g 67 #[a0, a1, a2, a3, a4, a5, a6, a7, a8, a9, a10]) :
    Calls Try.prog 39 #[.pointer (some ⟨g, 0, none⟩)] w fun e w' => e = .returned (.tuple #[]) ∧ Bk w' g 67 #[.bool true, .int .i64 0, .slice none 0 0, a3, a4, a5, a6, a7, a8, a9, a10] ∧ Fr (fun k => k = g) w w' := by
  have c0 : w.cell? ⟨g, 0, none⟩ = some a0 := h.cell 0
  have f0 : w.frozen? ⟨g, 0, none⟩ = false := h.frozen 0
  have c1 : w.cell? ⟨g, 1, none⟩ = some a1 := h.cell 1
  have f1 : w.frozen? ⟨g, 1, none⟩ = false := h.frozen 1
  have c2 : w.cell? ⟨g, 2, none⟩ = some a2 := h.cell 2
  have f2 : w.frozen? ⟨g, 2, none⟩ = false := h.frozen 2
  have H := Lib.hid h
  clear h
  go_enter Try.func39, Try.ntmps39
  go_wp2
  go_end0
  exact ⟨rfl, by simpa using ((H.out.set 0 (.bool true)).set 1 (.int .i64 0)).set 2 (.slice none 0 0), ((Bk.fr_set _ _).set _ _).set _ _⟩

set_option maxRecDepth 100000 in
theorem countDown_any (g n : Nat) (a0 a2 a3 a4 a5 a6 a7 a8 a9 a10 : Value) (w : World) (hn : (n : Int) ≤ 9223372036854775807) (h : Bk w g 67 #[a0, .int .i64 (n : Int), a2, a3, a4, a5, a6, a7, a8, a9, a10]) :
    Calls Try.prog 31 #[.pointer (some ⟨g, 0, none⟩)] w fun e w' => e = .returned (.bool (n == 1)) ∧ Bk w' g 67 #[a0, .int .i64 ((n - 1 : Nat) : Int), a2, a3, a4, a5, a6, a7, a8, a9, a10] ∧ Fr (fun k => k = g) w w' := by
  have c1 : w.cell? ⟨g, 1, none⟩ = some (.int .i64 (n : Int)) := h.cell 1
  have f1 : w.frozen? ⟨g, 1, none⟩ = false := h.frozen 1
  have H := Lib.hid h
  clear h
  rcases n with _ | n
  · go_enter Try.func31, Try.ntmps31
    go_wp2
    go_ret
    exact ⟨rfl, H.out, Fr.refl _ _⟩
  · have e3 : ((n + 1 - 1 : Nat) : Int) = (n : Int) := by omega
    have e4 : ((n + 1 : Nat) == 1) = ((n : Int) == 0) := by rw [Bool.eq_iff_iff]; simp
    have e5 : ((n + 1 : Nat) : Int) = (n : Int) + 1 := by omega
    rw [e3, e4]
    rw [e5] at c1 hn H
    have hn0 : 0 ≤ (n : Int) := by omega
    generalize (n : Int) = m at *
    clear e3 e4 e5
    have e1 : ((m + 1) == 0) = false := by simp; omega
    go_enter Try.func31, Try.ntmps31
    go_wp2
    go_ret
    exact ⟨rfl, by simpa using H.out.set 1 (.int .i64 m), Bk.fr_set _ _⟩
theorem am_made (w : World) (k : Nat) (hk : k = w.heap.size) : AM (w.alloc (.map #[] 0)) k 0 (.map []) := by
  subst hk
  exact World.ownsMap_made _ _ _ _
set_option maxRecDepth 100000 in
theorem newQueue_any (sz : Nat) (w : World) :
    Calls Try.prog 29 #[.int .i64 (sz : Int)] w fun e w' => ∃ mb, e = .returned (.agg #[.int .i64 (sz : Int), .slice none 0 0, .slice none 0 0, .map (some mb)]) ∧ AM w' mb 0 (.map []) ∧ w.heap.size ≤ mb ∧ Fr (fun _ => False) w w' := by
  have hmm := @run_makeMap Try.prog
  go_enter Try.func29, Try.ntmps29
  go_wp2
  refine bodyPost_ret (v := .agg #[.int .i64 (sz : Int), .slice none 0 0, .slice none 0 0, .map (some (w.heap.size + 1))]) (by simp [results, Try.results29, go_sem]) rfl ⟨_, rfl, ?_, ?_, ?_⟩
  · exact am_made _ _ (by simp)
  · omega
  · exact ((Fr.refl _ _).alloc _).alloc _

/-- From the queue's cells to those of an empty one. -/
theorem empty_any (g sz : Nat) (a0 a1 a2 a3 a4 a5 a7 a8 a9 a10 : Value) (w : World) (h : Bk w g 67 #[a0, a1, a2, a3, a4, a5, .int .i64 (sz : Int), a7, a8, a9, a10]) :
    Calls Try.prog 36 #[.pointer (some ⟨g, 6, none⟩)] w fun e w' => e = .returned (.tuple #[]) ∧ ∃ mb, Bk w' g 67 #[a0, a1, a2, a3, a4, a5, .int .i64 (sz : Int), .slice none 0 0, .slice none 0 0, .map (some mb), a10] ∧ AM w' mb 0 (.map []) ∧ w.heap.size ≤ mb ∧ Fr (fun k => k = g) w w' := by
  have c6 : w.cell? ⟨g, 6, none⟩ = some (.int .i64 (sz : Int)) := h.cell 6
  have C := Lib.hid (newQueue_any sz w)
  have H := Lib.hid h
  clear h
  go_enter Try.func36, Try.ntmps36
  go_wp2_with fail
  refine C.out.mono ?_; rintro e w1 ⟨mb, rfl, hm, hB, hf⟩
  have hb := H.out.fr hf (fun h => h)
  have hne := hm.ne hb
  have HM := Lib.hid hm
  have HB := Lib.hid hb
  have HF := Lib.hid hf
  clear C hm c6 hf
  have c6 : w1.cell? ⟨g, 6, none⟩ = some (.int .i64 (sz : Int)) := hb.cell 6
  have f6 : w1.frozen? ⟨g, 6, none⟩ = false := hb.frozen 6
  have c7 : w1.cell? ⟨g, 7, none⟩ = some a7 := hb.cell 7
  have f7 : w1.frozen? ⟨g, 7, none⟩ = false := hb.frozen 7
  have c8 : w1.cell? ⟨g, 8, none⟩ = some a8 := hb.cell 8
  have f8 : w1.frozen? ⟨g, 8, none⟩ = false := hb.frozen 8
  have c9 : w1.cell? ⟨g, 9, none⟩ = some a9 := hb.cell 9
  have f9 : w1.frozen? ⟨g, 9, none⟩ = false := hb.frozen 9
  clear hb
  go_wp2
  go_end0
  have hs : Fr (fun k => k = g) w1 ((((w1.setCell ⟨g, 6, none⟩ (.int .i64 (sz : Int))).setCell ⟨g, 7, none⟩ (.slice none 0 0)).setCell ⟨g, 8, none⟩ (.slice none 0 0)).setCell ⟨g, 9, none⟩ (.map (some mb))) := (((Bk.fr_set _ _).set _ _).set _ _).set _ _
  refine ⟨rfl, mb, by simpa using (((HB.out.set 6 (.int .i64 (sz : Int))).set 7 (.slice none 0 0)).set 8 (.slice none 0 0)).set 9 (.map (some mb)), HM.out.fr hs (fun e => hne e.symm), hB, (HF.out.mono (fun _ _ h => h.elim)).trans hs (fun _ _ h => h)⟩

set_option maxRecDepth 100000 in
set_option maxHeartbeats 1000000 in
theorem clone8_any (A : Option Addr) (n c : Nat) (xs : List UInt8) (w : World) (hr : Rd8 w A xs) (hn : xs.length = n) (hb : n ≤ 140737488355328) :
    Calls Try.prog 42 #[.slice A n c] w fun e w' => ∃ A' c', e = .returned (.slice A' n c') ∧ Own8 w' 5 (.slice A' n c') xs ∧ Fresh w w' (.slice A' n c') := by
  rcases A with _ | ad
  · have h0 : xs = [] := by
      rcases Nat.eq_zero_or_pos xs.length with h0 | h0
      · exact List.eq_nil_of_length_eq_zero h0
      · obtain ⟨ad, h, _⟩ := hr h0; cases h
    subst h0
    simp at hn
    subst hn
    have hq := fun W => Lib.run_eql_slice_nil (P := Try.prog) W 32 5 none 0 c 0 0 Try.underlying32
    go_enter Try.func42, Try.ntmps42
    go_wp2
    go_ret
    exact ⟨none, 0, rfl, Own8.nil _ _, Fresh.nil _ _ (Fr.refl _ _)⟩
  · have hq := fun W => Lib.run_eql_slice_nil (P := Try.prog) W 32 5 (some ad) n c 0 0 Try.underlying32
    go_enter Try.func42, Try.ntmps42
    have hf0 : Fr (fun _ => False) w (w.alloc (.cells #[] 5)) := (Fr.refl _ _).alloc _
    go_wp2_with (at_builtin; (refine wpList_append8s _ rfl (.tmp 5) (.tmp 6) Try.t8d rfl _ [] rfl (Own8.fresh w _ #[] 0 rfl (by decide)) (some ad) n c xs rfl hn (hr.fr hf0 (fun _ _ _ h => h)) (by simp; omega) ?_; intro A1 c1 w1 ho1 hf1 hm1))
    go_ret
    simp only [List.length_nil, Nat.zero_add, List.nil_append, hn] at ho1 hm1 ⊢
    exact ⟨A1, c1, rfl, ho1, (Fresh.new w _ 0 0).step hf1 hm1⟩
end Go.Proofs.Ytnkkdpmmnenncaa
