/- Is an error the document's fault. -/
import Derived.Test.YtblfnbmgijppmaaDoorFc
namespace Go.Proofs.YtblfnbmgijppmaaDoor
open Go.RowKit

/-- The document's fault, as the reference has it. -/
structure Flt where
  er : Nat
  at_ : Nat
  what : ByteArray
def Flt.v (f : Flt) : Value := .agg #[.int .i64 f.er, .int .i64 f.at_, .string f.what]

/-- A region of which some operations have come up: the others only read, their callees make memory at most: one walk of them, in the order of the text. -/
theorem wpAny_rest {P : Program} {ops : Array Oper} {Q : Exit → Act → World → Prop} {md : Region.Mode} {listed : Array Bool} {a : Act} {w : World} {l : List Oper} (k : Nat) (hs : Region.noSelect ops = true) (hl : l = ops.toList.drop k)
    (hB : Region.lexFrom md ops l.length k listed = true)
    (h : wpQuiet P ops (fun w' => ∃ p : Regrown, w' = Sort.grow (redrawn w p.d) p.os) (fun a' => ∀ w', (∃ p : Regrown, w' = Sort.grow (redrawn w p.d) p.os) → Q .normal a' w') l a) : wpAny P md ops Q l.length listed a w :=
  wpAny_of_quiet (Q := fun a' => ∀ w', (∃ p : Regrown, w' = Sort.grow (redrawn w p.d) p.os) → Q .normal a' w') (fun _ w' hw' h => h w' hw') _ _ _ _ ⟨⟨w.drawn, #[]⟩, by rw [Sort.grow_empty]; rfl⟩
    (wpAnyQ_lex hs l k listed a (fun j => by subst hl; rw [List.getElem?_drop]; simp) hB h)

set_option maxRecDepth 100000 in
theorem same_nil (p : Nat) (what : ByteArray) (w : World) :
    Calls Tryd.prog 10 #[.nilIface, .agg #[.int .i64 0, .int .i64 p, .string what]] w fun e w' => e = .returned (.bool true) ∧ Fr (fun _ => False) w w' := by
  go_enter Tryd.func10, Tryd.ntmps10
  go_wp2
  go_ret
  exact ⟨rfl, (Fr.refl _ _).alloc _⟩

set_option maxRecDepth 100000 in
set_option maxHeartbeats 4000000 in
theorem same_fault (fb : Nat) (k p : Nat) (what : ByteArray) (w : World) (hk : Bad4 k) (hp : p ≤ 9223372036854775807) (hw : what.size ≤ 1000000) (ht : PowT w) (hE : ErrT w) (hc : FaultAt w fb k p what) :
    Calls Tryd.prog 10 #[faultV fb, .agg #[.int .i64 k, .int .i64 p, .string what]] w fun e w' => e = .returned (.bool true) ∧ Fr (fun _ => False) w w' := by
  have hF : Fr (fun _ => False) w ((w.alloc (.cells #[.int .i64 k, .int .i64 p, .string what] 37)).alloc (.cells #[.pointer none] 73)) := ((Fr.refl _ _).alloc _).alloc _
  have hB : Bk ((w.alloc (.cells #[.int .i64 k, .int .i64 p, .string what] 37)).alloc (.cells #[.pointer none] 73)) w.heap.size 37 #[.int .i64 k, .int .i64 p, .string what] := (Bk.new w _ _).alloc _
  have hT : Bk ((w.alloc (.cells #[.int .i64 k, .int .i64 p, .string what] 37)).alloc (.cells #[.pointer none] 73)) (w.heap.size + 1) 73 #[.pointer none] := by
    have := Bk.new (w.alloc (.cells #[.int .i64 k, .int .i64 p, .string what] 37)) 73 #[.pointer none]
    simpa using this
  have hP := ht.fr hF (fun h => h)
  have hX := hE.fr hF (fun h => h)
  have hC : FaultAt _ fb k p what := Bk.fr hc hF (fun h => h)
  have hl1 : fb ≠ w.heap.size + 1 := by have := Bk.lt hc; omega
  have hl2 : 1 ≠ w.heap.size + 1 := by have : 1 < w.heap.size := World.block_lt_of_cell? w _ hE; omega
  have hl3 : 2 ≠ w.heap.size + 1 := by have := ht.lt; omega
  have hk0 : ((k : Int) == 0) = false := by rw [beq_eq_false_iff_ne]; rcases hk with h | h | h | h <;> omega
  have b1 : ((k : Int) == (k : Int)) = true := by simp
  have b2 : ((p : Int) == (p : Int)) = true := by simp
  have b3 : (what.toList == what.toList) = true := by simp
  have HT : Hid (faultText k what p = errText k ++ sIn ++ what ++ sAt ++ strOf (Lib.decDigits p)) := Lib.hid rfl
  have z1 := errText_size k
  have z2 : (strOf (Lib.decDigits p)).size ≤ 20 := by rw [strOf_size]; exact dec_len hp
  have C2 := Lib.hid (fun w (hc : w.cell? ⟨fb, 0, none⟩ = some (.int .i64 k)) => is_fault_same fb 0 k k b1 w hc)
  have C3 := Lib.hid (fun w (h0 : w.cell? ⟨fb, 0, none⟩ = some (.int .i64 k)) (h1 : w.cell? ⟨fb, 1, none⟩ = some (.int .i64 p)) (h2 : w.cell? ⟨fb, 2, none⟩ = some (.string what)) (ht : PowT w) => faultError_any fb k p what w hk hp hw ht h0 h1 h2)
  have C4 := Lib.hid (fun w => errno_any k w hk)
  have C5 := Lib.hid (fun w => decimal_any p w hp)
  generalize faultText k what p = txt at *
  generalize errText k = t1 at *
  generalize strOf (Lib.decDigits p) = t2 at *
  have s1 : ¬ 9223372036854775807 < t1.size + 4 := by omega
  have s2 : ¬ 9223372036854775807 < t1.size + 4 + what.size := by omega
  have s3 : ¬ 9223372036854775807 < t1.size + 4 + what.size + 4 := by omega
  have s4 : ¬ 9223372036854775807 < t1.size + 4 + what.size + 4 + t2.size := by omega
  clear z1 z2 hw hk hp hc hE ht
  unfold faultV at *
  go_enter Tryd.func10, Tryd.ntmps10
  go_wp2_with fail
  generalize (w.alloc (.cells #[.int .i64 k, .int .i64 p, .string what] 37)).alloc (.cells #[.pointer none] 73) = W at *
  generalize hgg : w.heap.size = g at *
  have HG := Lib.hid hgg
  clear hgg
  have C1 := Lib.hid (fun w2 (hf : Fr (fun x => x = g + 1) W w2) (h0 : w2.cell? ⟨g + 1, 0, none⟩ = some (.pointer none)) (h1 : w2.frozen? ⟨g + 1, 0, none⟩ = false) => as_fault ⟨g + 1, 0, none⟩ ⟨fb, 0, none⟩ (.pointer none) w2 (hX.fr hf hl2) h0 h1)
  have hq0 : W.cell? ⟨g + 1, 0, none⟩ = some (.pointer none) := hT.cell 0
  have hq1 : W.frozen? ⟨g + 1, 0, none⟩ = false := hT.frozen 0
  have mk : ∀ w', Fr (fun x => x = g + 1) W w' → w'.cell? ⟨g, 0, none⟩ = some (.int .i64 k) ∧ w'.cell? ⟨g, 1, none⟩ = some (.int .i64 p) ∧ w'.cell? ⟨g, 2, none⟩ = some (.string what) ∧ w'.cell? ⟨fb, 0, none⟩ = some (.int .i64 k) ∧ w'.cell? ⟨fb, 1, none⟩ = some (.int .i64 p) ∧ w'.cell? ⟨fb, 2, none⟩ = some (.string what) := fun w' hf => by
    have h1 := hB.fr hf (fun h => by have h' : g = g + 1 := h; omega)
    have h2 : FaultAt w' fb k p what := Bk.fr hC hf hl1
    exact ⟨h1.cell 0, h1.cell 1, h1.cell 2, h2.cell 0, h2.cell 1, h2.cell 2⟩
  have MK := @Lib.hid _ mk
  have HP := Lib.hid (fun w' (hf : Fr (fun x => x = g + 1) W w') => hP.fr hf hl3)
  clear mk hB hT hC hX hP
  unfold sIn sAt at *
  refine wp_region_any (by kernel_rfl) ?_
  refine wpAny_take (i := 0) (v := .iface 73 (.pointer (some ⟨fb, 0, none⟩))) rfl (by kernel_rfl) (by kernel_rfl) (by kernel_rfl) (fun _ _ _ h => h) (Or.inl ⟨by rfl, by intro w'; go_simp⟩) ?_
  try simp only [Act.put, List.setIfInBounds_toArray, List.set_cons_zero, List.set_cons_succ]
  refine wpAny_take (i := 1) (v := .bool true) rfl (by kernel_rfl) (by kernel_rfl) (by kernel_rfl) (fun _ _ _ h => h) (Or.inl ⟨by rfl, by intro w'; go_simp⟩) ?_
  try simp only [Act.put, List.setIfInBounds_toArray, List.set_cons_zero, List.set_cons_succ]
  refine wpAny_take (i := 2) (v := .bool true) rfl (by kernel_rfl) (by kernel_rfl) (by kernel_rfl) (fun _ _ _ h => h) (Or.inl ⟨by rfl, by intro w'; go_simp⟩) ?_
  try simp only [Act.put, List.setIfInBounds_toArray, List.set_cons_zero, List.set_cons_succ]
  refine wpAny_take (i := 3) (v := .iface 73 (.pointer (some ⟨fb, 0, none⟩))) rfl (by kernel_rfl) (by kernel_rfl) (by kernel_rfl) (fun _ _ _ h => h) (Or.inl ⟨by rfl, by intro w'; go_simp⟩) ?_
  try simp only [Act.put, List.setIfInBounds_toArray, List.set_cons_zero, List.set_cons_succ]
  refine wpAny_take (i := 4) (v := .iface 75 (.pointer (some ⟨g + 1, 0, none⟩))) rfl (by kernel_rfl) (by kernel_rfl) (by kernel_rfl) (fun _ _ _ h => h) (Or.inl ⟨by rfl, by intro w'; go_simp⟩) ?_
  try simp only [Act.put, List.setIfInBounds_toArray, List.set_cons_zero, List.set_cons_succ]
  refine wpAny_ready (rs := [5]) (by kernel_rfl) (by simp) ?_
  refine AllReady.cons rfl (fun K hK => ?_) AllReady.nil
  go_simp
  refine (C1.out _ (Fr.refl _ _).drew hq0 hq1).mono ?_; rintro e9 v1 ⟨rfl, hf1, hq⟩
  have hg1 : Fr (fun x => x = g + 1) W v1 := (Fr.refl (fun x => x = g + 1) W).drew.trans hf1 (fun _ _ h => h)
  go_simp
  refine hK _ _ ?_
  clear hK K
  try simp only [Act.put, List.setIfInBounds_toArray, List.set_cons_zero, List.set_cons_succ]
  refine wpAny_rest 6 (by kernel_rfl) rfl (by kernel_rfl) ?_
  obtain ⟨m0, m1, m2, m3, m4, m5⟩ := MK.out _ hg1
  have hP1 := HP.out _ hg1
  have k0 := cell_regrown m0
  have k1 := cell_regrown m1
  have k2 := cell_regrown m2
  have k3 := cell_regrown m3
  have k4 := cell_regrown m4
  have k5 := cell_regrown m5
  have k6 := cell_regrown hq
  have cS : ∀ d os, Calls Tryd.prog 31 #[.iface 73 (.pointer (some ⟨fb, 0, none⟩)), .iface 59 (.int .i64 k)] (Sort.grow (redrawn v1 d) os) fun e w'' => e = .returned (.bool true) ∧ ∃ p : Regrown, w'' = Sort.grow (redrawn v1 p.d) p.os := fun d os =>
    Calls.regrown_of ((C2.out _ (k3 d os)).mono fun _ _ ⟨h, k⟩ => ⟨h, k ▸ Below.refl _ _⟩)
  have cT : ∀ d os, Calls Tryd.prog 32 #[.pointer (some ⟨fb, 0, none⟩)] (Sort.grow (redrawn v1 d) os) fun e w'' => e = .returned (.string txt) ∧ ∃ p : Regrown, w'' = Sort.grow (redrawn v1 p.d) p.os := fun d os =>
    Calls.regrown_of ((C3.out _ (k3 d os) (k4 d os) (k5 d os) (hP1.fr (Fr.of_regrown v1 d os) (fun h => h))).mono fun _ _ ⟨h, k⟩ => ⟨h, k.below _ (Nat.le_refl _) (fun _ _ h => h)⟩)
  have cE : ∀ d os, Calls Tryd.prog 33 #[.int .i64 k] (Sort.grow (redrawn v1 d) os) fun e w'' => e = .returned (.string t1) ∧ ∃ p : Regrown, w'' = Sort.grow (redrawn v1 p.d) p.os := fun d os =>
    Calls.regrown_of ((C4.out _).mono fun _ _ ⟨h, k⟩ => ⟨h, k ▸ Below.refl _ _⟩)
  have cD : ∀ d os, Calls Tryd.prog 34 #[.int .i64 p] (Sort.grow (redrawn v1 d) os) fun e w'' => e = .returned (.string t2) ∧ ∃ p : Regrown, w'' = Sort.grow (redrawn v1 p.d) p.os := fun d os =>
    Calls.regrown_of ((C5.out _).mono fun _ _ ⟨h, k⟩ => ⟨h, k.below _ (Nat.le_refl _) (fun _ _ h => h)⟩)
  have b4 : (txt.toList == (t1 ++ ⟨#[32, 105, 110, 32]⟩ ++ what ++ ⟨#[32, 97, 116, 32]⟩ ++ t2).toList) = true := by rw [HT.out]; simp
  have hF1 : Fr (fun _ => False) w v1 := ((hF.mono (fun _ _ h => h.elim) : Fr (fun x => x = g + 1) w W).trans hg1 (fun _ _ h => h)).mono (fun x hx h => by have h' : x = g + 1 := h; have := HG.out; omega)
  clear MK HP m0 m1 m2 m3 m4 m5 hq hP1 C1 C2 C3 C4 C5 hq0 hq1 hf1 hg1
  repeat (quiet_step (first | exact cS _ _ | exact cT _ _ | exact cE _ _ | exact cD _ _))
  refine wpQuiet_nil ?_
  intro _ hw'
  obtain ⟨⟨dq, osq⟩, hw''⟩ := hw'
  subst hw''
  go_wp2
  go_ret
  exact ⟨rfl, hF1.trans (Fr.of_regrown v1 dq osq) (fun _ _ h => h)⟩
end Go.Proofs.YtblfnbmgijppmaaDoor
