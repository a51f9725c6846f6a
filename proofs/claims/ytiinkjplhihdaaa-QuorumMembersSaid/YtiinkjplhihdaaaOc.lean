/- Count, Most. -/
import Derived.Test.YtiinkjplhihdaaaOb
namespace Go.Proofs.Ytiinkjplhihdaaa
open Go.RowKit Go.Shelf

attribute [local go_sem] Oper.semAt_some

set_option maxRecDepth 100000 in
set_option maxHeartbeats 4000000 in
theorem count_in (n : Nat) (hn : 3 ≤ n) (m : Nat → Int) (hm : ∀ k, 0 ≤ m k ∧ m k < 256) (r : Int) (w : World) :
    CallsIn Fence.wide n Try.prog 21 #[mv m, .int .i64 r] w fun e W' => e = .returned (.int .i64 ((hav m r 9).length : Int)) ∧ Below w.heap.size w W' := by
  have h1 : 1 ≤ n := by omega
  have HB1 : Hid (Bx (w.alloc (.cells (mcs m) 23)) w.heap.size 0 m) := Lib.hid (Bx.new w 23 m)
  have CA := Lib.hid (fun w => all_in (n - 1) m r w)
  unfold mv mcs at *
  refine callsIn_of_wp_marks Try.func21 rfl trivial ?_ rfl
  simp only [Try.ntmps21, List.size_toArray, List.length_cons, List.length_nil, Nat.reduceAdd, Nat.reduceSub, Array.replicate_succ, Array.replicate_zero, List.push_toArray, List.append_toArray, List.nil_append, List.cons_append]
  gi_wp2_with (refine ⟨trivial, ?_⟩; gi_at_call 24; refine (CA.out _).mono ?_; rintro e w' ⟨rfl, rfl⟩)
  have HB2 : Hid (Bx ((((w.alloc (.cells (mcs m) 23)).alloc (.cells #[.int .i64 0] 3)).alloc (.cells (mcs m) 23)).alloc (.cells #[.int .i64 r] 3)) (w.heap.size + 1 + 1) 0 m) := Lib.hid (by
    have := Bx.new ((w.alloc (.cells (mcs m) 23)).alloc (.cells #[.int .i64 0] 3)) 23 m
    simp only [World.size_alloc] at this
    exact this.fr ((Fr.refl (fun _ => False) _).alloc _) (fun h => h))
  have hc2 := (Bk.new (((w.alloc (.cells (mcs m) 23)).alloc (.cells #[.int .i64 0] 3)).alloc (.cells (mcs m) 23)) 3 #[.int .i64 r]).cell 0
  have hc1 := (((Bk.new (w.alloc (.cells (mcs m) 23)) 3 #[.int .i64 0]).alloc (.cells (mcs m) 23)).alloc (.cells #[.int .i64 r] 3))
  simp only [World.size_alloc] at hc2 hc1
  have hB0 : Below w.heap.size w ((((w.alloc (.cells (mcs m) 23)).alloc (.cells #[.int .i64 0] 3)).alloc (.cells (mcs m) 23)).alloc (.cells #[.int .i64 r] 3)) := ((((Fr.refl (fun _ => False) w).alloc _).alloc _).alloc _).alloc _ |>.below _ (Nat.le_refl _) (fun _ _ h => h)
  refine wpIn_rangeFunc_ownF rfl h1 (gf := 32) (lb := #[.pointer (some ⟨w.heap.size + 1 + 1, 0, none⟩), .pointer (some ⟨w.heap.size + 1 + 1 + 1, 0, none⟩)]) rfl trivial (enters_of Try.func32 (by kernel_rfl) rfl)
    (all_stops (n - 1) (by omega) (w.heap.size + 1 + 1) (w.heap.size + 1 + 1 + 1) m hm r _ HB2.out hc2) KC.t (fun W l o o' _ h ho _ => KC.b _ W l o o' h ho) (Below.refl _ _) (fun _ => rfl)
    (fun pre W => Bk W (w.heap.size + 1) 3 #[.int .i64 (pre.length : Int)] ∧ Below w.heap.size w W)
    (fun _ _ _ => False)
    (OwnFrom.and (own_bk _ (w.heap.size + 1) 3 (fun pre : List K9 => #[.int .i64 (pre.length : Int)])) (ownFrom_below (Nat.le_refl _) (by simp; omega)))
    (fun _ _ _ _ _ hs _ _ => hs)
    ⟨hc1, hB0⟩
    ?a1 ?assign ?body ?done ?stop
  case assign =>
    intro l x W K hK
    gi_wp2
    exact hK
  case body =>
    rintro l pre x W ⟨hk, hB⟩ hlen
    have hc := hk.cell 0
    have hf := hk.frozen 0
    simp only [List.getElem?_toArray, List.getElem?_cons_zero] at hc
    have hw : wrap64 ((pre.length : Int) + 1) = ((pre ++ [x]).length : Int) := by simp; unfold wrap64; omega
    gi_wp2
    exact ⟨KeepsOthers.setCell _ _ _, KC.fr ((Fr.refl (fun k => k = w.heap.size + 1) W).setCell (p := ⟨w.heap.size + 1, 0, none⟩) (fun _ => rfl) _) (by omega), (by have := hk.set 0 (.int .i64 ((pre.length : Int) + 1)); simpa using this), hB.setCell (p := ⟨w.heap.size + 1, 0, none⟩) (by simp) _⟩
  case done =>
    rintro D ys W hD hys ⟨hk, hB⟩ hK
    have hc := hk.cell 0
    simp only [List.getElem?_toArray, List.getElem?_cons_zero] at hc
    have hl : ys.length = (hav m r 9).length := by rw [← hys]; simp [ks]
    rw [hl] at hc
    gi_wp2
    refine ⟨by simp, .inl ⟨_, _, rfl, run_takeDeferred hK, ?_⟩⟩
    exact ⟨_, results_tmp rfl _ _ _, rfl, hB.trans (belowK_b (w := w) (Nat.le_refl _) W D _ _ (by simp at hD; omega) hK rfl rfl)⟩
  case stop =>
    rintro D c pre W _ _ h _
    exact h.elim

/-- How many have a role. -/
def cnt (m : Nat → Int) (r : Int) : Nat := (hav m r 9).length
theorem cnt_le (m : Nat → Int) (r : Int) : cnt m r ≤ 9 := hav_len m r 9
theorem frF {w w' : World} (h : Below w.heap.size w w') : Fr (fun _ => False) w w' := ⟨h.os, h.tape, h.output, h.size, fun k hk _ => h.block k hk⟩
theorem Fr.bel {w w' : World} (h : Fr (fun _ => False) w w') : Below w.heap.size w w' := h.below _ (Nat.le_refl _) (fun _ _ h => h)

theorem count_any (m : Nat → Int) (hm : ∀ k, 0 ≤ m k ∧ m k < 256) (r : Int) (w : World) :
    Calls Try.prog 21 #[mv m, .int .i64 r] w fun e w' => e = .returned (.int .i64 (cnt m r : Int)) ∧ Fr (fun _ => False) w w' :=
  callsIn_wide.1 ((count_in 9 (by omega) m hm r w).mono fun _ _ ⟨he, hb⟩ => ⟨he, frF hb⟩)

/-- More than half of the voters. -/
def mst (m : Nat → Int) : Nat := cnt m 1 / 2 + 1
theorem mst_le (m : Nat → Int) : mst m ≤ 5 := by have := cnt_le m 1; unfold mst; omega

set_option maxRecDepth 100000 in
set_option maxHeartbeats 4000000 in
theorem most_any (m : Nat → Int) (hm : ∀ k, 0 ≤ m k ∧ m k < 256) (w : World) :
    Calls Try.prog 17 #[mv m] w fun e w' => e = .returned (.int .i64 (mst m : Int)) ∧ Fr (fun _ => False) w w' := by
  have CA := Lib.hid (count_any m hm 1 (w.alloc (.cells (mcs m) 23)))
  obtain ⟨z, hz⟩ : ∃ z : Int, (mst m : Int) = z := ⟨_, rfl⟩
  rw [hz]
  have hq : wrap64 ((cnt m 1 : Int) / 2) = (cnt m 1 : Int) / 2 := by have := cnt_le m 1; unfold wrap64; omega
  have hq2 : wrap64 ((cnt m 1 : Int) / 2 + 1) = z := by have := cnt_le m 1; unfold wrap64; unfold mst at hz; omega
  clear hz
  unfold mv mcs at *
  generalize cnt m 1 = c at *
  go_enter Try.func17, Try.ntmps17
  go_wp2_with fail
  refine CA.out.mono ?_; rintro e w1 ⟨rfl, hf⟩
  go_wp2
  go_ret
  exact ⟨by show Ending.returned (.int .i64 (wrap64 ((c : Int) / 2 + 1))) = _; rw [hq2], ((Fr.refl _ _).alloc _).trans hf (fun _ _ h => h)⟩
end Go.Proofs.Ytiinkjplhihdaaa
