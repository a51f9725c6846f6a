/- Index. -/
import Derived.Test.YtiinkjplhihdaaaOh
import Derived.Test.YtiinkjplhihdaaaOr
namespace Go.Proofs.Ytiinkjplhihdaaa
open Go.RowKit Go.Shelf

attribute [local go_sem] Oper.semAt_some

theorem ko_fr {W W' : World} (h : Fr (fun _ => False) W W') : KeepsOthers W W' := ⟨h.size, fun k _ hk _ => (h.block k (Array.getElem?_eq_some_iff.1 hk).1 (fun h => h)).trans hk⟩

/-- A number that one stands at is the better one, if it is greater and most have reached it. -/
def stepI (m : Nat → Int) (N : Nat) (t : Nat → Int) (b : Int) (x : Nat) : Int := if b < reach N t x ∧ mst m ≤ hr N t (reach N t x) (hav m 1 9) then reach N t x else b
def bst (m : Nat → Int) (N : Nat) (t : Nat → Int) (l : List Nat) : Int := l.foldl (stepI m N t) 0
theorem bst_snoc (m : Nat → Int) (N : Nat) (t : Nat → Int) (l : List Nat) (x : Nat) : bst m N t (l ++ [x]) = stepI m N t (bst m N t l) x := by unfold bst; simp

set_option maxRecDepth 100000 in
set_option maxHeartbeats 8000000 in
theorem index_in (n : Nat) (hn : 8 ≤ n) (m : Nat → Int) (hm : ∀ k, 0 ≤ m k ∧ m k < 256) (A : Option Addr) (N c : Nat) (t : Nat → Int) (w : World) (hrd : RdF w A N (fun j => .int .i64 (t j))) :
    CallsIn Fence.wide n Try.prog 19 #[mv m, .slice A N c] w fun e W' => e = .returned (.int .i64 (bst m N t (hav m 1 9))) ∧ Below w.heap.size w W' := by
  have h1 : 1 ≤ n := by omega
  have CA := Lib.hid (fun w => all_in (n - 1) m 1 w)
  unfold mv mcs at *
  refine callsIn_of_wp_marks Try.func19 rfl trivial ?_ rfl
  simp only [Try.ntmps19, List.size_toArray, List.length_cons, List.length_nil, Nat.reduceAdd, Nat.reduceSub, Array.replicate_succ, Array.replicate_zero, List.push_toArray, List.append_toArray, List.nil_append, List.cons_append]
  gi_wp2_with (refine ⟨trivial, ?_⟩; gi_at_call 24; refine (CA.out _).mono ?_; rintro e w' ⟨rfl, rfl⟩)
  obtain ⟨w4, hw4⟩ : ∃ w4, ((w.alloc (.cells (mcs m) 23)).alloc (.cells #[.slice A N c] 25)).alloc (.cells #[.int .i64 0] 3) = w4 := ⟨_, rfl⟩
  have hs4 : w4.heap.size = w.heap.size + 1 + 1 + 1 := by rw [← hw4]; simp
  have hk0 : Bk w4 w.heap.size 23 (mcs m) := by
    rw [← hw4]; exact ((Bk.new w 23 (mcs m)).alloc (.cells #[.slice A N c] 25)).alloc (.cells #[.int .i64 0] 3)
  have hk1 : Bk w4 (w.heap.size + 1) 25 #[.slice A N c] := by
    rw [← hw4]; have := (Bk.new (w.alloc (.cells (mcs m) 23)) 25 #[.slice A N c]).alloc (.cells #[.int .i64 0] 3)
    simpa using this
  have hk2 : Bk w4 (w.heap.size + 1 + 1) 3 #[.int .i64 0] := by
    rw [← hw4]; have := Bk.new ((w.alloc (.cells (mcs m) 23)).alloc (.cells #[.slice A N c] 25)) 3 #[.int .i64 0]
    simpa using this
  have hf4 : Fr (fun _ => False) w w4 := by rw [← hw4]; exact (((Fr.refl _ _).alloc _).alloc _).alloc _
  have hss := all_stops4 (n - 1) (by omega) _ w4 hs4 m hm 1
  have hf6 : Fr (fun _ => False) w4 ((w4.alloc (.cells (mcs m) 23)).alloc (.cells #[.int .i64 1] 3)) := ((Fr.refl _ _).alloc _).alloc _
  have hs6 : ((w4.alloc (.cells (mcs m) 23)).alloc (.cells #[.int .i64 1] 3)).heap.size = w.heap.size + 1 + 1 + 1 + 1 + 1 := by simp [hs4]
  unfold mcs at hw4 hss hf6 hs6
  rw [hw4]
  clear hw4
  generalize (w4.alloc (.cells #[.int .u8 (m 0), .int .u8 (m 1), .int .u8 (m 2), .int .u8 (m 3), .int .u8 (m 4), .int .u8 (m 5), .int .u8 (m 6), .int .u8 (m 7), .int .u8 (m 8)] 23)).alloc (.cells #[.int .i64 1] 3) = w6 at *
  replace hk0 := hk0.fr hf6 (fun h => h)
  replace hk1 := hk1.fr hf6 (fun h => h)
  replace hk2 := hk2.fr hf6 (fun h => h)
  replace hf4 := hf4.trans hf6 (fun _ _ h => h)
  clear hf6 hs4
  refine wpIn_rangeFunc_ownF rfl h1 (gf := 32) (lb := #[.pointer (some ⟨w.heap.size + 1 + 1 + 1, 0, none⟩), .pointer (some ⟨w.heap.size + 1 + 1 + 1 + 1, 0, none⟩)]) rfl trivial (enters_of Try.func32 (by kernel_rfl) rfl)
    hss KC.t (fun W l o o' _ h ho _ => KC.b _ W l o o' h ho) (Below.refl _ _) (fun _ => rfl)
    (fun pre W => Bk W (w.heap.size + 1 + 1) 3 #[.int .i64 (bst m N t (ks pre))] ∧ Fr (fun k => k = w.heap.size + 1 + 1) w6 W)
    (fun _ _ _ => False)
    (OwnFrom.and (own_bk _ (w.heap.size + 1 + 1) 3 (fun pre : List K9 => #[.int .i64 (bst m N t (ks pre))])) (own_fr (Nat.le_refl _)))
    (fun _ _ _ _ _ hs _ _ => hs)
    ⟨hk2, Fr.refl _ _⟩
    ?a1 ?assign ?body ?done ?stop
  case assign =>
    intro l x W K hK
    gi_wp2
    exact hK
  case body =>
    rintro l pre x W ⟨hk, hB⟩ hlen
    replace hk0 := hk0.fr hB (by omega)
    replace hk1 := hk1.fr hB (by omega)
    have hBw : Fr (fun k => k = w.heap.size + 1 + 1) w W := (hf4.mono (fun _ _ h => h.elim)).trans hB (fun _ _ h => h)
    have hrd' := hrd.since hBw (fun k hk e => by omega)
    have C1 := Lib.hid (reached_any A N c t x.val W hrd')
    have HS := Lib.hid (bst_snoc m N t (ks pre) x.val)
    rw [← ks_snoc] at HS
    have cH : ∀ d os, CallsIn Fence.wide (n - 1 - 1 - 1) Try.prog 31 #[mv m, .slice A N c, .int .i64 (reach N t x.val)] (Sort.grow (redrawn W d) os) fun e w'' => e = .returned (.int .i64 (hr N t (reach N t x.val) (hav m 1 9) : Int)) ∧ ∃ p : Regrown, w'' = Sort.grow (redrawn W p.d) p.os := fun d os =>
      CallsIn.regrown_of (haveReached_in (n - 1 - 1 - 1) (by omega) m hm A N c t _ _ (hrd'.fr0 (Fr.of_regrown W d os)))
    have cM : ∀ d os, CallsIn Fence.wide (n - 1 - 1 - 1) Try.prog 17 #[mv m] (Sort.grow (redrawn W d) os) fun e w'' => e = .returned (.int .i64 (mst m : Int)) ∧ ∃ p : Regrown, w'' = Sort.grow (redrawn W p.d) p.os := fun d os =>
      CallsIn.regrown_of ((callsIn_wide.2 (most_any m hm _)).mono fun _ _ ⟨h, k⟩ => ⟨h, k.bel⟩)
    have k0 : ∀ k, k < 9 → ∀ d os, (Sort.grow (redrawn W d) os).cell? ⟨w.heap.size, k, none⟩ = some (.int .u8 (m k)) := fun k hk d os => cell_regrown ((Bx.of hk0).at0 hk) d os
    have k1 := cell_regrown (hk1.cell 0)
    have k2 := cell_regrown (hk.cell 0)
    have HK := Lib.hid hk
    have hc1 := hk1.cell 0
    have hc2 := hk.cell 0
    have hbx := Bx.of hk0
    have HBX := Lib.hid hbx
    have hb0 : ∀ k, k < 9 → W.cell? ⟨w.heap.size, k, none⟩ = some (.int .u8 (m k)) := fun k hk => hbx.at0 hk
    simp only [List.getElem?_toArray, List.getElem?_cons_zero] at hc1 hc2
    have hmx : Try.prog.follows .mixedOrders = true := by kernel_rfl
    unfold stepI at HS
    generalize bst m N t (ks pre) = bv at *
    generalize reach N t x.val = z at *
    generalize hr N t z (hav m 1 9) = H at *
    unfold mv at cH cM
    clear hbx hk hrd hrd' hk0 hk1
    by_cases hz : bv < z
    · by_cases hH : mst m ≤ H
      · have HV : Hid (bst m N t (ks (pre ++ [x])) = z) := Lib.hid (by rw [HS.out, if_pos ⟨hz, hH⟩])
        have d1 : decide (bv < z) = true := decide_eq_true hz
        have d2 : decide (mst m ≤ H) = true := decide_eq_true hH
        have d3 : decide ((mst m : Int) ≤ (H : Int)) = true := decide_eq_true (by omega)
        clear hz hH HS
        generalize mst m = M at *
        gi_wp2_with (refine ⟨trivial, fun _ => (by omega), ?_⟩; refine (CallsIn.inRound l (callsIn_wide.2 C1.out)).mono ?_; rintro e w' ⟨rfl, rfl⟩)
        refine region_round rfl (by kernel_rfl) (by kernel_rfl) (by kernel_rfl) ?_
        repeat (refine wpQuietIn_step (by first | quiet_asked_in | (go_simp; intros; trivial)) (fun K hK => ?_); go_simp; first | (refine hK _ ?_; clear hK K) | (apply Exists.intro; refine ⟨fun _ => ?_, hK _ ?_⟩; (first | exact cH _ _ | exact cM _ _ | exact ⟨by omega, cH _ _⟩ | exact ⟨by omega, cM _ _⟩); clear hK K))
        refine wpQuietIn_nil ?_
        intro _ hw'
        obtain ⟨⟨dq, osq⟩, hw''⟩ := hw'
        subst hw''
        have HF8 : Fr (fun _ => False) W (Sort.grow (redrawn W dq) osq) := Fr.of_regrown W dq osq
        have HK8 := HK.out.fr HF8 (fun h => h)
        have hc8 := HK8.cell 0
        have fz8 := HK8.frozen 0
        simp only [List.getElem?_toArray, List.getElem?_cons_zero] at hc8
        clear k0 k1 k2 cH cM hb0 hc1 hc2
        generalize Sort.grow (redrawn W dq) osq = w8 at *
        gi_wp2
        exact ⟨(ko_fr HF8).trans (KeepsOthers.setCell _ _ _), KC.fr ((HF8.mono (fun _ _ h => h.elim)).setCell (S := fun k => k = w.heap.size + 1 + 1) (p := ⟨w.heap.size + 1 + 1, 0, none⟩) (fun _ => rfl) _) (by omega), (by rw [HV.out]; exact HK8.set 0 (.int .i64 z)), (hB.trans (HF8.mono (fun _ _ h => h.elim)) (fun _ _ h => h)).setCell (p := ⟨w.heap.size + 1 + 1, 0, none⟩) (fun _ => rfl) _⟩
      · have HV : Hid (bst m N t (ks (pre ++ [x])) = bv) := Lib.hid (by rw [HS.out, if_neg (fun h => hH h.2)])
        have d1 : decide (bv < z) = true := decide_eq_true hz
        have d2 : decide (mst m ≤ H) = false := decide_eq_false hH
        have d3 : decide ((mst m : Int) ≤ (H : Int)) = false := decide_eq_false (by omega)
        clear hz hH HS
        generalize mst m = M at *
        gi_wp2_with (refine ⟨trivial, fun _ => (by omega), ?_⟩; refine (CallsIn.inRound l (callsIn_wide.2 C1.out)).mono ?_; rintro e w' ⟨rfl, rfl⟩)
        refine region_round rfl (by kernel_rfl) (by kernel_rfl) (by kernel_rfl) ?_
        repeat (refine wpQuietIn_step (by first | quiet_asked_in | (go_simp; intros; trivial)) (fun K hK => ?_); go_simp; first | (refine hK _ ?_; clear hK K) | (apply Exists.intro; refine ⟨fun _ => ?_, hK _ ?_⟩; (first | exact cH _ _ | exact cM _ _ | exact ⟨by omega, cH _ _⟩ | exact ⟨by omega, cM _ _⟩); clear hK K))
        refine wpQuietIn_nil ?_
        intro _ hw'
        obtain ⟨⟨dq, osq⟩, hw''⟩ := hw'
        subst hw''
        have HF8 : Fr (fun _ => False) W (Sort.grow (redrawn W dq) osq) := Fr.of_regrown W dq osq
        have HK8 := HK.out.fr HF8 (fun h => h)
        have hc8 := HK8.cell 0
        have fz8 := HK8.frozen 0
        simp only [List.getElem?_toArray, List.getElem?_cons_zero] at hc8
        clear k0 k1 k2 cH cM hb0 hc1 hc2
        generalize Sort.grow (redrawn W dq) osq = w8 at *
        gi_wp2
        exact ⟨ko_fr HF8, KC.fr HF8 (fun h => h), (by rw [HV.out]; exact HK8), hB.trans (HF8.mono (fun _ _ h => h.elim)) (fun _ _ h => h)⟩
    · have HV : Hid (bst m N t (ks (pre ++ [x])) = bv) := Lib.hid (by rw [HS.out, if_neg (fun h => hz h.1)])
      have d1 : decide (bv < z) = false := decide_eq_false hz
      clear hz HS
      gi_wp2_with (refine ⟨trivial, fun _ => (by omega), ?_⟩; refine (CallsIn.inRound l (callsIn_wide.2 C1.out)).mono ?_; rintro e w' ⟨rfl, rfl⟩)
      refine region_round rfl (by kernel_rfl) (by kernel_rfl) (by kernel_rfl) ?_
      repeat (refine wpQuietIn_step (by first | quiet_asked_in | (go_simp; intros; trivial)) (fun K hK => ?_); go_simp; first | (refine hK _ ?_; clear hK K) | (apply Exists.intro; refine ⟨fun _ => ?_, hK _ ?_⟩; (first | exact cH _ _ | exact cM _ _ | exact ⟨by omega, cH _ _⟩ | exact ⟨by omega, cM _ _⟩); clear hK K))
      refine wpQuietIn_nil ?_
      intro _ hw'
      obtain ⟨⟨dq, osq⟩, hw''⟩ := hw'
      subst hw''
      have HF8 : Fr (fun _ => False) W (Sort.grow (redrawn W dq) osq) := Fr.of_regrown W dq osq
      have HK8 := HK.out.fr HF8 (fun h => h)
      have hc8 := HK8.cell 0
      have fz8 := HK8.frozen 0
      simp only [List.getElem?_toArray, List.getElem?_cons_zero] at hc8
      clear k0 k1 k2 cH cM hb0 hc1 hc2
      generalize Sort.grow (redrawn W dq) osq = w8 at *
      gi_wp2
      exact ⟨ko_fr HF8, KC.fr HF8 (fun h => h), (by rw [HV.out]; exact HK8), hB.trans (HF8.mono (fun _ _ h => h.elim)) (fun _ _ h => h)⟩
  case done =>
    rintro D ys W hD hys ⟨hk, hB⟩ hK
    have hc := hk.cell 0
    simp only [List.getElem?_toArray, List.getElem?_cons_zero] at hc
    rw [hys] at hc
    gi_wp2
    refine ⟨by simp, .inl ⟨_, _, rfl, run_takeDeferred hK, ?_⟩⟩
    exact ⟨_, results_tmp rfl _ _ _, rfl, Fr.bel ((hf4.trans hB (fun k hk e => by omega)).mark (by have := hf4.size; omega) _)⟩
  case stop =>
    rintro D c pre W _ _ h _
    exact h.elim

theorem index_any (m : Nat → Int) (hm : ∀ k, 0 ≤ m k ∧ m k < 256) (A : Option Addr) (N c : Nat) (t : Nat → Int) (w : World) (hrd : RdF w A N (fun j => .int .i64 (t j))) :
    Calls Try.prog 19 #[mv m, .slice A N c] w fun e w' => e = .returned (.int .i64 (bst m N t (hav m 1 9))) ∧ Fr (fun _ => False) w w' :=
  callsIn_wide.1 ((index_in 9 (by omega) m hm A N c t w hrd).mono fun _ _ ⟨he, hb⟩ => ⟨he, frF hb⟩)
end Go.Proofs.Ytiinkjplhihdaaa
