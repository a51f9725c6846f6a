/- Votes. -/
import Derived.Test.YtiinkjplhihdaaaOg
import Derived.Lib.QuietBelowIn
namespace Go.Proofs.Ytiinkjplhihdaaa
open Go.RowKit Go.Shelf

attribute [local go_sem] Oper.semAt_some

/-- How many of these said yes; no. -/
def ay (N : Nat) (y : Nat → Bool) (l : List Nat) : Nat := (l.filter fun k => decide (k < N) && y k).length
def ny (N : Nat) (y : Nat → Bool) (l : List Nat) : Nat := (l.filter fun k => decide (k < N) && !y k).length
theorem ay_le (N : Nat) (y : Nat → Bool) (l : List Nat) : ay N y l ≤ l.length := List.length_filter_le _ _
theorem ny_le (N : Nat) (y : Nat → Bool) (l : List Nat) : ny N y l ≤ l.length := List.length_filter_le _ _
theorem ay_far {N : Nat} {y : Nat → Bool} {l : List Nat} {k : Nat} (h : ¬ k < N) : ay N y (l ++ [k]) = ay N y l := by unfold ay; simp [h]
theorem ny_far {N : Nat} {y : Nat → Bool} {l : List Nat} {k : Nat} (h : ¬ k < N) : ny N y (l ++ [k]) = ny N y l := by unfold ny; simp [h]
theorem ay_yes {N : Nat} {y : Nat → Bool} {l : List Nat} {k : Nat} (h : k < N) (hy : y k = true) : ay N y (l ++ [k]) = ay N y l + 1 := by unfold ay; simp [h, hy]
theorem ny_yes {N : Nat} {y : Nat → Bool} {l : List Nat} {k : Nat} (h : k < N) (hy : y k = true) : ny N y (l ++ [k]) = ny N y l := by unfold ny; simp [h, hy]
theorem ay_no {N : Nat} {y : Nat → Bool} {l : List Nat} {k : Nat} (h : k < N) (hy : y k = false) : ay N y (l ++ [k]) = ay N y l := by unfold ay; simp [h, hy]
theorem ny_no {N : Nat} {y : Nat → Bool} {l : List Nat} {k : Nat} (h : k < N) (hy : y k = false) : ny N y (l ++ [k]) = ny N y l + 1 := by unfold ny; simp [h, hy]
/-- Won; lost. -/
def wonB (m : Nat → Int) (N : Nat) (y : Nat → Bool) : Bool := decide (mst m ≤ ay N y (hav m 1 9))
def lostB (m : Nat → Int) (N : Nat) (y : Nat → Bool) : Bool := decide (((cnt m 1 : Int) - (ny N y (hav m 1 9) : Int)) < (mst m : Int))

set_option maxRecDepth 100000 in
set_option maxHeartbeats 8000000 in
theorem votes_in (n : Nat) (hn : 4 ≤ n) (m : Nat → Int) (hm : ∀ k, 0 ≤ m k ∧ m k < 256) (A : Option Addr) (N c : Nat) (y : Nat → Bool) (w : World) (hrd : RdF w A N (fun j => .bool (y j))) :
    CallsIn Fence.wide n Try.prog 13 #[mv m, .slice A N c] w fun e W' => e = .returned (.tuple #[.bool (wonB m N y), .bool (lostB m N y)]) ∧ Below w.heap.size w W' := by
  have h1 : 1 ≤ n := by omega
  have CA := Lib.hid (fun w => all_in (n - 1) m 1 w)
  unfold mv mcs at *
  refine callsIn_of_wp_marks Try.func13 rfl trivial ?_ rfl
  simp only [Try.ntmps13, List.size_toArray, List.length_cons, List.length_nil, Nat.reduceAdd, Nat.reduceSub, Array.replicate_succ, Array.replicate_zero, List.push_toArray, List.append_toArray, List.nil_append, List.cons_append]
  gi_wp2_with (refine ⟨trivial, ?_⟩; gi_at_call 24; refine (CA.out _).mono ?_; rintro e w' ⟨rfl, rfl⟩)
  obtain ⟨w4, hw4⟩ : ∃ w4, (((w.alloc (.cells (mcs m) 23)).alloc (.cells #[.slice A N c] 24)).alloc (.cells #[.int .i64 0] 3)).alloc (.cells #[.int .i64 0] 3) = w4 := ⟨_, rfl⟩
  have hs4 : w4.heap.size = w.heap.size + 1 + 1 + 1 + 1 := by rw [← hw4]; simp
  have hk0 : Bk w4 w.heap.size 23 (mcs m) := by
    rw [← hw4]; exact (((Bk.new w 23 (mcs m)).alloc (.cells #[.slice A N c] 24)).alloc (.cells #[.int .i64 0] 3)).alloc (.cells #[.int .i64 0] 3)
  have hk1 : Bk w4 (w.heap.size + 1) 24 #[.slice A N c] := by
    rw [← hw4]; have := ((Bk.new (w.alloc (.cells (mcs m) 23)) 24 #[.slice A N c]).alloc (.cells #[.int .i64 0] 3)).alloc (.cells #[.int .i64 0] 3)
    simpa using this
  have hk2 : Bk w4 (w.heap.size + 1 + 1) 3 #[.int .i64 0] := by
    rw [← hw4]; have := (Bk.new ((w.alloc (.cells (mcs m) 23)).alloc (.cells #[.slice A N c] 24)) 3 #[.int .i64 0]).alloc (.cells #[.int .i64 0] 3)
    simpa using this
  have hk3 : Bk w4 (w.heap.size + 1 + 1 + 1) 3 #[.int .i64 0] := by
    rw [← hw4]; have := Bk.new (((w.alloc (.cells (mcs m) 23)).alloc (.cells #[.slice A N c] 24)).alloc (.cells #[.int .i64 0] 3)) 3 #[.int .i64 0]
    simpa using this
  have hf4 : Fr (fun _ => False) w w4 := by rw [← hw4]; exact ((((Fr.refl _ _).alloc _).alloc _).alloc _).alloc _
  have hss := all_stops4 (n - 1) (by omega) _ w4 hs4 m hm 1
  have hf6 : Fr (fun _ => False) w4 ((w4.alloc (.cells (mcs m) 23)).alloc (.cells #[.int .i64 1] 3)) := ((Fr.refl _ _).alloc _).alloc _
  have hs6 : ((w4.alloc (.cells (mcs m) 23)).alloc (.cells #[.int .i64 1] 3)).heap.size = w.heap.size + 1 + 1 + 1 + 1 + 1 + 1 := by simp [hs4]
  unfold mcs at hw4 hss hf6 hs6
  rw [hw4]
  clear hw4
  generalize (w4.alloc (.cells #[.int .u8 (m 0), .int .u8 (m 1), .int .u8 (m 2), .int .u8 (m 3), .int .u8 (m 4), .int .u8 (m 5), .int .u8 (m 6), .int .u8 (m 7), .int .u8 (m 8)] 23)).alloc (.cells #[.int .i64 1] 3) = w6 at *
  replace hk0 := hk0.fr hf6 (fun h => h)
  replace hk1 := hk1.fr hf6 (fun h => h)
  replace hk2 := hk2.fr hf6 (fun h => h)
  replace hk3 := hk3.fr hf6 (fun h => h)
  replace hf4 := hf4.trans hf6 (fun _ _ h => h)
  clear hf6 hs4
  refine wpIn_rangeFunc_ownF rfl h1 (gf := 32) (lb := #[.pointer (some ⟨w.heap.size + 1 + 1 + 1 + 1, 0, none⟩), .pointer (some ⟨w.heap.size + 1 + 1 + 1 + 1 + 1, 0, none⟩)]) rfl trivial (enters_of Try.func32 (by kernel_rfl) rfl)
    hss KC.t (fun W l o o' _ h ho _ => KC.b _ W l o o' h ho) (Below.refl _ _) (fun _ => rfl)
    (fun pre W => (Bk W (w.heap.size + 1 + 1) 3 #[.int .i64 (ay N y (ks pre) : Int)] ∧ Bk W (w.heap.size + 1 + 1 + 1) 3 #[.int .i64 (ny N y (ks pre) : Int)]) ∧ Fr (fun k => k = w.heap.size + 1 + 1 ∨ k = w.heap.size + 1 + 1 + 1) w6 W)
    (fun _ _ _ => False)
    (OwnFrom.and (OwnFrom.and (own_bk _ (w.heap.size + 1 + 1) 3 (fun pre : List K9 => #[.int .i64 (ay N y (ks pre) : Int)])) (own_bk _ (w.heap.size + 1 + 1 + 1) 3 (fun pre : List K9 => #[.int .i64 (ny N y (ks pre) : Int)]))) (own_fr (Nat.le_refl _)))
    (fun _ _ _ _ _ hs _ _ => hs)
    ⟨⟨hk2, hk3⟩, Fr.refl _ _⟩
    ?a1 ?assign ?body ?done ?stop
  case assign =>
    intro l x W K hK
    gi_wp2
    exact hK
  case body =>
    rintro l pre x W ⟨⟨ha, hb⟩, hB⟩ hlen
    replace hk1 := hk1.fr hB (by omega)
    have hla := ay_le N y (ks pre)
    have hlb := ny_le N y (ks pre)
    rw [ks_len] at hla hlb
    have hwa : wrap64 ((ay N y (ks pre) : Int) + 1) = (ay N y (ks pre) : Int) + 1 := by unfold wrap64; omega
    have hwb : wrap64 ((ny N y (ks pre) : Int) + 1) = (ny N y (ks pre) : Int) + 1 := by unfold wrap64; omega
    have hrd' := hrd.since (S := (fun k => k = w.heap.size + 1 + 1 ∨ k = w.heap.size + 1 + 1 + 1)) ((hf4.mono (fun _ _ h => h.elim)).trans hB (fun _ _ h => h)) (fun k hk e => by omega)
    have c1 := hk1.cell 0
    have ca := ha.cell 0
    have fa := ha.frozen 0
    have cb := hb.cell 0
    have fb := hb.frozen 0
    simp only [List.getElem?_toArray, List.getElem?_cons_zero] at c1 ca cb
    by_cases hlt : x.val < N
    · obtain ⟨bb, oo, rfl, hcc⟩ := hrd' (by omega)
      have hcx := hcc x.val hlt
      dsimp only at hcx
      have hxI : (x.val : Int) < N := by omega
      clear hcc hrd hrd'
      cases hy : y x.val with
      | true =>
        rw [hy] at hcx
        have HA := Lib.hid (ay_yes (l := ks pre) hlt hy)
        have HN := Lib.hid (ny_yes (l := ks pre) hlt hy)
        rw [← ks_snoc] at HA HN
        clear hlt
        gi_wp2
        exact ⟨KeepsOthers.setCell _ _ _, KC.fr ((Fr.refl (fun k => k = w.heap.size + 1 + 1) W).setCell (p := ⟨w.heap.size + 1 + 1, 0, none⟩) (fun _ => rfl) _) (by omega), ⟨by rw [HA.out]; exact ha.set 0 (.int .i64 ((ay N y (ks pre) : Int) + 1)), by rw [HN.out]; exact hb.far (p := ⟨w.heap.size + 1 + 1, 0, none⟩) (by simp) _⟩, hB.setCell (p := ⟨w.heap.size + 1 + 1, 0, none⟩) (fun _ => .inl rfl) _⟩
      | false =>
        rw [hy] at hcx
        have HA := Lib.hid (ay_no (l := ks pre) hlt hy)
        have HN := Lib.hid (ny_no (l := ks pre) hlt hy)
        rw [← ks_snoc] at HA HN
        clear hlt
        gi_wp2
        exact ⟨KeepsOthers.setCell _ _ _, KC.fr ((Fr.refl (fun k => k = w.heap.size + 1 + 1 + 1) W).setCell (p := ⟨w.heap.size + 1 + 1 + 1, 0, none⟩) (fun _ => rfl) _) (by omega), ⟨by rw [HA.out]; exact ha.far (p := ⟨w.heap.size + 1 + 1 + 1, 0, none⟩) (by simp) _, by rw [HN.out]; exact hb.set 0 (.int .i64 ((ny N y (ks pre) : Int) + 1))⟩, hB.setCell (p := ⟨w.heap.size + 1 + 1 + 1, 0, none⟩) (fun _ => .inr rfl) _⟩
    · have HA := Lib.hid (ay_far (y := y) (l := ks pre) hlt)
      have HN := Lib.hid (ny_far (y := y) (l := ks pre) hlt)
      rw [← ks_snoc] at HA HN
      have hxI : (N : Int) ≤ x.val := by omega
      clear hlt hrd hrd'
      gi_wp2
      exact ⟨KeepsOthers.refl _, KC.fr (Fr.refl (fun _ => False) W) (fun h => h), ⟨by rw [HA.out]; exact ha, by rw [HN.out]; exact hb⟩, hB⟩
  case done =>
    rintro D ys W hD hys ⟨⟨ha, hb⟩, hB⟩ hK
    rw [hys] at ha hb
    replace hk0 := hk0.fr hB (by omega)
    have HF : Hid (Fr (fun _ => False) w W) := Lib.hid (hf4.trans hB (fun k hk e => by omega))
    have CM := Lib.hid (fun q => (callsIn_wide (n := q)).2 (most_any m hm W))
    obtain ⟨av, eav⟩ : ∃ av : Nat, ay N y (hav m 1 9) = av := ⟨_, rfl⟩
    obtain ⟨nv, env⟩ : ∃ nv : Nat, ny N y (hav m 1 9) = nv := ⟨_, rfl⟩
    have hnl : nv ≤ 9 := by rw [← env]; exact Nat.le_trans (ny_le _ _ _) (hav_len m 1 9)
    have hcl := cnt_le m 1
    rw [eav] at ha
    rw [env] at hb
    have hWB : Hid (wonB m N y = decide (mst m ≤ av)) := Lib.hid (by unfold wonB; rw [eav])
    have hLB : Hid (lostB m N y = decide (((cnt m 1 : Int) - (nv : Int)) < (mst m : Int))) := Lib.hid (by unfold lostB; rw [env])
    have hbx := Bx.of hk0
    have hb0 : ∀ k, k < 9 → W.cell? ⟨w.heap.size, k, none⟩ = some (.int .u8 (m k)) := fun k hk => hbx.at0 hk
    unfold mv at CM
    gi_wp2_with (refine ⟨trivial, ?_⟩; gi_at_call 17; refine (CM.out _).mono ?_; rintro e w7 ⟨rfl, hf7⟩)
    have ca := (ha.fr hf7 (fun h => h)).cell 0
    have cb := (hb.fr hf7 (fun h => h)).cell 0
    have hb7 : ∀ k, k < 9 → w7.cell? ⟨w.heap.size, k, none⟩ = some (.int .u8 (m k)) := fun k hk => (hbx.fr hf7 (fun h => h)).at0 hk
    simp only [List.getElem?_toArray, List.getElem?_cons_zero] at ca cb
    have hK7 := mark_fr hK hf7 (fun h => h)
    have hmx : Try.prog.follows .mixedOrders = true := by kernel_rfl
    have hwS : wrap64 ((cnt m 1 : Int) - (nv : Int)) = (cnt m 1 : Int) - (nv : Int) := by unfold wrap64; omega
    have k0 : ∀ k, k < 9 → ∀ d os, (Sort.grow (redrawn w7 d) os).cell? ⟨w.heap.size, k, none⟩ = some (.int .u8 (m k)) := fun k hk d os => cell_regrown (hb7 k hk) d os
    have k1 := cell_regrown ca
    have k2 := cell_regrown cb
    have cC : ∀ d os, CallsIn Fence.wide (n - 1) Try.prog 21 #[mv m, .int .i64 1] (Sort.grow (redrawn w7 d) os) fun e w'' => e = .returned (.int .i64 (cnt m 1 : Int)) ∧ ∃ p : Regrown, w'' = Sort.grow (redrawn w7 p.d) p.os := fun d os =>
      CallsIn.regrown_of ((count_in (n - 1) (by omega) m hm 1 _))
    unfold mv at cC
    obtain ⟨M, eM⟩ : ∃ M : Nat, mst m = M := ⟨_, rfl⟩
    obtain ⟨C, eC⟩ : ∃ C : Nat, cnt m 1 = C := ⟨_, rfl⟩
    have hwS2 : IntKind.i64.wrap ((cnt m 1 : Int) - (nv : Int)) = (cnt m 1 : Int) - (nv : Int) := IntWalk.i64_in _ (by omega)
    rw [eC] at cC hwS hwS2 hcl
    have HW : Hid (wonB m N y = decide (M ≤ av)) := Lib.hid (by rw [hWB.out, eM])
    have HL : Hid (lostB m N y = decide (IntKind.i64.wrap ((C : Int) - (nv : Int)) < (M : Int))) := Lib.hid (by rw [hLB.out, eM, eC, hwS2])
    clear hWB hLB eav env CM eC hwS hwS2 hcl hnl
    rw [eM]
    clear eM
    refine wpIn_region_quiet_below rfl (by kernel_rfl) (by kernel_rfl) ?_
    repeat (refine wpQuietIn_step (by first | quiet_asked_in | (go_simp; intros; trivial)) (fun K hK => ?_); go_simp; first | (refine hK _ ?_; clear hK K) | (apply Exists.intro; refine ⟨fun _ => ?_, hK _ ?_⟩; (first | exact cC _ _ | exact ⟨by omega, cC _ _⟩); clear hK K))
    refine wpQuietIn_nil ?_
    intro _ hw'
    obtain ⟨⟨dq, osq⟩, hw''⟩ := hw'
    subst hw''
    have hfq : Fr (fun _ => False) w7 (Sort.grow (redrawn w7 dq) osq) := Fr.of_regrown w7 dq osq
    have hKq := mark_fr hK7 hfq (fun h => h)
    have HF8 := Lib.hid ((HF.out.trans hf7 (fun _ _ h => h)).trans hfq (fun _ _ h => h))
    clear k0 k1 k2 ca cb hb7
    generalize Sort.grow (redrawn w7 dq) osq = w8 at *
    gi_wp2
    refine ⟨by simp, .inl ⟨_, _, rfl, run_takeDeferred hKq, ?_⟩⟩
    exact ⟨_, results_tmp2 rfl _ _ _, by rw [HW.out, HL.out]; rfl, Fr.bel (HF8.out.mark (by have := hf4.size; omega) _)⟩
  case stop =>
    rintro D c pre W _ _ h _
    exact h.elim

theorem votes_any (m : Nat → Int) (hm : ∀ k, 0 ≤ m k ∧ m k < 256) (A : Option Addr) (N c : Nat) (y : Nat → Bool) (w : World) (hrd : RdF w A N (fun j => .bool (y j))) :
    Calls Try.prog 13 #[mv m, .slice A N c] w fun e w' => e = .returned (.tuple #[.bool (wonB m N y), .bool (lostB m N y)]) ∧ Fr (fun _ => False) w w' :=
  callsIn_wide.1 ((votes_in 9 (by omega) m hm A N c y w hrd).mono fun _ _ ⟨he, hb⟩ => ⟨he, frF hb⟩)
end Go.Proofs.Ytiinkjplhihdaaa
