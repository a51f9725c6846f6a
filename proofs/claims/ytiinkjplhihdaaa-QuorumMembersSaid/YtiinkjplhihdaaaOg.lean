/- haveReached. -/
import Derived.Test.YtiinkjplhihdaaaOf
namespace Go.Proofs.Ytiinkjplhihdaaa
open Go.RowKit Go.Shelf

attribute [local go_sem] Oper.semAt_some

/-- The sequence that All hands back, where it was just made. -/
theorem all_stops4 (n : Nat) (hn : 1 ≤ n) (b : Nat) (w : World) (hb : w.heap.size = b) (m : Nat → Int) (hm : ∀ k, 0 ≤ m k ∧ m k < 256) (r : Int) :
    SeqStopsK Fence.wide n Try.prog 32 #[.pointer (some ⟨b, 0, none⟩), .pointer (some ⟨b + 1, 0, none⟩)] (fun x : K9 => #[Value.int .i64 (x.val : Int)]) (KC (b + 1)) (fun xs => ks xs = hav m r 9)
      (fun pre => ∃ k, k ≤ 9 ∧ ks pre = hav m r k) 9 ((w.alloc (.cells (mcs m) 23)).alloc (.cells #[.int .i64 r] 3)) := by
  subst hb
  refine all_stops n hn _ _ m hm r _ ((Bx.new w 23 m).fr ((Fr.refl (fun _ => False) _).alloc _) (fun h => h)) ?_
  have := (Bk.new (w.alloc (.cells (mcs m) 23)) 3 #[.int .i64 r]).cell 0
  rw [World.size_alloc] at this
  exact this

set_option maxRecDepth 100000 in
set_option maxHeartbeats 8000000 in
theorem haveReached_in (n : Nat) (hn : 4 ≤ n) (m : Nat → Int) (hm : ∀ k, 0 ≤ m k ∧ m k < 256) (A : Option Addr) (N c : Nat) (t : Nat → Int) (z : Int) (w : World) (hrd : RdF w A N (fun j => .int .i64 (t j))) :
    CallsIn Fence.wide n Try.prog 31 #[mv m, .slice A N c, .int .i64 z] w fun e W' => e = .returned (.int .i64 (hr N t z (hav m 1 9) : Int)) ∧ Below w.heap.size w W' := by
  have h1 : 1 ≤ n := by omega
  have CA := Lib.hid (fun w => all_in (n - 1) m 1 w)
  unfold mv mcs at *
  refine callsIn_of_wp_marks Try.func31 rfl trivial ?_ rfl
  simp only [Try.ntmps31, List.size_toArray, List.length_cons, List.length_nil, Nat.reduceAdd, Nat.reduceSub, Array.replicate_succ, Array.replicate_zero, List.push_toArray, List.append_toArray, List.nil_append, List.cons_append]
  gi_wp2_with (refine ⟨trivial, ?_⟩; gi_at_call 24; refine (CA.out _).mono ?_; rintro e w' ⟨rfl, rfl⟩)
  obtain ⟨w4, hw4⟩ : ∃ w4, (((w.alloc (.cells (mcs m) 23)).alloc (.cells #[.slice A N c] 25)).alloc (.cells #[.int .i64 z] 3)).alloc (.cells #[.int .i64 0] 3) = w4 := ⟨_, rfl⟩
  have hs4 : w4.heap.size = w.heap.size + 1 + 1 + 1 + 1 := by rw [← hw4]; simp
  have hk1 : Bk w4 (w.heap.size + 1) 25 #[.slice A N c] := by
    rw [← hw4]; have := ((Bk.new (w.alloc (.cells (mcs m) 23)) 25 #[.slice A N c]).alloc (.cells #[.int .i64 z] 3)).alloc (.cells #[.int .i64 0] 3)
    simpa using this
  have hk2 : Bk w4 (w.heap.size + 1 + 1) 3 #[.int .i64 z] := by
    rw [← hw4]; have := (Bk.new ((w.alloc (.cells (mcs m) 23)).alloc (.cells #[.slice A N c] 25)) 3 #[.int .i64 z]).alloc (.cells #[.int .i64 0] 3)
    simpa using this
  have hk3 : Bk w4 (w.heap.size + 1 + 1 + 1) 3 #[.int .i64 0] := by
    rw [← hw4]; have := Bk.new (((w.alloc (.cells (mcs m) 23)).alloc (.cells #[.slice A N c] 25)).alloc (.cells #[.int .i64 z] 3)) 3 #[.int .i64 0]
    simpa using this
  have hf4 : Fr (fun _ => False) w w4 := by rw [← hw4]; exact ((((Fr.refl _ _).alloc _).alloc _).alloc _).alloc _
  have hss := all_stops4 (n - 1) (by omega) _ w4 hs4 m hm 1
  have hf6 : Fr (fun _ => False) w4 ((w4.alloc (.cells (mcs m) 23)).alloc (.cells #[.int .i64 1] 3)) := ((Fr.refl _ _).alloc _).alloc _
  have hs6 : ((w4.alloc (.cells (mcs m) 23)).alloc (.cells #[.int .i64 1] 3)).heap.size = w.heap.size + 1 + 1 + 1 + 1 + 1 + 1 := by simp [hs4]
  unfold mcs at hw4 hss hf6 hs6
  rw [hw4]
  clear hw4
  generalize (w4.alloc (.cells #[.int .u8 (m 0), .int .u8 (m 1), .int .u8 (m 2), .int .u8 (m 3), .int .u8 (m 4), .int .u8 (m 5), .int .u8 (m 6), .int .u8 (m 7), .int .u8 (m 8)] 23)).alloc (.cells #[.int .i64 1] 3) = w6 at *
  replace hk1 := hk1.fr hf6 (fun h => h)
  replace hk2 := hk2.fr hf6 (fun h => h)
  replace hk3 := hk3.fr hf6 (fun h => h)
  replace hf4 := hf4.trans hf6 (fun _ _ h => h)
  clear hf6 hs4
  refine wpIn_rangeFunc_ownF rfl h1 (gf := 32) (lb := #[.pointer (some ⟨w.heap.size + 1 + 1 + 1 + 1, 0, none⟩), .pointer (some ⟨w.heap.size + 1 + 1 + 1 + 1 + 1, 0, none⟩)]) rfl trivial (enters_of Try.func32 (by kernel_rfl) rfl)
    hss KC.t (fun W l o o' _ h ho _ => KC.b _ W l o o' h ho) (Below.refl _ _) (fun _ => rfl)
    (fun pre W => Bk W (w.heap.size + 1 + 1 + 1) 3 #[.int .i64 (hr N t z (ks pre) : Int)] ∧ Fr (fun k => k = w.heap.size + 1 + 1 + 1) w6 W)
    (fun _ _ _ => False)
    (OwnFrom.and (own_bk _ (w.heap.size + 1 + 1 + 1) 3 (fun pre : List K9 => #[.int .i64 (hr N t z (ks pre) : Int)])) (own_fr (Nat.le_refl _)))
    (fun _ _ _ _ _ hs _ _ => hs)
    ⟨hk3, Fr.refl _ _⟩
    ?a1 ?assign ?body ?done ?stop
  case assign =>
    intro l x W K hK
    gi_wp2
    exact hK
  case body =>
    rintro l pre x W ⟨hk, hB⟩ hlen
    replace hk1 := hk1.fr hB (by omega)
    replace hk2 := hk2.fr hB (by omega)
    have hl9 := hr_le N t z (ks pre)
    rw [ks_len] at hl9
    have hw9 : wrap64 ((hr N t z (ks pre) : Int) + 1) = (hr N t z (ks pre) : Int) + 1 := by unfold wrap64; omega
    have C1 := Lib.hid (reached_any A N c t x.val W.drew (hrd.since (S := fun k => k = w.heap.size + 1 + 1 + 1) ((hf4.mono (fun _ _ h => h.elim)).trans hB (fun _ _ h => h)).drew (fun k hk e => by omega)))
    have hmx : Try.prog.follows .mixedOrders = true := by kernel_rfl
    by_cases hz : z ≤ reach N t x.val
    · have hd : decide (z ≤ reach N t x.val) = true := decide_eq_true hz
      have HL := Lib.hid (hr_yes (l := ks pre) hz)
      rw [← ks_snoc] at HL
      clear hz
      have c1 := hk1.cell 0
      have c2 := hk2.cell 0
      have c3 := hk.cell 0
      have f3 := hk.frozen 0
      simp only [List.getElem?_toArray, List.getElem?_cons_zero] at c1 c2 c3
      gi_wp2
      gi_region_with_o (refine ⟨trivial, fun _ => (by omega), ?_⟩; refine (CallsIn.inRound l (callsIn_wide.2 C1.out)).mono ?_; rintro e w' ⟨rfl, rfl⟩)
      all_goals gi_wp2
      all_goals (try go_bits)
      all_goals exact ⟨(KeepsOthers.drew W).trans (KeepsOthers.setCell _ _ _), KC.fr (((Fr.refl (fun k => k = w.heap.size + 1 + 1 + 1) W).drew).setCell (p := ⟨w.heap.size + 1 + 1 + 1, 0, none⟩) (fun _ => rfl) _) (by omega), (by rw [HL.out]; exact hk.set 0 (.int .i64 ((hr N t z (ks pre) : Int) + 1))), (hB.drew).setCell (p := ⟨w.heap.size + 1 + 1 + 1, 0, none⟩) (fun _ => rfl) _⟩
    · have hd : decide (z ≤ reach N t x.val) = false := decide_eq_false hz
      have HL := Lib.hid (hr_no (l := ks pre) hz)
      rw [← ks_snoc] at HL
      clear hz
      have c1 := hk1.cell 0
      have c2 := hk2.cell 0
      have c3 := hk.cell 0
      have f3 := hk.frozen 0
      simp only [List.getElem?_toArray, List.getElem?_cons_zero] at c1 c2 c3
      gi_wp2
      gi_region_with_o (refine ⟨trivial, fun _ => (by omega), ?_⟩; refine (CallsIn.inRound l (callsIn_wide.2 C1.out)).mono ?_; rintro e w' ⟨rfl, rfl⟩)
      all_goals gi_wp2
      all_goals (try go_bits)
      all_goals exact ⟨KeepsOthers.drew W, KC.fr ((Fr.refl (fun _ => False) W).drew) (fun h => h), (by rw [HL.out]; exact hk.drew), hB.drew⟩
  case done =>
    rintro D ys W hD hys ⟨hk, hB⟩ hK
    have hc := hk.cell 0
    simp only [List.getElem?_toArray, List.getElem?_cons_zero] at hc
    rw [hys] at hc
    gi_wp2
    refine ⟨by simp, .inl ⟨_, _, rfl, run_takeDeferred hK, ?_⟩⟩
    exact ⟨_, results_tmp rfl _ _ _, rfl, Fr.bel ((hf4.trans hB (fun k hk e => by omega)).mark (by have := hf4.size; omega) _)⟩
  case stop =>
    rintro D c pre W _ _ h _
    exact h.elim

theorem haveReached_any (m : Nat → Int) (hm : ∀ k, 0 ≤ m k ∧ m k < 256) (A : Option Addr) (N c : Nat) (t : Nat → Int) (z : Int) (w : World) (hrd : RdF w A N (fun j => .int .i64 (t j))) :
    Calls Try.prog 31 #[mv m, .slice A N c, .int .i64 z] w fun e w' => e = .returned (.int .i64 (hr N t z (hav m 1 9) : Int)) ∧ Fr (fun _ => False) w w' :=
  callsIn_wide.1 ((haveReached_in 9 (by omega) m hm A N c t z w hrd).mono fun _ _ ⟨he, hb⟩ => ⟨he, frF hb⟩)
end Go.Proofs.Ytiinkjplhihdaaa
