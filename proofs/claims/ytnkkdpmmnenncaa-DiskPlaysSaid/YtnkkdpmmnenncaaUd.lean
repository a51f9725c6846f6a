/- The disk's calls: arming, a pending write by its place, the newest of a sector, one more. -/
import Derived.Test.YtnkkdpmmnenncaaUc
namespace Go.Proofs.Ytnkkdpmmnenncaa
open Go.RowKit Go.Maps

theorem Try.infoB : (Try.prog.info? 4).map (fun i => (i.zero, i.size, i.bytes)) = some (some (.bool false), 1, 1) := by kernel_rfl
theorem BV_one (xs : List Bool) : ∀ u ∈ xs.map Value.bool, u.oneCell' = true := by
  intro u hu
  obtain ⟨b, _, rfl⟩ := List.mem_map.1 hu
  rfl

theorem rdB_own {w : World} {e : TypeId} {v : Value} {n : Nat} {xs : List Bool} (h : w.ownsRow 0 e 1 v n (xs.map Value.bool)) (hn : xs.length = n) :
    ∃ A' c', v = .slice A' n c' ∧ RdB w A' xs ∧ ∀ ad, A' = some ad → v.ownBlock = some ad.block := by
  have hc := h.2
  rcases hc with ⟨rfl, h0⟩ | ⟨g, cap, cur, rfl, _⟩
  · have : n = 0 := h0
    subst this
    exact ⟨none, 0, rfl, fun h => by omega, fun ad e => by cases e⟩
  · refine ⟨_, cap, rfl, fun h0 => ⟨_, rfl, rfl, fun j hj => ?_⟩, fun ad e => by injection e with e; subst e; rfl⟩
    have := World.ownsRow.cells h (g := g) rfl j (.bool xs[j]) (by simp [hj])
    have hadd : (⟨g, 0, none⟩ : Addr).add j = ⟨g, j, none⟩ := by unfold Addr.add; split <;> simp_all
    rw [hadd] at this
    simpa using this

set_option maxRecDepth 100000 in
set_option maxHeartbeats 1000000 in
theorem cloneB_any (A : Option Addr) (n c : Nat) (xs : List Bool) (w : World) (hr : RdB w A xs) (hn : xs.length = n) (hb : n ≤ 140737488355328) :
    Calls Try.prog 46 #[.slice A n c] w fun e w' => ∃ A' c', e = .returned (.slice A' n c') ∧ RdB w' A' xs ∧ Fr (fun _ => False) w w' ∧ ∀ ad, A' = some ad → w.heap.size ≤ ad.block := by
  rcases A with _ | ad
  · have h0 : xs = [] := by
      rcases Nat.eq_zero_or_pos xs.length with h0 | h0
      · exact List.eq_nil_of_length_eq_zero h0
      · obtain ⟨ad, h, _⟩ := hr h0; cases h
    subst h0
    simp at hn
    subst hn
    have hq := fun W => Lib.run_eql_slice_nil (P := Try.prog) W 33 4 none 0 c 0 0 Try.underlying33
    go_enter Try.func46, Try.ntmps46
    go_wp2
    go_ret
    exact ⟨none, 0, rfl, RdB.nil _ _, Fr.refl _ _, fun ad e => by cases e⟩
  · have hq := fun W => Lib.run_eql_slice_nil (P := Try.prog) W 33 4 (some ad) n c 0 0 Try.underlying33
    obtain ⟨i0, hi, hz0, hz1, hz2⟩ := info_parts Try.infoB
    have HI := Lib.hid hi
    have HZ0 := Lib.hid hz0
    have HZ1 := Lib.hid hz1
    have HZ2 := Lib.hid hz2
    have HN := Lib.hid hn
    clear hi hz0 hz1 hz2 hn
    have hf0 : Fr (fun _ => False) w (w.alloc (.cells #[] 4)) := (Fr.refl _ _).alloc _
    have hnews : ∀ j u, (xs.map Value.bool)[j]? = some u → (w.alloc (.cells #[] 4)).cell? (ad.add j) = some u := by
      intro j u hu
      have hj : j < xs.length := by
        have := (List.getElem?_eq_some_iff.1 hu).1
        simpa using this
      obtain ⟨ad', h, hsp, hc⟩ := (hr.fr hf0 (fun _ _ _ h => h)) (by omega)
      injection h with h
      subst h
      obtain ⟨b, o, sp⟩ := ad
      cases hsp
      rw [add_at, hc j hj]
      simp [hj] at hu
      rw [← hu]
    have HNW := Lib.hid hnews
    clear hnews hr
    go_enter Try.func46, Try.ntmps46
    go_wp2_with (at_builtin; (refine wpList_append_own_at (P := Try.prog) _ rfl (.tmp 5) (.tmp 6) 33 rfl 0 4 i0 (.bool false) 1 1 Try.underlying33 HI.out HZ0.out HZ1.out HZ2.out rfl (by decide) (.slice (some ⟨w.heap.size, 0, none⟩) 0 0) 0 [] rfl (World.ownsRow_made w #[] 0 (Nat.zero_le _) (by decide) rfl) ad n c (xs.map Value.bool) rfl (by simp [HN.out]) HNW.out (BV_one xs) (by unfold maxLen; omega) (by omega) (Nat.zero_le _) ?_; intro v1 w1 ho1 hf1 hm1 hx1))
    go_ret
    obtain ⟨A1, c1, rfl, hr1, hb1⟩ := rdB_own (xs := xs) (by simpa using ho1) HN.out
    refine ⟨A1, c1, rfl, hr1, hf0.trans (Fr.of_grown hf1) (fun x hx e => ?_), fun ad1 e => ?_⟩
    · have e' : w.heap.size = x := by simpa [Value.ownBlock] using e
      omega
    · have h1 := hb1 ad1 e
      rcases hx1 with h2 | h2
      · rw [h1] at h2
        have : ad1.block = w.heap.size := by simpa [Value.ownBlock] using h2
        omega
      · rw [h1] at h2
        have : ad1.block = w.heap.size + 1 := by simpa using h2
        omega

theorem max_one (n : Int) : (if n < 1 then (1 : Int) else n) = max n 1 := by split <;> omega
set_option maxRecDepth 100000 in
set_option maxHeartbeats 1000000 in
theorem arm_any (g : Nat) (a0 a1 a2 a3 a4 a5 a6 a7 a8 a9 a10 : Value) (n : Int) (A : Option Addr) (k c : Nat) (xs : List Bool) (w : World) (hr : RdB w A xs) (hk : xs.length = k) (hb : k ≤ 140737488355328) (h : Bk w g 67 #[a0, a1, a2, a3, a4, a5, a6, a7, a8, a9, a10]) :
    Calls Try.prog 38 #[.pointer (some ⟨g, 0, none⟩), .int .i64 n, .slice A k c] w fun e w' => e = .returned (.tuple #[]) ∧ ∃ A' c', Bk w' g 67 #[a0, .int .i64 (max n 1), .slice A' k c', a3, a4, a5, a6, a7, a8, a9, a10] ∧
      RdB w' A' xs ∧ Fr (fun k => k = g) w w' ∧ ∀ ad, A' = some ad → w.heap.size ≤ ad.block := by
  have C := Lib.hid (cloneB_any A k c xs w hr hk hb)
  have H := Lib.hid h
  clear h hr hk hb
  have hm : max n 1 = 1 ∨ (1 ≤ n ∧ ¬ n < 1 ∧ max n 1 = n) := by omega
  by_cases hlt : n < 1
  all_goals
    first
      | (have hm : max n 1 = 1 := by omega
         rw [hm])
      | (have hm : max n 1 = n := by omega
         rw [hm]
         have hge : 1 ≤ n := by omega)
    go_enter Try.func38, Try.ntmps38
    go_wp2_with fail
    refine C.out.mono ?_; rintro e w1 ⟨A1, c1, rfl, hr1, hf1, hn1⟩
    have hb := H.out.fr hf1 (fun h => h)
    have HB := Lib.hid hb
    have c1' : w1.cell? ⟨g, 1, none⟩ = some a1 := hb.cell 1
    have f1' : w1.frozen? ⟨g, 1, none⟩ = false := hb.frozen 1
    have c2' : w1.cell? ⟨g, 2, none⟩ = some a2 := hb.cell 2
    have f2' : w1.frozen? ⟨g, 2, none⟩ = false := hb.frozen 2
    have HR := Lib.hid hr1
    have HF := Lib.hid hf1
    have HN := Lib.hid hn1
    have HG := Lib.hid H.out.lt
    clear hb hr1 hf1 hn1 C hm
    go_wp2
    go_end0
    have hs : ∀ z, Fr (fun k => k = g) w1 ((w1.setCell ⟨g, 1, none⟩ z).setCell ⟨g, 2, none⟩ (.slice A1 k c1)) := fun z => (Bk.fr_set _ _).set _ _
    refine ⟨rfl, A1, c1, ?_, HR.out.fr (hs _) (fun ad e _ h => ?_), (HF.out.mono (fun _ _ h => h.elim)).trans (hs _) (fun _ _ h => h), HN.out⟩
    · have h1 := (HB.out.set 1 (.int .i64 1)).set 2 (.slice A1 k c1)
      have h2 := (HB.out.set 1 (.int .i64 n)).set 2 (.slice A1 k c1)
      first
        | simpa using h1
        | simpa using h2
    · have h1 := HN.out ad e
      have h2 := HG.out
      omega

theorem piece_q (b n c i sz : Nat) (w : World) (hs0 : 1 ≤ sz) (hs1 : sz ≤ 1024) (hi : i ≤ 1048576) (hn : (i + 1) * sz ≤ n) (hc : n ≤ c) :
    Calls Try.prog 44 #[.slice (some ⟨b, 0, none⟩) n c, .int .i64 (i : Int), .int .i64 (sz : Int)] w fun e w' => e = .returned (.slice (some ⟨b, i * sz, none⟩) sz sz) ∧ w' = w :=
  (piece_any b n c i sz w hs0 hs1 hi hn hc).mono fun _ _ ⟨h, k⟩ => ⟨h, k.symm⟩

set_option maxRecDepth 100000 in
set_option maxHeartbeats 1000000 in
theorem at_any (g i n c gs gb nb cb sz : Nat) (x : Int) (w : World) (hi : i < n) (hn : n ≤ 1048576) (hs0 : 1 ≤ sz) (hs1 : sz ≤ 1024) (hb : (i + 1) * sz ≤ nb) (hcb : nb ≤ cb)
    (c6 : w.cell? ⟨g, 6, none⟩ = some (.int .i64 (sz : Int))) (c7 : w.cell? ⟨g, 7, none⟩ = some (.slice (some ⟨gs, 0, none⟩) n c)) (c8 : w.cell? ⟨g, 8, none⟩ = some (.slice (some ⟨gb, 0, none⟩) nb cb)) (cx : w.cell? ⟨gs, i, none⟩ = some (.int .i64 x)) :
    Calls Try.prog 45 #[.pointer (some ⟨g, 6, none⟩), .int .i64 (i : Int)] w fun e w' => e = .returned (.tuple #[.int .i64 x, .slice (some ⟨gb, i * sz, none⟩) sz sz]) ∧ Fr (fun _ => False) w w' := by
  have C := Lib.hid (fun w => piece_q gb nb cb i sz w hs0 hs1 (by omega) hb hcb)
  have hi0 : (0 : Int) ≤ i := by omega
  have hi1 : (i : Int) < n := by omega
  clear hb hcb
  go_enter Try.func45, Try.ntmps45
  go_wp2_with fail
  go_quiet ((go_at_call 44; exact Calls.quiet_of_same (C.out _)))
  go_wp2
  go_ret2
  exact ⟨rfl, (Fr.refl _ _).drewN _⟩
end Go.Proofs.Ytnkkdpmmnenncaa
