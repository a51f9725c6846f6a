/- A new disk. -/
import Derived.Test.YtnkkdpmmnenncaaUj
import Derived.Deep.RegionWith
import Derived.Handy
namespace Go.Proofs.Ytnkkdpmmnenncaa
open Go.RowKit Go.Maps

theorem run_make8w {P : Program} {t e : TypeId} (hT : T8 P t e) (kl kc : IntKind) (n : Nat) (hb : n ≤ 140737488355328) :
    ∃ cur : Array Value, cur = ((List.replicate n (0 : UInt8)).map B8).toArray ∧ ∀ w : World,
      (Instr.makeSlice t (.int kl (n : Int)) (.int kc (n : Int))).run P w = .ok (.slice (some ⟨w.heap.size, 0, none⟩) n n) (w.alloc (.cells cur e)) := by
  obtain ⟨i, hi, hz, hsz, hby⟩ := hT.info
  have h : ∀ w : World, (Instr.makeSlice t (.int kl (n : Int)) (.int kc (n : Int))).run P w = .ok (.slice (some ⟨w.heap.size, 0, none⟩) n n) (w.alloc (.cells (madeCells (Value.int .u8 0).cells (n * i.size)) e)) := fun w => by
    have h1 := run_make (P := P) w t e i _ hT.sl hi hz kl kc (n : Int) (n : Int) (by omega) (Int.le_refl _) (by rw [hby]; omega) (by omega)
    simpa using h1
  refine ⟨_, ?_, h⟩
  apply Array.ext
  · simp [madeCells, hsz]
  · intro j h1 h2
    simp [madeCells, hsz, Value.cells, Nat.mod_one, B8]

theorem new_bad (N sz : Int) (w : World) (h : N < 1 ∨ 16384 < N ∨ sz < 64 ∨ 1024 < sz) :
    Calls Try.prog 10 #[.int .i64 N, .int .i64 sz] w fun e w' => e = .returned (.tuple #[.pointer none, .int .i64 1]) ∧ w = w' := by
  by_cases h1 : N < 1
  · go_enter Try.func10, Try.ntmps10
    go_wp2
    go_ret2
    exact ⟨rfl, rfl⟩
  · have d1 : decide (N < 1) = false := by simpa using h1
    have g1 : 1 ≤ N := by omega
    by_cases h2 : 16384 < N
    · clear h h1
      go_enter Try.func10, Try.ntmps10
      go_wp2
      go_ret2
      exact ⟨rfl, rfl⟩
    · have d2 : decide (16384 < N) = false := by simpa using h2
      have g2 : N ≤ 16384 := by omega
      by_cases h3 : sz < 64
      · clear h h1 h2
        go_enter Try.func10, Try.ntmps10
        go_wp2
        go_ret2
        exact ⟨rfl, rfl⟩
      · have d3 : decide (sz < 64) = false := by simpa using h3
        have g3 : 64 ≤ sz := by omega
        have h4 : 1024 < sz := by omega
        clear h h1 h2 h3
        go_enter Try.func10, Try.ntmps10
        go_wp2
        go_ret2
        exact ⟨rfl, rfl⟩

theorem new_fin {w w' : World} {N sz M g kb mb : Nat} (ok : (DS.new N sz).ok) (hM : N * sz = M)
    (hb : Bk w' g 67 #[.bool false, .int .i64 0, .slice none 0 0, .int .i64 (N : Int), .int .i64 (sz : Int), .slice (some ⟨kb, 0, none⟩) M M, .int .i64 (sz : Int), .slice none 0 0, .slice none 0 0, .map (some mb), .int .i64 0])
    (hk : Bk w' kb 5 ((List.replicate M (0 : UInt8)).map B8).toArray) (hm : AM w' mb 0 (.map [])) (h1 : w.heap.size ≤ g) (h2 : w.heap.size ≤ kb) (h3 : w.heap.size ≤ mb) :
    ∃ F, Dsk w' g (DS.new N sz) F ∧ ∀ k, F k → w.heap.size ≤ k := by
  subst hM
  have D : DskM w' g (DS.new N sz) ⟨none, 0, kb, .slice none 0 0, .slice none 0 0, mb, 0, .map []⟩ :=
    ⟨ok, hb, RdB.nil _ _, (fun ad e => by cases e), hk, OwnI.nil _, Own8.nil _ _, hm, Nat.le_refl _, NewD.nil, by simp [Value.ownBlock]⟩
  refine ⟨fun k => w.heap.size ≤ k ∧ k < w'.heap.size, ⟨_, D, fun k hk' => ⟨?_, D.lt hk'⟩, (fun ad e => by cases e), fun k h => h.2⟩, fun k h => h.1⟩
  rcases hk' with h | h | h | h | h
  · rw [h]; exact h1
  · rw [h]; exact h2
  · simp [Value.ownBlock] at h
  · simp [Value.ownBlock] at h
  · rw [h]; exact h3

set_option maxRecDepth 100000 in
set_option maxHeartbeats 4000000 in
theorem new_any (N sz : Nat) (w : World) (h0 : 1 ≤ N) (h1 : N ≤ 16384) (h2 : 64 ≤ sz) (h3 : sz ≤ 1024) :
    Calls Try.prog 10 #[.int .i64 (N : Int), .int .i64 (sz : Int)] w fun e w' => ∃ g F, e = .returned (.tuple #[.pointer (some ⟨g, 0, none⟩), .int .i64 0]) ∧ Dsk w' g (DS.new N sz) F ∧ (∀ k, F k → w.heap.size ≤ k) ∧ Fr (fun _ => False) w w' := by
  have hm : N * sz ≤ 16777216 := by
    have := Nat.mul_le_mul h1 h3
    omega
  obtain ⟨cur, hcur, hmk⟩ := run_make8w Try.t8d .i64 .i64 (N * sz) (by omega)
  have e1 : IntKind.i64.wrap ((N : Int) * (sz : Int)) = ((N * sz : Nat) : Int) := by
    have h2 : ((N * sz : Nat) : Int) = (N : Int) * sz := by simp
    rw [← h2]
    exact IntWalk.i64_in _ (by omega)
  have e2 : wrap64 ((N : Int) * (sz : Int)) = ((N * sz : Nat) : Int) := by
    have h2 : ((N * sz : Nat) : Int) = (N : Int) * sz := by simp
    rw [← h2]
    unfold wrap64; omega
  have HM := Lib.hid (show ∃ M, M = N * sz from ⟨_, rfl⟩)
  have HOK := Lib.hid (DS.ok.new h0 h1 h2 h3)
  have C := Lib.hid (fun w => newQueue_any sz w)
  have HC := Lib.hid hcur
  generalize hM : N * sz = M at *
  have HMM := Lib.hid hM
  clear hcur hM
  go_enter Try.func10, Try.ntmps10
  go_wp2_with fail
  go_region_with (go_at_call 29; refine (C.out _).mono ?_; rintro e w2 ⟨mb, rfl, hm2, hb2, hf2⟩)
  all_goals
    go_wp2_with fail
    go_ret2
  · have hs2 := hf2.size
    have hz : (w.alloc (.cells cur 5)).drew.heap.size = w.heap.size + 1 := by simp
    have hk2 : Bk w2 w.heap.size 5 cur := (Bk.new w 5 cur).drew.fr hf2 (fun h => h)
    rw [HC.out] at hk2
    have hfa : Fr (fun _ => False) w2 (w2.alloc (.cells #[.bool false, .int .i64 0, .slice none 0 0, .int .i64 (N : Int), .int .i64 (sz : Int), .slice (some ⟨w.heap.size, 0, none⟩) M M, .int .i64 (sz : Int), .slice none 0 0, .slice none 0 0, .map (some mb), .int .i64 0] 67)) := (Fr.refl _ _).alloc _
    obtain ⟨F, hD, hF⟩ := new_fin (w := w) HOK.out HMM.out (Bk.new w2 67 _) (hk2.fr hfa (fun h => h)) (hm2.fr hfa (fun h => h)) (by omega) (Nat.le_refl _) (by omega)
    exact ⟨w2.heap.size, F, by rfl, hD, hF, (((Fr.refl _ _).alloc _).drew.trans hf2 (fun _ _ h => h)).trans hfa (fun _ _ h => h)⟩
  · have hs2 := hf2.size
    have hs0 : w.drew.heap.size = w.heap.size := rfl
    have hk2 : Bk (w2.alloc (.cells cur 5)) w2.heap.size 5 cur := Bk.new w2 5 cur
    rw [HC.out] at hk2
    have hfb : Fr (fun _ => False) w2 (w2.alloc (.cells cur 5)) := (Fr.refl _ _).alloc _
    rw [HC.out] at hfb
    have hz : (w2.alloc (.cells ((List.replicate M (0 : UInt8)).map B8).toArray 5)).heap.size = w2.heap.size + 1 := by simp
    have hbk := Bk.new (w2.alloc (.cells ((List.replicate M (0 : UInt8)).map B8).toArray 5)) 67 #[.bool false, .int .i64 0, .slice none 0 0, .int .i64 (N : Int), .int .i64 (sz : Int), .slice (some ⟨w2.heap.size, 0, none⟩) M M, .int .i64 (sz : Int), .slice none 0 0, .slice none 0 0, .map (some mb), .int .i64 0]
    rw [hz] at hbk
    have hfa : Fr (fun _ => False) (w2.alloc (.cells ((List.replicate M (0 : UInt8)).map B8).toArray 5)) ((w2.alloc (.cells ((List.replicate M (0 : UInt8)).map B8).toArray 5)).alloc (.cells #[.bool false, .int .i64 0, .slice none 0 0, .int .i64 (N : Int), .int .i64 (sz : Int), .slice (some ⟨w2.heap.size, 0, none⟩) M M, .int .i64 (sz : Int), .slice none 0 0, .slice none 0 0, .map (some mb), .int .i64 0] 67)) := (Fr.refl _ _).alloc _
    obtain ⟨F, hD, hF⟩ := new_fin (w := w) HOK.out HMM.out hbk (hk2.fr hfa (fun h => h)) ((hm2.fr hfb (fun h => h)).fr hfa (fun h => h)) (by omega) (by omega) hb2
    have hcur := HC.out
    subst hcur
    exact ⟨w2.heap.size + 1, F, by rfl, hD, hF, ((((Fr.refl _ _).drew.trans hf2 (fun _ _ h => h)).trans hfb (fun _ _ h => h)).trans hfa (fun _ _ h => h))⟩
end Go.Proofs.Ytnkkdpmmnenncaa
