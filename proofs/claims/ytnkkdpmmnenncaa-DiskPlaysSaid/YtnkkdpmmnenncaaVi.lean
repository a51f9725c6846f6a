/- The walk of DiskPlays, whole. -/
import Derived.Test.YtnkkdpmmnenncaaVh
namespace Go.Proofs.Ytnkkdpmmnenncaa
open Go.RowKit Go.Maps

set_option maxRecDepth 100000 in
set_option maxHeartbeats 4000000 in
theorem plays_ll (N sz : Int) (A : Option Addr) (n c : Nat) (l : List Act) (w : World) (hl : Acts w w.heap.size A l) (hn : l.length = n) (hn1 : (n : Int) ≤ 9223372036854775807) (hf1 : fewP l = true) (h1 : N ≤ 100) (h2 : sz ≤ 512) (hb : N < 1 ∨ 16384 < N ∨ sz < 64 ∨ 1024 < sz) :
    Calls Try.prog 3 #[.int .i64 N, .int .i64 sz, .slice A n c] w fun e w' => e = .returned (.bool true) ∧ Fr (fun _ => False) w w' := by
  have CF1 := Lib.hid (fun w' (hf : Fr (fun _ => False) w w') => few_any A n c w.heap.size l w' (hl.fr hf (fun _ _ h => h)) hn hn1 hf.size)
  rw [hf1] at CF1
  have C1 := Lib.hid (fun w' => new_bad N sz w' hb)
  have C2 := Lib.hid (fun w' => refNew_bad N sz w' hb)
  have d1 : decide ((100 : Int) < N) = false := by simp; omega
  have d2 : decide ((512 : Int) < sz) = false := by simp; omega
  clear hl hn hf1 hb
  go_enter Try.func3, Try.ntmps3
  go_wp2_with fail
  refine (known_any w).mono ?_; rintro e w0 ⟨rfl, hf0⟩
  go_wp2_with fail
  refine (CF1.out w0 hf0).mono ?_; rintro e w1 ⟨rfl, g1⟩
  have g1' := hf0.trans g1 (fun _ _ h => h)
  clear hf0 g1 CF1
  go_wp2_with fail
  refine (C1.out w1).mono ?_; rintro e w2 ⟨rfl, rfl⟩
  go_wp2_with fail
  refine (C2.out w1).mono ?_; rintro e w2 ⟨rfl, rfl⟩
  clear C1 C2
  go_wp2
  go_ret
  exact ⟨rfl, g1'⟩

set_option maxRecDepth 100000 in
set_option maxHeartbeats 4000000 in
theorem plays_lh (N sz : Int) (A : Option Addr) (n c : Nat) (l : List Act) (w : World) (hl : Acts w w.heap.size A l) (hn : l.length = n) (hn1 : (n : Int) ≤ 9223372036854775807) (hf1 : fewP l = true) (h1 : N ≤ 100) (h2 : 1024 < sz) (hb : N < 1 ∨ 16384 < N ∨ sz < 64 ∨ 1024 < sz) :
    Calls Try.prog 3 #[.int .i64 N, .int .i64 sz, .slice A n c] w fun e w' => e = .returned (.bool true) ∧ Fr (fun _ => False) w w' := by
  have CF1 := Lib.hid (fun w' (hf : Fr (fun _ => False) w w') => few_any A n c w.heap.size l w' (hl.fr hf (fun _ _ h => h)) hn hn1 hf.size)
  rw [hf1] at CF1
  have C1 := Lib.hid (fun w' => new_bad N sz w' hb)
  have C2 := Lib.hid (fun w' => refNew_bad N sz w' hb)
  have d1 : decide ((100 : Int) < N) = false := by simp; omega
  have d2 : decide ((512 : Int) < sz) = true := by simp; omega
  have d4 : decide (sz ≤ 1024) = false := by simp; omega
  have d6 : (512 : Int) < sz := by omega
  clear hl hn hf1 hb
  go_enter Try.func3, Try.ntmps3
  go_wp2_with fail
  refine (known_any w).mono ?_; rintro e w0 ⟨rfl, hf0⟩
  go_wp2_with fail
  refine (CF1.out w0 hf0).mono ?_; rintro e w1 ⟨rfl, g1⟩
  have g1' := hf0.trans g1 (fun _ _ h => h)
  clear hf0 g1 CF1
  go_wp2_with fail
  refine (C1.out w1).mono ?_; rintro e w2 ⟨rfl, rfl⟩
  go_wp2_with fail
  refine (C2.out w1).mono ?_; rintro e w2 ⟨rfl, rfl⟩
  clear C1 C2
  go_wp2
  go_ret
  exact ⟨rfl, g1'⟩

set_option maxRecDepth 100000 in
set_option maxHeartbeats 4000000 in
theorem plays_hl (N sz : Int) (A : Option Addr) (n c : Nat) (l : List Act) (w : World) (hl : Acts w w.heap.size A l) (hn : l.length = n) (hn1 : (n : Int) ≤ 9223372036854775807) (hf1 : fewP l = true) (h1 : 16384 < N) (h2 : sz ≤ 512) (hb : N < 1 ∨ 16384 < N ∨ sz < 64 ∨ 1024 < sz) :
    Calls Try.prog 3 #[.int .i64 N, .int .i64 sz, .slice A n c] w fun e w' => e = .returned (.bool true) ∧ Fr (fun _ => False) w w' := by
  have CF1 := Lib.hid (fun w' (hf : Fr (fun _ => False) w w') => few_any A n c w.heap.size l w' (hl.fr hf (fun _ _ h => h)) hn hn1 hf.size)
  rw [hf1] at CF1
  have C1 := Lib.hid (fun w' => new_bad N sz w' hb)
  have C2 := Lib.hid (fun w' => refNew_bad N sz w' hb)
  have d1 : decide ((100 : Int) < N) = true := by simp; omega
  have d3 : decide (N ≤ 16384) = false := by simp; omega
  have d5 : (100 : Int) < N := by omega
  have d2 : decide ((512 : Int) < sz) = false := by simp; omega
  clear hl hn hf1 hb
  go_enter Try.func3, Try.ntmps3
  go_wp2_with fail
  refine (known_any w).mono ?_; rintro e w0 ⟨rfl, hf0⟩
  go_wp2_with fail
  refine (CF1.out w0 hf0).mono ?_; rintro e w1 ⟨rfl, g1⟩
  have g1' := hf0.trans g1 (fun _ _ h => h)
  clear hf0 g1 CF1
  go_wp2_with fail
  refine (C1.out w1).mono ?_; rintro e w2 ⟨rfl, rfl⟩
  go_wp2_with fail
  refine (C2.out w1).mono ?_; rintro e w2 ⟨rfl, rfl⟩
  clear C1 C2
  go_wp2
  go_ret
  exact ⟨rfl, g1'⟩

set_option maxRecDepth 100000 in
set_option maxHeartbeats 4000000 in
theorem plays_hh (N sz : Int) (A : Option Addr) (n c : Nat) (l : List Act) (w : World) (hl : Acts w w.heap.size A l) (hn : l.length = n) (hn1 : (n : Int) ≤ 9223372036854775807) (hf1 : fewP l = true) (h1 : 16384 < N) (h2 : 1024 < sz) (hb : N < 1 ∨ 16384 < N ∨ sz < 64 ∨ 1024 < sz) :
    Calls Try.prog 3 #[.int .i64 N, .int .i64 sz, .slice A n c] w fun e w' => e = .returned (.bool true) ∧ Fr (fun _ => False) w w' := by
  have CF1 := Lib.hid (fun w' (hf : Fr (fun _ => False) w w') => few_any A n c w.heap.size l w' (hl.fr hf (fun _ _ h => h)) hn hn1 hf.size)
  rw [hf1] at CF1
  have C1 := Lib.hid (fun w' => new_bad N sz w' hb)
  have C2 := Lib.hid (fun w' => refNew_bad N sz w' hb)
  have d1 : decide ((100 : Int) < N) = true := by simp; omega
  have d3 : decide (N ≤ 16384) = false := by simp; omega
  have d5 : (100 : Int) < N := by omega
  have d2 : decide ((512 : Int) < sz) = true := by simp; omega
  have d4 : decide (sz ≤ 1024) = false := by simp; omega
  have d6 : (512 : Int) < sz := by omega
  clear hl hn hf1 hb
  go_enter Try.func3, Try.ntmps3
  go_wp2_with fail
  refine (known_any w).mono ?_; rintro e w0 ⟨rfl, hf0⟩
  go_wp2_with fail
  refine (CF1.out w0 hf0).mono ?_; rintro e w1 ⟨rfl, g1⟩
  have g1' := hf0.trans g1 (fun _ _ h => h)
  clear hf0 g1 CF1
  go_wp2_with fail
  refine (C1.out w1).mono ?_; rintro e w2 ⟨rfl, rfl⟩
  go_wp2_with fail
  refine (C2.out w1).mono ?_; rintro e w2 ⟨rfl, rfl⟩
  clear C1 C2
  go_wp2
  go_ret
  exact ⟨rfl, g1'⟩

set_option maxRecDepth 100000 in
set_option maxHeartbeats 4000000 in
theorem plays_any (N sz : Int) (A : Option Addr) (n c : Nat) (l : List Act) (w : World) (hl : Acts w w.heap.size A l) (hn : l.length = n) (hn1 : (n : Int) ≤ 9223372036854775807) :
    Calls Try.prog 3 #[.int .i64 N, .int .i64 sz, .slice A n c] w fun e w' => e = .returned (.bool true) ∧ Fr (fun _ => False) w w' := by
  have CF1 := Lib.hid (fun w' (hf : Fr (fun _ => False) w w') => few_any A n c w.heap.size l w' (hl.fr hf (fun _ _ h => h)) hn hn1 hf.size)
  by_cases hf1 : fewP l = true
  · by_cases hB : 100 < N ∧ N ≤ 16384
    · rw [hf1] at CF1
      obtain ⟨b1, b2⟩ := hB
      clear hl hn hf1
      go_enter Try.func3, Try.ntmps3
      go_wp2_with fail
      refine (known_any w).mono ?_; rintro e w0 ⟨rfl, hf0⟩
      go_wp2_with fail
      refine (CF1.out w0 hf0).mono ?_; rintro e w1 ⟨rfl, g1⟩
      have g1' := hf0.trans g1 (fun _ _ h => h)
      clear hf0 g1 CF1
      go_wp2
      go_ret
      exact ⟨rfl, g1'⟩
    · by_cases hC : 512 < sz ∧ sz ≤ 1024
      · rw [hf1] at CF1
        obtain ⟨b1, b2⟩ := hC
        by_cases hN : N ≤ 100
        · have d1 : decide ((100 : Int) < N) = false := by simp; omega
          clear hl hn hf1 hB
          go_enter Try.func3, Try.ntmps3
          go_wp2_with fail
          refine (known_any w).mono ?_; rintro e w0 ⟨rfl, hf0⟩
          go_wp2_with fail
          refine (CF1.out w0 hf0).mono ?_; rintro e w1 ⟨rfl, g1⟩
          have g1' := hf0.trans g1 (fun _ _ h => h)
          clear hf0 g1 CF1
          go_wp2
          go_ret
          exact ⟨rfl, g1'⟩
        · have b3 : 16384 < N := by omega
          have b4 : 100 < N := by omega
          have d1 : decide (N ≤ 16384) = false := by simp; omega
          clear hl hn hf1 hB hN
          go_enter Try.func3, Try.ntmps3
          go_wp2_with fail
          refine (known_any w).mono ?_; rintro e w0 ⟨rfl, hf0⟩
          go_wp2_with fail
          refine (CF1.out w0 hf0).mono ?_; rintro e w1 ⟨rfl, g1⟩
          have g1' := hf0.trans g1 (fun _ _ h => h)
          clear hf0 g1 CF1
          go_wp2
          go_ret
          exact ⟨rfl, g1'⟩
      · by_cases hb : N < 1 ∨ 16384 < N ∨ sz < 64 ∨ 1024 < sz
        · by_cases hN : N ≤ 100
          · by_cases hS : sz ≤ 512
            · exact plays_ll N sz A n c l w hl hn hn1 hf1 hN hS hb
            · exact plays_lh N sz A n c l w hl hn hn1 hf1 hN (by omega) hb
          · by_cases hS : sz ≤ 512
            · exact plays_hl N sz A n c l w hl hn hn1 hf1 (by omega) hS hb
            · exact plays_hh N sz A n c l w hl hn hn1 hf1 (by omega) (by omega) hb
        · obtain ⟨N', rfl⟩ : ∃ N' : Nat, N = N' := ⟨N.toNat, by omega⟩
          obtain ⟨sz', rfl⟩ : ∃ sz' : Nat, sz = sz' := ⟨sz.toNat, by omega⟩
          exact plays_in N' sz' A n c l w hl hn hf1 (by omega) (by omega) (by omega) (by omega)
  · rw [show fewP l = false by simpa using hf1] at CF1
    clear hl hn hf1
    go_enter Try.func3, Try.ntmps3
    go_wp2_with fail
    refine (known_any w).mono ?_; rintro e w0 ⟨rfl, hf0⟩
    go_wp2_with fail
    refine (CF1.out w0 hf0).mono ?_; rintro e w1 ⟨rfl, g1⟩
    have g1' := hf0.trans g1 (fun _ _ h => h)
    clear hf0 g1 CF1
    go_wp2
    go_ret
    exact ⟨rfl, g1'⟩
end Go.Proofs.Ytnkkdpmmnenncaa
