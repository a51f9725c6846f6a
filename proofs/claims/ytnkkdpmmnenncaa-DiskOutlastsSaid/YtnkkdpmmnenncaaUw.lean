/- The walk of DiskOutlasts, whole. -/
import Derived.Test.YtnkkdpmmnenncaaUv
namespace Go.Proofs.Ytnkkdpmmnenncaa
open Go.RowKit Go.Maps

set_option maxRecDepth 100000 in
set_option maxHeartbeats 4000000 in
theorem out_any (A : Option Addr) (n c : Nat) (l : List Act) (B : Option Addr) (m d : Nat) (r : List Act) (K : Option Addr) (kn kc : Nat) (ks : List Bool) (w : World)
    (hl : Acts w w.heap.size A l) (hn : l.length = n) (hr : Acts w w.heap.size B r) (hm : r.length = m) (hk : RdB w K ks) (hkn : ks.length = kn) (hn1 : (n : Int) ≤ 9223372036854775807) (hm1 : (m : Int) ≤ 9223372036854775807) (hk1 : (kn : Int) ≤ 9223372036854775807) :
    Calls Try.prog 4 #[.slice A n c, .slice B m d, .slice K kn kc] w fun e w' => e = .returned (.bool true) ∧ Fr (fun _ => False) w w' := by
  have CF1 := Lib.hid (fun w' (hf : Fr (fun _ => False) w w') => few_any A n c w.heap.size l w' (hl.fr hf (fun _ _ h => h)) hn hn1 hf.size)
  have CF2 := Lib.hid (fun w' (hf : Fr (fun _ => False) w w') => few_any B m d w.heap.size r w' (hr.fr hf (fun _ _ h => h)) hm hm1 hf.size)
  by_cases hf1 : fewP l = true
  · by_cases hf2 : fewP r = true
    · by_cases h3 : kn ≤ 1000
      · exact out_in A n c l B m d r K kn kc ks w hl hn hr hm hk hkn hf1 hf2 h3
      · rw [hf1] at CF1
        rw [hf2] at CF2
        have h3' : (1000 : Int) < (kn : Int) := by omega
        clear hl hr hk hn hm hkn hf1 hf2 h3
        go_enter Try.func4, Try.ntmps4
        go_wp2_with fail
        refine (known_any w).mono ?_; rintro e w0 ⟨rfl, hf0⟩
        go_wp2_with fail
        refine (CF1.out w0 hf0).mono ?_; rintro e w1 ⟨rfl, g1⟩
        have g1' := hf0.trans g1 (fun _ _ h => h)
        clear hf0 g1
        go_wp2_with fail
        refine (CF2.out w1 g1').mono ?_; rintro e w2 ⟨rfl, g2⟩
        have g2' := g1'.trans g2 (fun _ _ h => h)
        clear g1' g2 CF1 CF2
        go_wp2
        go_ret
        exact ⟨rfl, g2'⟩
    · rw [hf1] at CF1
      rw [show fewP r = false by simpa using hf2] at CF2
      clear hl hr hk hn hm hkn hf1 hf2
      go_enter Try.func4, Try.ntmps4
      go_wp2_with fail
      refine (known_any w).mono ?_; rintro e w0 ⟨rfl, hf0⟩
      go_wp2_with fail
      refine (CF1.out w0 hf0).mono ?_; rintro e w1 ⟨rfl, g1⟩
      have g1' := hf0.trans g1 (fun _ _ h => h)
      clear hf0 g1
      go_wp2_with fail
      refine (CF2.out w1 g1').mono ?_; rintro e w2 ⟨rfl, g2⟩
      have g2' := g1'.trans g2 (fun _ _ h => h)
      clear g1' g2 CF1 CF2
      go_wp2
      go_ret
      exact ⟨rfl, g2'⟩
  · rw [show fewP l = false by simpa using hf1] at CF1
    clear hl hr hk hn hm hkn hf1
    go_enter Try.func4, Try.ntmps4
    go_wp2_with fail
    refine (known_any w).mono ?_; rintro e w0 ⟨rfl, hf0⟩
    go_wp2_with fail
    refine (CF1.out w0 hf0).mono ?_; rintro e w1 ⟨rfl, g1⟩
    have g1' := hf0.trans g1 (fun _ _ h => h)
    clear hf0 g1 CF1 CF2
    go_wp2
    go_ret
    exact ⟨rfl, g1'⟩
end Go.Proofs.Ytnkkdpmmnenncaa
