/- The walk of DiskArmed, whole. -/
import Derived.Test.YtnkkdpmmnenncaaUo
namespace Go.Proofs.Ytnkkdpmmnenncaa
open Go.RowKit Go.Maps

set_option maxRecDepth 100000 in
set_option maxHeartbeats 4000000 in
theorem armed_out (n m sync : Int) (w : World) (h : m < 0 ∨ 100 < m) :
    Calls Try.prog 6 #[.int .i64 n, .int .i64 m, .int .i64 sync] w fun e w' => e = .returned (.bool true) ∧ Fr (fun _ => False) w w' := by
  rcases h with h | h
  · go_enter Try.func6, Try.ntmps6
    go_wp2_with fail
    refine (known_any w).mono ?_; rintro e w0 ⟨rfl, hf0⟩
    go_wp2
    go_ret
    exact ⟨rfl, hf0⟩
  · have h0 : 0 ≤ m := by omega
    go_enter Try.func6, Try.ntmps6
    go_wp2_with fail
    refine (known_any w).mono ?_; rintro e w0 ⟨rfl, hf0⟩
    go_wp2
    go_ret
    exact ⟨rfl, hf0⟩
theorem armed_any (n m sync : Int) (w : World) (hn : n ≤ 9223372036854775807) :
    Calls Try.prog 6 #[.int .i64 n, .int .i64 m, .int .i64 sync] w fun e w' => e = .returned (.bool true) ∧ Fr (fun _ => False) w w' := by
  by_cases h : m < 0 ∨ 100 < m
  · exact armed_out n m sync w h
  · by_cases h1 : n < 1
    · exact armed_low n m sync w hn (by omega) (by omega) h1
    · exact armed_high n m sync w hn (by omega) (by omega) (by omega)
end Go.Proofs.Ytnkkdpmmnenncaa
