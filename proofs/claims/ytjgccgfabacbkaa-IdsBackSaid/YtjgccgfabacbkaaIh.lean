/- What each law of ids asks first; the walks of the laws. -/
import Derived.Test.YtjgccgfabacbkaaIg
namespace Go.Proofs.Ytjgccgfabacbkaa
open Go.RowKit

theorem block_known : blockOf 3 10 = (30, 40, 0) := by decide +kernel
theorem hash_known : hashN (u64N 0) = 0 := by decide +kernel
theorem tok_known : tokN ⟨1, 0, 0, 0⟩ = 17592186044416 := by decide +kernel

set_option maxRecDepth 100000 in
theorem known_any (w : World) :
    Calls Try.prog 8 #[] w fun e w' => e = .returned (.bool true) ∧ Fr (fun _ => False) w w' := by
  have C1 := Lib.hid (fun w => block_any 3 10 w)
  rw [block_known] at C1
  have C2 := Lib.hid (fun w => hash_any 0 w)
  rw [hash_known] at C2
  have C3 := Lib.hid (fun w => hash_any 1 w)
  have C4 := Lib.hid (fun w => refhash_any 1 w)
  generalize hashN (u64N 1) = h1 at *
  have C5 := Lib.hid (fun w => token_any ⟨1, 0, 0, 0⟩ w)
  rw [tok_known] at C5
  simp only [Tok.cs] at *
  go_enter Try.func8, Try.ntmps8
  go_wp2_with fail
  refine (C1.out _).mono ?_; rintro e2 w1 ⟨rfl, rfl⟩
  go_wp2_with fail
  refine (C2.out _).mono ?_; rintro e2 w1 ⟨rfl, rfl⟩
  go_wp2_with fail
  refine (C3.out _).mono ?_; rintro e2 w1 ⟨rfl, rfl⟩
  go_wp2_with fail
  refine (C4.out _).mono ?_; rintro e2 w1 ⟨rfl, rfl⟩
  go_wp2_with fail
  refine (C5.out _).mono ?_; rintro e2 w1 ⟨rfl, hf⟩
  go_wp2
  go_ret
  exact ⟨rfl, hf⟩

set_option maxRecDepth 100000 in
set_option maxHeartbeats 1000000 in
theorem numbers_any (flow turn g r s : Int) (w : World) (h1 : flow ≤ 9223372036854775807) (h2 : g ≤ 9223372036854775807) :
    Calls Try.prog 3 #[.int .i64 flow, .int .i64 turn, .int .i64 g, .int .i64 r, .int .i64 s] w fun e w' => e = .returned (.bool true) ∧ Fr (fun _ => False) w w' := by
  have C1 := Lib.hid (fun w => known_any w)
  have C2 := Lib.hid (fun w => block_any r s w)
  have C3 := Lib.hid (fun w => refblock_any r s w)
  have C4 := Lib.hid (fun w => owner_any flow s w h1)
  have C5 := Lib.hid (fun w => refowner_any flow s w h1)
  have C6 := Lib.hid (fun w => hash_any flow w)
  have C7 := Lib.hid (fun w => refhash_any flow w)
  have C8 := Lib.hid (fun w => shard_any flow g w h2)
  have C9 := Lib.hid (fun w => refshard_any flow g w h2)
  have C10 := Lib.hid (fun w => list_any flow turn g w h2)
  have C11 := Lib.hid (fun w => reflist_any flow turn g w h2)
  clear h1 h2
  generalize restI (listN flow turn) g = x1 at *
  generalize restI (hashN (u64N flow)) g = x2 at *
  generalize hashN (u64N flow) = x3 at *
  generalize (ownerOf flow s).1 = x4 at *
  generalize (ownerOf flow s).2 = x5 at *
  generalize (blockOf r s).1 = x6 at *
  generalize (blockOf r s).2.1 = x7 at *
  generalize (blockOf r s).2.2 = x8 at *
  go_enter Try.func3, Try.ntmps3
  go_wp2_with fail
  refine (C1.out _).mono ?_; rintro e2 w1 ⟨rfl, hf⟩
  go_wp2_with fail
  refine (C2.out _).mono ?_; rintro e2 w2 ⟨rfl, rfl⟩
  go_wp2_with fail
  refine (C3.out _).mono ?_; rintro e2 w2 ⟨rfl, rfl⟩
  go_wp2_with fail
  refine (C4.out _).mono ?_; rintro e2 w2 ⟨rfl, rfl⟩
  go_wp2_with fail
  refine (C5.out _).mono ?_; rintro e2 w2 ⟨rfl, rfl⟩
  go_wp2_with fail
  refine (C6.out _).mono ?_; rintro e2 w2 ⟨rfl, rfl⟩
  go_wp2_with fail
  refine (C7.out _).mono ?_; rintro e2 w2 ⟨rfl, rfl⟩
  go_wp2_with fail
  refine (C8.out _).mono ?_; rintro e2 w2 ⟨rfl, rfl⟩
  go_wp2_with fail
  refine (C9.out _).mono ?_; rintro e2 w2 ⟨rfl, rfl⟩
  go_wp2_with fail
  refine (C10.out _).mono ?_; rintro e2 w2 ⟨rfl, rfl⟩
  go_wp2_with fail
  refine (C11.out _).mono ?_; rintro e2 w2 ⟨rfl, rfl⟩
  go_wp2
  go_ret
  exact ⟨rfl, hf⟩
end Go.Proofs.Ytjgccgfabacbkaa
