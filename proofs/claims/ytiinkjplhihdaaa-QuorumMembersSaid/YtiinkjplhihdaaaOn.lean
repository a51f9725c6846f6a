/- known. -/
import Derived.Test.YtiinkjplhihdaaaOm
import Derived.Test.YtiinkjplhihdaaaOi
namespace Go.Proofs.Ytiinkjplhihdaaa
open Go.RowKit

def km : Nat → Int := fun j => [1, 0, 1, 0, 0, 1, 0, 2, 0].getD j 0
def kt1 : Nat → Int := fun j => [0, 2, 5].getD j 0
def kt2 : Nat → Int := fun j => [7].getD j 0
def ky : Nat → Bool := fun j => [true, false, true].getD j false
def kt3 : Nat → Int := fun j => [4, 9, 3, 0, 0, 1, 0, 9].getD j 0
theorem km_ok : ∀ k, 0 ≤ km k ∧ km k < 256 := fun k => by
  by_cases hk : k < 9
  · have : k = 0 ∨ k = 1 ∨ k = 2 ∨ k = 3 ∨ k = 4 ∨ k = 5 ∨ k = 6 ∨ k = 7 ∨ k = 8 := by omega
    rcases this with rfl | rfl | rfl | rfl | rfl | rfl | rfl | rfl | rfl <;> decide
  · have : km k = 0 := by
      unfold km
      simp [List.getD, show 9 ≤ k by omega]
    rw [this]; omega
theorem km_of : mv (ofQ 3 kt1 1 kt2).1 = mv km := by kernel_rfl
theorem km_of2 : (ofQ 3 kt1 1 kt2).2 = 0 := by kernel_rfl
theorem km_won : wonB km 3 ky = true := by decide
theorem km_lost : lostB km 3 ky = false := by decide
theorem km_most : mst km = 2 := by decide
theorem km_right : rightB km = true := rightB_yes ⟨fun k hk => by
    have : k = 0 ∨ k = 1 ∨ k = 2 ∨ k = 3 ∨ k = 4 ∨ k = 5 ∨ k = 6 ∨ k = 7 ∨ k = 8 := by omega
    rcases this with rfl | rfl | rfl | rfl | rfl | rfl | rfl | rfl | rfl <;> decide, by decide⟩
theorem km_index : bst km 8 kt3 (hav km 1 9) = 3 := by decide
theorem rd_new (w : World) (t : TypeId) (cs : Array Value) (f : Nat → Value) (n : Nat) (h : ∀ j, j < n → cs[j]? = some (f j)) : RdF (w.alloc (.cells cs t)) (some ⟨w.heap.size, 0, none⟩) n f := fun _ =>
  ⟨_, 0, rfl, fun j hj => by rw [Nat.zero_add]; exact ((Bk.new w t cs).cell j).trans (h j hj)⟩

set_option maxRecDepth 100000 in
set_option maxHeartbeats 4000000 in
theorem known_any (w : World) : Calls Try.prog 8 #[] w fun e w' => e = .returned (.bool true) ∧ Fr (fun _ => False) w w' := by
  have R1 : RdF ((w.alloc (.cells #[.int .i64 0, .int .i64 2, .int .i64 5] 3)).alloc (.cells #[.int .i64 7] 3)) (some ⟨w.heap.size, 0, none⟩) 3 (fun j => .int .i64 (kt1 j)) :=
    (rd_new w 3 #[.int .i64 0, .int .i64 2, .int .i64 5] _ 3 (fun j hj => by
      have : j = 0 ∨ j = 1 ∨ j = 2 := by omega
      rcases this with rfl | rfl | rfl <;> rfl)).fr0 ((Fr.refl _ _).alloc _)
  have R2 : RdF ((w.alloc (.cells #[.int .i64 0, .int .i64 2, .int .i64 5] 3)).alloc (.cells #[.int .i64 7] 3)) (some ⟨w.heap.size + 1, 0, none⟩) 1 (fun j => .int .i64 (kt2 j)) := by
    have := rd_new (w.alloc (.cells #[.int .i64 0, .int .i64 2, .int .i64 5] 3)) 3 #[.int .i64 7] (fun j => .int .i64 (kt2 j)) 1 (fun j hj => by
      have : j = 0 := by omega
      rcases this with rfl; rfl)
    rwa [World.size_alloc] at this
  have C1 := Lib.hid (of_any _ 3 3 kt1 _ 1 1 kt2 _ R1 R2 (by omega) (by omega))
  rw [km_of, km_of2] at C1
  have HF0 : Hid (Fr (fun _ => False) w ((w.alloc (.cells #[.int .i64 0, .int .i64 2, .int .i64 5] 3)).alloc (.cells #[.int .i64 7] 3))) := Lib.hid (((Fr.refl _ _).alloc _).alloc _)
  have CV := Lib.hid (fun (w : World) h => votes_any km km_ok (some ⟨w.heap.size, 0, none⟩) 3 3 ky (w.alloc (.cells #[.bool true, .bool false, .bool true] 4)) h)
  rw [km_won, km_lost] at CV
  have CR := Lib.hid (right_any km km_ok)
  rw [km_right] at CR
  have CM := Lib.hid (most_any km km_ok)
  rw [km_most] at CM
  have CI := Lib.hid (fun (w : World) h => index_any km km_ok (some ⟨w.heap.size, 0, none⟩) 8 8 kt3 (w.alloc (.cells #[.int .i64 4, .int .i64 9, .int .i64 3, .int .i64 0, .int .i64 0, .int .i64 1, .int .i64 0, .int .i64 9] 3)) h)
  rw [km_index] at CI
  clear R1 R2
  unfold mv at C1 CV CR CM CI
  go_enter Try.func8, Try.ntmps8
  go_wp2_with fail
  refine C1.out.mono ?_; rintro e w1 ⟨rfl, hf1⟩
  have HF1 := Lib.hid (HF0.out.trans hf1 (fun _ _ h => h))
  have hb2 := Bx.new w1 23 km
  obtain ⟨w2, hw2⟩ : ∃ w2, w1.alloc (.cells (mcs km) 23) = w2 := ⟨_, rfl⟩
  have HF2 : Hid (Fr (fun _ => False) w w2) := Lib.hid (hw2 ▸ HF1.out.alloc _)
  rw [hw2] at hb2
  have hlt2 : w1.heap.size < w2.heap.size := by rw [← hw2]; simp
  unfold mcs at hw2
  have hc2 : ∀ k, k < 9 → w2.cell? ⟨w1.heap.size, k, none⟩ = some (.int .u8 (km k)) := fun k hk => hb2.at0 hk
  have RV := rd_new w2 4 #[.bool true, .bool false, .bool true] (fun j => .bool (ky j)) 3 (fun j hj => by
      have : j = 0 ∨ j = 1 ∨ j = 2 := by omega
      rcases this with rfl | rfl | rfl <;> rfl)
  have C2 := Lib.hid (CV.out w2 RV)
  clear RV hf1 C1
  go_wp2_with fail
  refine C2.out.mono ?_; rintro e w3 ⟨rfl, hf3⟩
  have hf23 : Fr (fun _ => False) w2 w3 := ((Fr.refl _ _).alloc _).trans hf3 (fun _ _ h => h)
  have HF3 := Lib.hid (HF2.out.trans hf23 (fun _ _ h => h))
  have hb3 := hb2.fr hf23 (fun h => h)
  have hc3 : ∀ k, k < 9 → w3.cell? ⟨w1.heap.size, k, none⟩ = some (.int .u8 (km k)) := fun k hk => hb3.at0 hk
  clear hc2 hw2
  go_wp2_with fail
  refine (CR.out _).mono ?_; rintro e w4 ⟨rfl, hf4⟩
  have hb4 := hb3.fr hf4 (fun h => h)
  have HF4 := Lib.hid (HF3.out.trans hf4 (fun _ _ h => h))
  have hc4 : ∀ k, k < 9 → w4.cell? ⟨w1.heap.size, k, none⟩ = some (.int .u8 (km k)) := fun k hk => hb4.at0 hk
  clear hc3
  go_wp2_with fail
  refine (CM.out _).mono ?_; rintro e w5 ⟨rfl, hf5⟩
  have hb5 := hb4.fr hf5 (fun h => h)
  have HF5 := Lib.hid (HF4.out.trans hf5 (fun _ _ h => h))
  have hc5 : ∀ k, k < 9 → w5.cell? ⟨w1.heap.size, k, none⟩ = some (.int .u8 (km k)) := fun k hk => hb5.at0 hk
  have RI := rd_new w5 3 #[.int .i64 4, .int .i64 9, .int .i64 3, .int .i64 0, .int .i64 0, .int .i64 1, .int .i64 0, .int .i64 9] (fun j => .int .i64 (kt3 j)) 8 (fun j hj => by
      have : j = 0 ∨ j = 1 ∨ j = 2 ∨ j = 3 ∨ j = 4 ∨ j = 5 ∨ j = 6 ∨ j = 7 := by omega
      rcases this with rfl | rfl | rfl | rfl | rfl | rfl | rfl | rfl <;> rfl)
  have C6 := Lib.hid (CI.out w5 RI)
  clear hc4 RI
  go_wp2_with fail
  refine C6.out.mono ?_; rintro e w6 ⟨rfl, hf6⟩
  go_wp2
  go_ret
  exact ⟨rfl, (HF5.out.alloc _).trans hf6 (fun _ _ h => h)⟩
end Go.Proofs.Ytiinkjplhihdaaa
