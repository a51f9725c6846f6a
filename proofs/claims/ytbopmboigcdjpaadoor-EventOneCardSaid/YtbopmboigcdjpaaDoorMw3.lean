/- The law's place. -/
import Derived.Test.YtbopmboigcdjpaaDoorMn
import Derived.Test.YtbopmboigcdjpaaDoorStr
namespace Go.Proofs.YtbopmboigcdjpaaDoor
open Go.RowKit Go.Maps

def digB (d : Nat) : ByteArray := ⟨#[UInt8.ofNat (48 + d)]⟩
theorem decB_one : ∀ n, n < 10 → decB n = digB n := by decide +kernel
theorem decB_two : ∀ n, n < 100 → 10 ≤ n → decB n = digB (n / 10) ++ digB (n % 10) := by decide +kernel
/-- A string of one new byte. -/
theorem run_dig {w : World} {d : Nat} (hd : d < 10) : (Go.convert 45 9 (.slice (some ⟨w.heap.size, 0, none⟩) 1 1)).run Tryd.prog (w.alloc (.cells #[.int .u8 (48 + (d : Int))] 5)) = .ok (.string (digB d)) (w.alloc (.cells #[.int .u8 (48 + (d : Int))] 5)) := by
  have hb := Bk.new w 5 #[.int .u8 (48 + (d : Int))]
  have hr : Rd8 (w.alloc (.cells #[.int .u8 (48 + (d : Int))] 5)) (some ⟨w.heap.size, 0, none⟩) [UInt8.ofNat (48 + d)] := fun _ => ⟨_, rfl, rfl, fun j hj => by
    have : j = 0 := by simpa using hj
    subst this
    have e : ((UInt8.ofNat (48 + d)).toNat : Int) = 48 + (d : Int) := by rw [UInt8.toNat_ofNat']; omega
    rw [Nat.zero_add, hb.cell]
    show (#[Value.int .u8 (48 + (d : Int))] : Array Value)[0]? = some (.int .u8 ((UInt8.ofNat (48 + d)).toNat : Int))
    rw [e]; rfl⟩
  exact run_str8 Tryd.t8 Tryd.underlying5 Tryd.underlying9 1 hr rfl
set_option maxRecDepth 100000 in
set_option maxHeartbeats 4000000 in
theorem place_any (n : Nat) (hn : n < 100) (w : World) : Calls Tryd.prog 29 #[.int .i64 (n : Int)] w fun e w' => e = .returned (.string (decB n)) ∧ Fr (fun _ => False) w w' := by
  by_cases h10 : n < 10
  · rw [decB_one n h10]
    have HF : Hid (Fr (fun _ => False) w (w.alloc (.cells #[.int .u8 (48 + (n : Int))] 5))) := Lib.hid ((Fr.refl _ _).alloc _)
    have hr := run_dig (w := w) h10
    generalize digB n = s at *
    have e1 : (n : Int) % 10 = (n : Int) := by omega
    have e2 : Int.tmod (n : Int) 10 = (n : Int) := by rw [Int.tmod_eq_emod_of_nonneg (by omega)]; exact e1
    have w1 : IntKind.i64.wrap (48 + (n : Int)) = 48 + (n : Int) := IntWalk.i64_in _ (by omega)
    have w2 : IntKind.u8.wrap (48 + (n : Int)) = 48 + (n : Int) := by simp [IntKind.wrap, IntKind.bits, IntKind.signed]; omega
    have d0 : decide ((10 : Int) ≤ (n : Int)) = false := decide_eq_false (by omega)
    have d0' : decide (10 ≤ n) = false := decide_eq_false (by omega)
    clear hn h10
    go_enter Tryd.func29, Tryd.ntmps29
    go_wp2_with fail
    refine wp_loop_rounds 1 ?_
    rw [rounds_succ]
    go_wp2
    go_ret
    exact ⟨rfl, HF.out⟩
  · rw [decB_two n hn (by omega)]
    obtain ⟨q, hq⟩ : ∃ q, n / 10 = q := ⟨_, rfl⟩
    obtain ⟨r, hr⟩ : ∃ r, n % 10 = r := ⟨_, rfl⟩
    rw [hq, hr]
    obtain ⟨W, hW⟩ : ∃ W, w.alloc (.cells #[.int .u8 (48 + (r : Int))] 5) = W := ⟨_, rfl⟩
    have hr1 := run_dig (w := w) (d := r) (by omega)
    have hr2 := run_dig (w := W) (d := q) (by omega)
    rw [hW] at hr1
    have HF : Hid (Fr (fun _ => False) w (W.alloc (.cells #[.int .u8 (48 + (q : Int))] 5))) := Lib.hid (by rw [← hW]; exact ((Fr.refl _ _).alloc _).alloc _)
    have z1 : (digB q).size = 1 := rfl
    have z2 : (digB r).size = 1 := rfl
    generalize digB q = sq at *
    generalize digB r = sr at *
    have e1 : (n : Int) % 10 = (r : Int) := by omega
    have e2 : Int.tmod (n : Int) 10 = (r : Int) := by rw [Int.tmod_eq_emod_of_nonneg (by omega)]; exact e1
    have e3 : (n : Int) / 10 = (q : Int) := by omega
    have e4 : Int.tdiv (n : Int) 10 = (q : Int) := by rw [Int.tdiv_eq_ediv_of_nonneg (by omega)]; exact e3
    have e5 : (q : Int) % 10 = (q : Int) := by omega
    have e6 : Int.tmod (q : Int) 10 = (q : Int) := by rw [Int.tmod_eq_emod_of_nonneg (by omega)]; exact e5
    have w1 : IntKind.i64.wrap (48 + (r : Int)) = 48 + (r : Int) := IntWalk.i64_in _ (by omega)
    have w2 : IntKind.u8.wrap (48 + (r : Int)) = 48 + (r : Int) := by simp [IntKind.wrap, IntKind.bits, IntKind.signed]; omega
    have w3 : IntKind.i64.wrap (48 + (q : Int)) = 48 + (q : Int) := IntWalk.i64_in _ (by omega)
    have w4 : IntKind.u8.wrap (48 + (q : Int)) = 48 + (q : Int) := by simp [IntKind.wrap, IntKind.bits, IntKind.signed]; omega
    have w5 : IntKind.i64.wrap (q : Int) = (q : Int) := IntWalk.i64_in _ (by omega)
    have d0 : decide ((10 : Int) ≤ (n : Int)) = true := decide_eq_true (by omega)
    have d0' : decide (10 ≤ n) = true := decide_eq_true (by omega)
    have d1 : decide ((10 : Int) ≤ (q : Int)) = false := decide_eq_false (by omega)
    have d1' : decide (10 ≤ q) = false := decide_eq_false (by omega)
    have s1 : ¬ 9223372036854775807 < sq.size + sr.size := by omega
    obtain ⟨g0, hg0⟩ : ∃ g0, w.heap.size = g0 := ⟨_, rfl⟩
    rw [hg0] at hr1
    clear hn h10 hq hr
    go_enter Tryd.func29, Tryd.ntmps29
    go_wp2_with fail
    refine wp_loop_rounds 2 ?_
    rw [rounds_succ]
    go_wp2
    rw [rounds_succ]
    go_wp2
    go_ret
    exact ⟨rfl, HF.out⟩
end Go.Proofs.YtbopmboigcdjpaaDoor
