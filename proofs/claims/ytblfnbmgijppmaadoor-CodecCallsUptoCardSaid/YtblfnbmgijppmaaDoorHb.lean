/- The reference's Between and Bytes. -/
import Derived.Test.YtblfnbmgijppmaaDoorFe
import Derived.Test.YtblfnbmgijppmaaDoorHa
namespace Go.Proofs.YtblfnbmgijppmaaDoor
open Go.RowKit

theorem srW (xs : List UInt8) (wh : ByteArray) (lo hi : Int) (k : Nat) : stBetween xs wh lo hi (.at_ k) = match (srWithin xs k lo hi).1 with | .bad b => (0, .bad b k wh) | .ok k' => ((srWithin xs k lo hi).2, .at_ k') := rfl

set_option maxRecDepth 100000 in
set_option maxHeartbeats 2000000 in
theorem refBetween_any {w : World} {g : Nat} {A : Option Addr} {n c : Nat} {xs : List UInt8} {s : St} (h : RRAt w g A n c xs s) (hn : n ≤ 140737488355328) (wh : ByteArray) (lo hi : Int) :
    Calls Tryd.prog 26 #[.pointer (some ⟨g, 0, none⟩), .string wh, .int .i64 lo, .int .i64 hi] w fun e w' =>
      e = .returned (.int .i64 (stBetween xs wh lo hi s).1) ∧ RRAt w' g A n c xs (stBetween xs wh lo hi s).2 ∧ Fr (fun x => x = g) w w' := by
  have CI := Lib.hid (refInt_any h wh)
  cases s with
  | bad er a w0 =>
    obtain ⟨he, p, hr⟩ := h
    have c1 : w.cell? ⟨g, 1, none⟩ = some (.int .i64 p) := hr.bk.cell 1
    have he1 : (er == 0) = false := by rw [beq_eq_false_iff_ne]; exact he
    have he2 : (er != 0) = true := by rw [bne, he1]; rfl
    go_enter Tryd.func26, Tryd.ntmps26
    go_wp2_with fail
    refine (refInt_bad hr he1 wh).mono ?_; rintro e w1 ⟨rfl, rfl⟩
    have c2 : w.cell? ⟨g, 2, none⟩ = some (.int .i64 er) := hr.bk.cell 2
    go_wp2
    go_ret
    exact ⟨rfl, ⟨he, p, hr⟩, Fr.refl _ _⟩
  | at_ k =>
    obtain ⟨hk, fat, what, hr⟩ := h
    have c1 : w.cell? ⟨g, 1, none⟩ = some (.int .i64 k) := hr.bk.cell 1
    cases hN : rdNum (xs.drop k) with
    | bad b =>
      have hb0 := num_bad hN
      have hs : stBetween xs wh lo hi (.at_ k) = (0, .bad b k wh) := by rw [srW]; simp [srWithin, hN]
      have hs2 : stInt xs wh (.at_ k) = (0, .bad b k wh) := by simp [stInt, hN]
      rw [hs]
      rw [hs2] at CI
      clear hs hs2 hN
      have he1 : (b == 0) = false := by rw [beq_eq_false_iff_ne]; exact hb0
      have he2 : (b != 0) = true := by rw [bne, he1]; rfl
      go_enter Tryd.func26, Tryd.ntmps26
      go_wp2_with fail
      refine CI.out.mono ?_
      rintro e w1 ⟨rfl, ⟨hq, p, h1⟩, hf1⟩
      have c2 : w1.cell? ⟨g, 2, none⟩ = some (.int .i64 b) := h1.bk.cell 2
      go_wp2
      go_ret
      exact ⟨rfl, ⟨hq, p, h1⟩, hf1⟩
    | ok u m =>
      have hs2 : stInt xs wh (.at_ k) = (unfN u, .at_ (k + m)) := by simp [stInt, hN]
      rw [hs2] at CI
      clear hs2
      by_cases h1 : unfN u < lo ∨ hi < unfN u
      · have hs : stBetween xs wh lo hi (.at_ k) = (0, .bad 8 k wh) := by rw [srW]; simp [srWithin, hN, h1]
        rw [hs]
        clear hs hN
        rcases h1 with h1 | h1
        · go_enter Tryd.func26, Tryd.ntmps26
          go_wp2_with fail
          refine CI.out.mono ?_
          rintro e w1 ⟨rfl, ⟨hq, fat1, what1, hr1⟩, hf1⟩
          have c2 : w1.cell? ⟨g, 2, none⟩ = some (.int .i64 0) := hr1.bk.cell 2
          go_wp2_with fail
          refine (rfail_any hr1 8 k wh).mono ?_; rintro e w2 ⟨rfl, hr2, hf2⟩
          have c3 : w2.cell? ⟨g, 2, none⟩ = some (.int .i64 8) := hr2.bk.cell 2
          go_wp2
          go_ret
          exact ⟨rfl, ⟨by decide, _, hr2⟩, hf1.trans hf2 (fun _ _ h => h)⟩
        · by_cases h0 : unfN u < lo
          · go_enter Tryd.func26, Tryd.ntmps26
            go_wp2_with fail
            refine CI.out.mono ?_
            rintro e w1 ⟨rfl, ⟨hq, fat1, what1, hr1⟩, hf1⟩
            have c2 : w1.cell? ⟨g, 2, none⟩ = some (.int .i64 0) := hr1.bk.cell 2
            go_wp2_with fail
            refine (rfail_any hr1 8 k wh).mono ?_; rintro e w2 ⟨rfl, hr2, hf2⟩
            have c3 : w2.cell? ⟨g, 2, none⟩ = some (.int .i64 8) := hr2.bk.cell 2
            go_wp2
            go_ret
            exact ⟨rfl, ⟨by decide, _, hr2⟩, hf1.trans hf2 (fun _ _ h => h)⟩
          · have h0' : lo ≤ unfN u := by omega
            go_enter Tryd.func26, Tryd.ntmps26
            go_wp2_with fail
            refine CI.out.mono ?_
            rintro e w1 ⟨rfl, ⟨hq, fat1, what1, hr1⟩, hf1⟩
            have c2 : w1.cell? ⟨g, 2, none⟩ = some (.int .i64 0) := hr1.bk.cell 2
            go_wp2_with fail
            refine (rfail_any hr1 8 k wh).mono ?_; rintro e w2 ⟨rfl, hr2, hf2⟩
            have c3 : w2.cell? ⟨g, 2, none⟩ = some (.int .i64 8) := hr2.bk.cell 2
            go_wp2
            go_ret
            exact ⟨rfl, ⟨by decide, _, hr2⟩, hf1.trans hf2 (fun _ _ h => h)⟩
      · have hs : stBetween xs wh lo hi (.at_ k) = (unfN u, .at_ (k + m)) := by rw [srW]; simp [srWithin, hN, h1]
        rw [hs]
        clear hs hN
        have h2 : lo ≤ unfN u := by omega
        have h3 : unfN u ≤ hi := by omega
        clear h1
        go_enter Tryd.func26, Tryd.ntmps26
        go_wp2_with fail
        refine CI.out.mono ?_
        rintro e w1 ⟨rfl, ⟨hq, fat1, what1, hr1⟩, hf1⟩
        have c2 : w1.cell? ⟨g, 2, none⟩ = some (.int .i64 0) := hr1.bk.cell 2
        go_wp2
        go_ret
        exact ⟨rfl, ⟨hq, fat1, what1, hr1⟩, hf1⟩
end Go.Proofs.YtblfnbmgijppmaaDoor
