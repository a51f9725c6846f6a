/- Encode; members' bytes as a string; which voter comes next. -/
import Derived.Test.YtiinkjplhihdaaaOv
import Derived.Test.YtiinkjplhihdaaaOt
import Derived.Laws.BytesArg
import Derived.Deep.RegionHeld3
import Derived.StillTailTactics
namespace Go.Proofs.Ytiinkjplhihdaaa
open Go.RowKit

/-- An operation is taken first; the slot that it writes is named (else the frame grows by a layer a take). -/
theorem wpAnyH_takeD {P : Program} {ops : Array Oper} {Q : Exit → Go.Act → World → Prop} {md : Region.Mode} {S : World → Prop} {i : Nat} {oi : Oper} {v : Value} {fuel : Nat} {listed : Array Bool} {a : Go.Act} {w : World} (d : Option Tmp) (hd : oi.dst = d) (hi : ops[i]? = some oi)
    (hs : Region.noSelect ops = true) (hf : Region.free md ops listed i = true) (hr : (Region.ready md ops listed).contains i = true)
    (hQ : ∀ c a w, Q (.panic c) (a.put oi.dst v) w → Q (.panic c) a w) (hy : YieldsIf P ops S oi v a) (hS : S w)
    (h : wpAnyH P md ops Q S fuel (listed.setIfInBounds i true) (a.put d v) w) : wpAnyH P md ops Q S (fuel + 1) listed a w := by
  subst hd
  exact wpAnyH_take hi hs hf hr hQ hy hS h

/-- What must hold behind a code that never panics. -/
def noPanic (Q : Exit → Go.Act → World → Prop) : Exit → Go.Act → World → Prop
  | .panic _, _, _ => False
  | e, a, w => Q e a w
theorem noPanic_wp {P : Program} {c : Code} {Q : Exit → Go.Act → World → Prop} {a : Go.Act} {w : World} (h : c.wp P (noPanic Q) a w) : c.wp P Q a w := wp_mono h (fun e a w h => by cases e <;> first | exact h | exact h.elim)

set_option maxHeartbeats 4000000 in
theorem encode_any (m : Nat → Int) (w : World) :
    Calls Try.prog 23 #[mv m] w fun e w' => e = .returned (.slice (some ⟨w.heap.size, 0, none⟩) 9 9) ∧ w' = w.alloc (.cells (mcs m) 23) := by
  unfold mv mcs
  go_enter Try.func23, Try.ntmps23
  go_wp2
  go_ret
  exact ⟨rfl, rfl⟩
def sm (m : Nat → Int) : ByteArray := strOfNums ((List.range 9).map m)
theorem run_sm (w : World) (b : Nat) (m : Nat → Int) (h : Bx w b 0 m) : (convert 26 9 (.slice (some ⟨b, 0, none⟩) 9 9)).run Try.prog w = .ok (.string (sm m)) w := by
  rw [run_convert_bytes_arg w 26 _ Try.underlying26 Try.underlying5 b 0 9 9 ((List.range 9).map m) (by simp) (fun i hi => by
    rw [h i hi]
    simp [List.getD, hi]) 9 Try.underlying9]
  rfl
theorem encode_str (m : Nat → Int) (w : World) :
    Calls Try.prog 23 #[mv m] w fun e w' => ∃ q, e = .returned (.slice (some ⟨q, 0, none⟩) 9 9) ∧ Fr (fun _ => False) w w' ∧ (convert 26 9 (.slice (some ⟨q, 0, none⟩) 9 9)).run Try.prog w' = .ok (.string (sm m)) w' :=
  (encode_any m w).mono fun e w' ⟨he, hw⟩ => ⟨_, he, by rw [hw]; exact (Fr.refl _ _).alloc _, run_sm _ _ m (by rw [hw]; exact Bx.new w _ m)⟩

/-- The first voter from j on, or 9. -/
theorem hav_mono (m : Nat → Int) (r : Int) (j : Nat) : ∀ d, ∃ l, hav m r (j + d) = hav m r j ++ l
  | 0 => ⟨[], by simp⟩
  | d + 1 => by
    obtain ⟨l, e⟩ := hav_mono m r j d
    by_cases h : m (j + d) = r
    · exact ⟨l ++ [j + d], by rw [← Nat.add_assoc, hav_yes h, e, List.append_assoc]⟩
    · exact ⟨l, by rw [← Nat.add_assoc, hav_no h, e]⟩
theorem hav_pre (m : Nat → Int) (r : Int) {j k : Nat} (h : j ≤ k) : ∃ l, hav m r k = hav m r j ++ l := by
  have := hav_mono m r j (k - j)
  rwa [show j + (k - j) = k by omega] at this
theorem next_is {m : Nat → Int} {j q x k : Nat} (hq : hav m 1 q = hav m 1 j) (h1 : q = 9 ∨ m q = 1) (hk : k ≤ 9) (he : hav m 1 k = hav m 1 j ++ [x]) : q = x ∧ m q = 1 := by
  by_cases hle : k ≤ q
  · obtain ⟨l, e⟩ := hav_pre m 1 hle
    rw [hq, he] at e
    have := congrArg List.length e
    simp at this
  · rcases h1 with rfl | h1
    · omega
    · obtain ⟨l, e⟩ := hav_pre m 1 (show q + 1 ≤ k by omega)
      rw [hav_yes h1, hq, he, List.append_assoc] at e
      have e2 := List.append_cancel_left e
      cases l with
      | nil => simp at e2; exact ⟨e2.symm, h1⟩
      | cons a l => simp at e2
theorem next_no {m : Nat → Int} {j q x : Nat} (hq : hav m 1 q = hav m 1 j) (h1 : q = 9 ∨ m q = 1) (hx : q ≠ x) : ¬ ∃ k, k ≤ 9 ∧ hav m 1 j ++ [x] = hav m 1 k := fun ⟨k, hk, e⟩ => hx (next_is hq h1 hk e.symm).1
/-- Where all voters lie below j, none is from j on. -/
theorem none_past {m : Nat → Int} {j q : Nat} (h : hav m 1 9 = hav m 1 j) (hq : hav m 1 q = hav m 1 j) (h1 : q < 9) : ¬ m q = 1 := fun e => by
  obtain ⟨l, e2⟩ := hav_pre m 1 (show q + 1 ≤ 9 by omega)
  rw [hav_yes e, hq, h] at e2
  have := congrArg List.length e2
  simp at this
end Go.Proofs.Ytiinkjplhihdaaa
