/- The codec's writer, on: bytes.Clone, Bytes, Done. -/
import Derived.Test.YtkinbcmnfpkncaaDoorCa
namespace Go.Proofs.YtkinbcmnfpkncaaDoor
open Go.RowKit

theorem foldN_nat (n : Nat) : foldN (n : Int) = 2 * n := by unfold foldN; rw [if_pos (by omega)]; omega

/-- A slice value that reads as xs, and lies apart from what S holds. -/
def Apart (S : Nat → Prop) (A : Option Addr) (n : Nat) : Prop := ∀ ad, A = some ad → 0 < n → ¬ S ad.block

set_option maxRecDepth 100000 in
set_option maxHeartbeats 1000000 in
theorem clone_any (A : Option Addr) (n c : Nat) (xs : List UInt8) (w : World) (hr : Rd8 w A xs) (hn : xs.length = n) (hb : n ≤ 140737488355328) :
    Calls Tryd.prog 60 #[.slice A n c] w fun e w' => ∃ A' c', e = .returned (.slice A' n c') ∧ Own8 w' 5 (.slice A' n c') xs ∧ Fresh w w' (.slice A' n c') := by
  rcases A with _ | ad
  · have h0 : xs = [] := by
      rcases Nat.eq_zero_or_pos xs.length with h0 | h0
      · exact List.eq_nil_of_length_eq_zero h0
      · obtain ⟨ad, h, _⟩ := hr h0; cases h
    subst h0
    simp at hn
    subst hn
    have hq := fun W => Lib.run_eql_slice_nil (P := Tryd.prog) W 34 5 none 0 c 0 0 Tryd.underlying34
    go_enter Tryd.func60, Tryd.ntmps60
    go_wp2
    go_ret
    exact ⟨none, 0, rfl, Own8.nil _ _, Fresh.nil _ _ (Fr.refl _ _)⟩
  · have hq := fun W => Lib.run_eql_slice_nil (P := Tryd.prog) W 34 5 (some ad) n c 0 0 Tryd.underlying34
    go_enter Tryd.func60, Tryd.ntmps60
    have hf0 : Fr (fun _ => False) w (w.alloc (.cells #[] 5)) := (Fr.refl _ _).alloc _
    go_wp2_with (at_builtin; (refine wpList_append8s _ rfl (.tmp 5) (.tmp 6) Tryd.t8 rfl _ [] rfl (Own8.fresh w _ #[] 0 rfl (by decide)) (some ad) n c xs rfl hn (hr.fr hf0 (fun _ _ _ h => h)) (by simp; omega) ?_; intro A1 c1 w1 ho1 hf1 hm1))
    go_ret
    simp only [List.length_nil, Nat.zero_add, List.nil_append, hn] at ho1 hm1 ⊢
    exact ⟨A1, c1, rfl, ho1, (Fresh.new w _ 0 0).step hf1 hm1⟩

end Go.Proofs.YtkinbcmnfpkncaaDoor
