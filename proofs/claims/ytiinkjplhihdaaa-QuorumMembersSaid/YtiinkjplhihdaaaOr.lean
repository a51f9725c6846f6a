/- A region that draws its order within a round: walked once, in the order of the text, as outside of one. -/
import Derived.Test.YtiinkjplhihdaaaOg
import Derived.Lib.QuietBelowIn
namespace Go.Proofs.Ytiinkjplhihdaaa
open Go.RowKit Go.Sort

/-- No operation is a deferred call. -/
def plainOps (ops : Array Oper) : Bool := ops.all fun o => match o.op with | .defer _ => false | _ => true

theorem opIn_round {F : Fence} {l n : Nat} {P : Program} {o : Oper} {a : Act} {w : World} {K : Act → World → Prop} {Q : Exit → Act → World → Prop} (hro : F.round = none) (hd : ∀ c, o.op ≠ .defer c)
    (h : o.wpIn F n P a w K Q) : o.wpIn (F.inRound l) n P a w K Q := by
  unfold Oper.wpIn at *
  refine ⟨h.1, ?_⟩
  have e : o.semAt (F.inRound l).round a.eval = o.semAt F.round a.eval := by
    rw [hro]
    exact Oper.semAt_some l _ _ hd
  rw [e]
  exact h.2

theorem anyIn_round {F : Fence} {l n : Nat} {P : Program} {md : Region.Mode} {ops : Array Oper} {Q : Exit → Act → World → Prop} (hro : F.round = none) (hd : plainOps ops = true) :
    ∀ (fuel : Nat) (listed : Array Bool) (a : Act) (w : World), wpAnyIn F n P md ops Q fuel listed a w → wpAnyIn (F.inRound l) n P md ops Q fuel listed a w
  | 0, _, _, _, h => h
  | fuel + 1, listed, a, w, h => ⟨h.1, fun i hi => by
      have h2 := h.2 i hi
      unfold wpOpIn at *
      cases ho : ops[i]? with
      | none =>
        simp only [ho] at h2 ⊢
        exact anyIn_round hro hd fuel _ _ _ h2
      | some o =>
        simp only [ho] at h2 ⊢
        have hpl : ∀ c, o.op ≠ .defer c := fun c e => by
          have hm : o ∈ ops := Array.mem_of_getElem? ho
          have := (Array.all_eq_true_iff_forall_mem.1 hd) o hm
          simp [e] at this
        split
        · rename_i hw
          simp only [hw, if_true] at h2
          exact opIn_round hro hpl (Oper.wpIn_mono (fun a' w' h3 => anyIn_round hro hd fuel _ a' w' h3) h2)
        · rename_i hw
          simp only [hw] at h2
          exact ⟨h2.1, anyIn_round hro hd fuel _ _ _ h2.2⟩⟩

/-- As 'wpIn_region_quiet_below', within a round. -/
theorem region_round {F : Fence} {l n : Nat} {P : Program} {id : Nat} {Q : Exit → Act → World → Prop} {a : Act} {w : World} {ops : List Oper} (hro : F.round = none) (hm : P.follows .mixedOrders = true) (hB : Region.lexB .any ops.toArray = true) (hd : plainOps ops.toArray = true)
    (h : wpQuietIn F n P ops.toArray (fun w' => ∃ p : Regrown, w' = grow (redrawn w p.d) p.os) (fun a' => ∀ w', (∃ p : Regrown, w' = grow (redrawn w p.d) p.os) → Q .normal a' w') ops a) : (Code.region id ops.toArray true).wpIn (F.inRound l) n P Q a w := by
  simp only [Region.lexB, Bool.and_eq_true] at hB
  refine wpIn_region_any hm (anyIn_round hro hd _ _ _ _ ?_)
  have hC : (fun w' => ∃ p : Regrown, w' = grow (redrawn w p.d) p.os) { w with drawn := w.drawn + 1 } := ⟨⟨w.drawn + 1, #[]⟩, by rw [grow_empty]; rfl⟩
  refine wpAnyIn_of_quiet (C := fun w' => ∃ p : Regrown, w' = grow (redrawn w p.d) p.os) (Q := fun a' => ∀ w', (∃ p : Regrown, w' = grow (redrawn w p.d) p.os) → Q .normal a' w') hro (fun _ w' hw' h => h w' hw') _ _ _ _ hC ?_
  have := wpAnyQIn_lex (F := F) (n := n) (C := fun w' => ∃ p : Regrown, w' = grow (redrawn w p.d) p.os) (md := .any) hB.1 ops 0 (Array.replicate ops.toArray.size false) a (by simp) (by simpa using hB.2) h
  simpa using this
end Go.Proofs.Ytiinkjplhihdaaa
