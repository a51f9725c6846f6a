/- match: Clone, Values, row: a list's tasks as a sequence. -/
import Derived.RangeFuncNested
import Derived.RangeFuncBound
import Derived.RangeFuncCalls
import Derived.RangeFuncLeaves
import Derived.Shelf.Abstract
import Derived.Shelf.RegionOpen
import Derived.WalkKit
import Derived.OwnWalkIn
import Derived.TacticsInMore
import Derived.LoopNIn
import Derived.LoopIn
import Derived.IntWalk
import Derived.Test.YtkinbcmnfpkncaaRf
namespace Go.Proofs.Ytkinbcmnfpkncaa
open Go.RowKit Go.Maps Go.Shelf

theorem pcs_one (r : List (Nat × Int)) : ∀ u ∈ pcs IV r, u.oneCell' = true := by
  intro u hu
  obtain ⟨p, _, hp⟩ := List.mem_flatMap.1 hu
  simp at hp
  rcases hp with rfl | rfl <;> rfl
theorem rowZero (w : World) : Row (w.alloc (.cells #[] 61)) 61 2 (.slice (some ⟨w.heap.size, 0, none⟩) 0 0) 0 [] :=
  ⟨rfl, .inr ⟨w.heap.size, 0, 0, #[], rfl, Bk.new _ _ _, Nat.le_refl _, by simp [maxLen], by simp, fun j hj => by simp at hj⟩⟩
/-- A row that is new since w. -/
def NewP (w w' : World) (v : Value) (r : List (Nat × Int)) : Prop := Row w' 61 2 v r.length (pcs IV r) ∧ (∀ k, v.ownBlock = some k → w.heap.size ≤ k) ∧ Fr (fun _ => False) w w'
set_option maxRecDepth 100000 in
set_option maxHeartbeats 1000000 in
theorem clone_P {w : World} {v : Value} {r : List (Nat × Int)} (h : Row w 61 2 v r.length (pcs IV r)) (hn : r.length ≤ 1048576) :
    Calls Try.prog 43 #[v] w fun e w' => ∃ v', e = .returned v' ∧ NewP w w' v' r := by
  rcases h.2 with ⟨rfl, h0⟩ | ⟨b, off, c, cur, rfl, hb, hnc, hcm, -⟩
  · have hr : r = [] := List.eq_nil_of_length_eq_zero h0
    subst hr
    have hq := fun W => Lib.run_eql_slice_nil (P := Try.prog) W 59 61 none 0 0 0 0 Try.underlying59
    go_enter Try.func43, Try.ntmps43
    go_wp2
    go_ret
    exact ⟨_, rfl, Row.nil _ _ _, fun k hk => by simp [Value.ownBlock] at hk, Fr.refl _ _⟩
  · have hq := fun W => Lib.run_eql_slice_nil (P := Try.prog) W 59 61 (some ⟨b, off, none⟩) r.length c 0 0 Try.underlying59
    have hf0 : Fr (fun _ => False) w (w.alloc (.cells #[] 61)) := (Fr.refl _ _).alloc _
    go_enter Try.func43, Try.ntmps43
    go_wp2_with (at_builtin; (refine wpList_appendR te_I rfl (.tmp 5) (.tmp 6) rfl _ 0 [] rfl (rowZero w) _ r.length (pcs IV r) rfl ((h.fr hf0 (fun _ _ h => h)).sl) (pcs_one r) (by simp only [maxLen]; omega) (by omega) ?_; intro A1 c1 w1 ho1 hf1 hm1))
    go_ret
    simp only [Nat.zero_add, List.nil_append] at ho1 hm1 ⊢
    refine ⟨.slice A1 r.length c1, rfl, ho1, fun k hk => ?_, hf0.trans hf1 (fun x hx e => by injection e with e; have e' : w.heap.size = x := e; omega)⟩
    rcases hm1 with e | ⟨y, e, hy⟩
    · rw [e] at hk; injection hk with hk; exact Nat.le_of_eq hk
    · rw [e] at hk; injection hk with hk; have := hf0.size; omega

/-- What row answers: the sequence over a row that is its own. -/
def SeqV (k : Nat) : Value := .func (.func 51) #[] #[.pointer (some ⟨k, 0, none⟩)]
/-- A box that holds a row that reads so. -/
structure SeqM (w w' : World) (k : Nat) (v : Value) (r : List (Nat × Int)) : Prop where
  box : Bk w' k 59 #[v]
  new : w.heap.size ≤ k
  row : NewP w w' v r
set_option maxRecDepth 100000 in
set_option maxHeartbeats 1000000 in
theorem row_I {w : World} {g br : Nat} {F : Nat → Prop} {t : MT Int} {D : DV} (h : MtM 55 61 IV w g br F t D) (ok : t.ok) {c : Int} (hc : I64 c) :
    Calls Try.prog 31 #[.pointer (some ⟨g, 0, none⟩), .int .i64 c] w fun e w' => ∃ k v, e = .returned (SeqV k) ∧ SeqM w w' k v (t.row c) := by
  have q2 : w.cell? ⟨g, 2, none⟩ = some (.map (some br)) := h.blk.cell 2
  obtain ⟨v, hv, hl⟩ := h.look tM_I z_I hc
  have hlk := hl w h.mr
  have CC := Lib.hid (clone_P hv.row (by have := ok.len c; have := ok.m2; omega))
  obtain ⟨A, k, rfl, hk, -, hA⟩ := hv.row.form
  clear h hv hl ok hk hA
  generalize t.row c = r at *
  go_enter Try.func31, Try.ntmps31
  go_wp2_with fail
  refine CC.out.mono ?_; rintro e w1 ⟨v', rfl, h1, h2, h3⟩
  have H1 := Lib.hid h1
  have H2 := Lib.hid h2
  have H3 := Lib.hid h3
  obtain ⟨A', k', rfl, -, -, -⟩ := h1.form
  have CV : Hid (Calls Try.prog 42 #[.slice A' r.length k'] w1 fun e w2 => e = .returned (SeqV w1.heap.size) ∧ w2 = w1.alloc (.cells #[.slice A' r.length k'] 59)) := Lib.hid (by
    clear H1 H2 H3 CC h1 h2 h3 hlk
    unfold SeqV
    go_enter Try.func42, Try.ntmps42
    go_wp2
    go_ret
    exact ⟨rfl, rfl⟩)
  clear h1 h2 h3 CC hlk q2
  go_wp2_with fail
  refine CV.out.mono ?_; rintro e w2 ⟨rfl, rfl⟩
  clear CV
  unfold SeqV
  go_wp2
  go_ret
  have hf : Fr (fun _ => False) w1 (w1.alloc (.cells #[.slice A' r.length k'] 59)) := (Fr.refl _ _).alloc _
  exact ⟨_, _, rfl, Bk.new _ _ _, H3.out.size, H1.out.fr0 hf, H2.out, H3.out.trans hf (fun _ _ h => h)⟩
end Go.Proofs.Ytkinbcmnfpkncaa
