/- chunk: broken. -/
import Derived.Test.YtacafjbbdklleaaDoorCi
import Derived.Test.YtacafjbbdklleaaDoorAc
namespace Go.Proofs.YtacafjbbdklleaaDoor
open Go.RowKit

/-- What broken answers to an Errno (0: none). -/
def BrkV (id k : Int) (w w' : World) (v : Value) : Prop := if k = 0 then v = .nilIface else ∃ g, v = .iface 67 (.pointer (some ⟨g, 0, none⟩)) ∧ Bk w' g 71 #[.int .i64 id, .iface 63 (.int .i64 k)] ∧ w.heap.size ≤ g
theorem BrkV.fr {S : Nat → Prop} {id k : Int} {w w' w2 : World} {v : Value} (h : BrkV id k w w' v) (hf : Fr S w' w2) (hS : ∀ x, S x → x < w'.heap.size → ∃ t cs, Bk w' x t cs ∧ t ≠ 71) : BrkV id k w w2 v := by
  unfold BrkV at h ⊢
  by_cases hk : k = 0
  · rw [if_pos hk] at h ⊢; exact h
  · rw [if_neg hk] at h ⊢
    obtain ⟨g, e, hb, hl⟩ := h
    refine ⟨g, e, hb.fr hf (fun hs => ?_), hl⟩
    obtain ⟨t, cs, hk, hne⟩ := hS g hs hb.lt
    exact Bk.ne hk hb hne rfl
theorem BrkV.fr0 {id k : Int} {w w' w2 : World} {v : Value} (h : BrkV id k w w' v) (hf : Fr (fun _ => False) w' w2) : BrkV id k w w2 v := h.fr hf (fun _ h => h.elim)
theorem BrkV.less {id k : Int} {w0 w w' : World} {v : Value} (h : BrkV id k w w' v) (hl : w0.heap.size ≤ w.heap.size) : BrkV id k w0 w' v := by
  unfold BrkV at h ⊢
  by_cases hk : k = 0
  · rw [if_pos hk] at h ⊢; exact h
  · rw [if_neg hk] at h ⊢
    obtain ⟨g, e, hb, h2⟩ := h
    exact ⟨g, e, hb, by omega⟩

set_option maxRecDepth 100000 in
set_option maxHeartbeats 4000000 in
theorem broken_any (id k : Int) (w : World) (hE : ErrT w) :
    Calls Tryd.prog 21 #[.int .i64 id, .iface 63 (.int .i64 k)] w fun e w' => ∃ v, e = .returned v ∧ BrkV id k w w' v ∧ Fr (fun _ => False) w w' := by
  obtain ⟨b, hb⟩ : ∃ b, w.heap.size = b := ⟨_, rfl⟩
  obtain ⟨W, hW⟩ : ∃ W, w.alloc (.cells #[.int .i64 0] 63) = W := ⟨_, rfl⟩
  have K1 : Bk W b 63 #[.int .i64 0] := by rw [← hW, ← hb]; exact Bk.new _ _ _
  have FW : Fr (fun _ => False) w W := by rw [← hW]; exact (Fr.refl _ _).alloc _
  have CA := Lib.hid (as_errno ⟨b, 0, none⟩ k (.int .i64 0) W (hE.fr FW (fun h => h)) (K1.cell 0) (K1.frozen 0))
  have HB := Lib.hid hb
  have HFW := Lib.hid FW
  clear K1 FW hE
  by_cases hk : k = 0
  · subst hk
    go_enter Tryd.func21, Tryd.ntmps21
    go_wp2_with fail
    clear hW hb
    refine CA.out.mono ?_; rintro e w1 ⟨rfl, f1, c1⟩
    have HF1 := Lib.hid f1
    clear f1 CA
    go_wp2
    go_ret
    refine ⟨_, rfl, (show BrkV id 0 w w1 .nilIface by unfold BrkV; rw [if_pos rfl]), ?_⟩
    exact HFW.out.trans HF1.out (fun x hx e => by have := HB.out; have e' : x = b := e; omega)
  · have d1 : (k == 0) = false := by simp [hk]
    have HKK := Lib.hid hk
    clear hk
    go_enter Tryd.func21, Tryd.ntmps21
    go_wp2_with fail
    clear hW hb
    refine CA.out.mono ?_; rintro e w1 ⟨rfl, f1, c1⟩
    have HF1 := Lib.hid f1
    clear f1 CA
    go_wp2
    go_ret
    refine ⟨_, rfl, ?_, ?_⟩
    · unfold BrkV
      rw [if_neg HKK.out]
      refine ⟨w1.heap.size, rfl, Bk.new _ _ _, ?_⟩
      have h1 := HFW.out.size; have h2 := HF1.out.size; omega
    · exact (HFW.out.trans HF1.out (fun x hx e => by have := HB.out; have e' : x = b := e; omega)).trans ((Fr.refl (fun _ => False) _).alloc _) (fun _ _ h => h)
end Go.Proofs.YtacafjbbdklleaaDoor
