/- slices.Clone of a run's events. -/
import Derived.Test.YtkinbcmnfpkncaaDoorXx
namespace Go.Proofs.YtkinbcmnfpkncaaDoor
open Go.RowKit Go.Maps

theorem wpList_appendW {P : Program} {w : World} {ops : Array Oper} {rest : List Oper} {o : Oper} {a : Go.Act} {Q : Exit → Go.Act → World → Prop} {t e : TypeId} {k by' : Nat} {z : Value} (hT : TE P t e k by' z) (hgd : o.guard = none) (s y : Operand)
    (ho : o.op = .call { callee := .builtin .append, args := #[s, y], argTypes := #[t, t] })
    (v : Value) (n : Nat) (cs : List Value) (hs : a.eval s = v) (h : Row w e k v n cs) (x : Value) (m : Nat) (xs : List Value) (hy : a.eval y = x) (hx : Sl w k x m xs) (h1 : ∀ u ∈ xs, u.oneCell' = true)
    (h63 : n + m ≤ maxLen) (hb : (n + m + (n + m) / 4 + 192) * by' ≤ 281474976710656)
    (hK : ∀ A' c' w', Row w' e k (.slice A' (n + m) c') (n + m) (cs ++ xs) → Fr (fun g => v.ownBlock = some g) w w' → Moved w v (.slice A' (n + m) c') → wpList P ops Q rest (a.put o.dst (.slice A' (n + m) c')) w') :
    wpList P ops Q (o :: rest) a w := by
  refine wpList_plain hgd fun K hK2 => ?_
  obtain ⟨v', w', hr, h2, h3, h4⟩ := run_appendW (P := P) hT o.type h hx h1 h63 hb
  obtain ⟨A', c', rfl, _⟩ := h2.form
  unfold Oper.wp execOp
  simp only [ho, resolve, invoke, builtin, Sem.run_bind, Sem.run_pure, Result.andThen_ok, List.map_toArray, List.map_cons, List.map_nil, hs, hy, hr]
  exact hK2 _ _ (hK A' c' w' h2 h3 h4)
theorem rowZero (w : World) : Row (w.alloc (.cells #[] 75)) 75 7 (.slice (some ⟨w.heap.size, 0, none⟩) 0 0) 0 [] :=
  ⟨rfl, .inr ⟨w.heap.size, 0, 0, #[], rfl, Bk.new _ _ _, Nat.le_refl _, by simp [maxLen], by simp, fun j hj => by simp at hj⟩⟩
set_option maxRecDepth 100000 in
set_option maxHeartbeats 1000000 in
theorem cloneEv_any {w : World} {b off n c : Nat} {ps : List VL} (h : OwnV w 75 (.slice (some ⟨b, off, none⟩) n c) ps) (hn : n ≤ 1048576) :
    Calls Tryd.prog 73 #[.slice (some ⟨b, off, none⟩) n c] w fun e w' => ∃ A' c', e = .returned (.slice A' n c') ∧ Row w' 75 7 (.slice A' n c') n (vlc ps) ∧ (∀ k, (Value.slice A' n c').ownBlock = some k → w.heap.size ≤ k) ∧ Fr (fun _ => False) w w' := by
  have hq := fun W => Lib.run_eql_slice_nil (P := Tryd.prog) W 63 75 (some ⟨b, off, none⟩) n c 0 0 Tryd.underlying63
  have hl := h.row.len
  subst hl
  have hf0 : Fr (fun _ => False) w (w.alloc (.cells #[] 75)) := (Fr.refl _ _).alloc _
  go_enter Tryd.func73, Tryd.ntmps73
  go_wp2_with (at_builtin; (refine wpList_appendW teVF rfl (.tmp 5) (.tmp 6) rfl _ 0 [] rfl (rowZero w) _ ps.length (vlc ps) rfl ((h.row.fr hf0 (fun _ _ h => h)).sl) (vlc_one ps) (by simp only [maxLen]; omega) (by omega) ?_; intro A1 c1 w1 ho1 hf1 hm1))
  go_ret
  simp only [Nat.zero_add, List.nil_append] at ho1 hm1 ⊢
  refine ⟨A1, c1, rfl, ho1, fun k hk => ?_, hf0.trans hf1 (fun x hx e => by injection e with e; have e' : w.heap.size = x := e; omega)⟩
  rcases hm1 with e | ⟨y, e, hy⟩
  · rw [e] at hk; injection hk with hk; exact Nat.le_of_eq hk
  · rw [e] at hk; injection hk with hk; have := hf0.size; omega
end Go.Proofs.YtkinbcmnfpkncaaDoor
