/- Rows of ints of the call's own; appends of one int. -/
import Derived.Test.YtkinbcmnfpkncaaMem
import Derived.Test.YtkinbcmnfpkncaaChecked
namespace Go.Proofs.Ytkinbcmnfpkncaa
open Go.RowKit

theorem Try.infoInt : (Try.prog.info? 3).map (fun i => (i.zero, i.size, i.bytes)) = some (some (.int .i64 0), 1, 8) := by kernel_rfl
def IV (x : Int) : Value := .int .i64 x
theorem IV_one (xs : List Int) : ∀ u ∈ xs.map IV, u.oneCell' = true := by
  intro u hu
  obtain ⟨b, _, rfl⟩ := List.mem_map.1 hu
  rfl
/-- A row of ints of the call's own. -/
def OwnI (w : World) (v : Value) (xs : List Int) : Prop := w.ownsRow 0 3 1 v xs.length (xs.map IV)
theorem OwnI.nil (w : World) : OwnI w (.slice none 0 0) [] := World.ownsRow_nil w 0 3 1
theorem OwnI.lt {w : World} {v : Value} {xs : List Int} (h : OwnI w v xs) {k : Nat} (hk : v.ownBlock = some k) : k < w.heap.size := (World.ownsRow.lt h k hk).2
theorem OwnI.fr {S : Nat → Prop} {w w' : World} {v : Value} {xs : List Int} (h : OwnI w v xs) (hb : Fr S w w') (hS : ∀ k, v.ownBlock = some k → ¬ S k) : OwnI w' v xs := by
  refine ⟨h.1, ?_⟩
  rcases h.2 with hn | ⟨g, cap, cur, rfl, hb0, hgg, rest⟩
  · exact .inl hn
  · refine .inr ⟨g, cap, cur, rfl, hb0, ?_, rest⟩
    rw [hb.block g (Array.getElem?_eq_some_iff.1 hgg).1 (hS g rfl)]
    exact hgg
theorem OwnI.ne {w : World} {t : TypeId} {v : Value} {xs : List Int} {g : Nat} {cs : Array Value} (h : OwnI w v xs) (hg : Bk w g t cs) (hne : 3 ≠ t) : v.ownBlock ≠ some g := by
  rcases h.2 with ⟨rfl, _⟩ | ⟨g', cap, cur, rfl, _, hh, _⟩
  · simp [Value.ownBlock]
  · intro he
    have : g' = g := by simpa [Value.ownBlock] using he
    subst this
    exact Bk.ne (t := 3) hh hg hne rfl
/-- What it is: nil, or a slice at the head of a block whose cells are known. -/
theorem OwnI.form {w : World} {v : Value} {xs : List Int} (h : OwnI w v xs) : (v = .slice none 0 0 ∧ xs = []) ∨ ∃ g cap cur, v = .slice (some ⟨g, 0, none⟩) xs.length cap ∧ xs.length ≤ cap ∧ cap ≤ maxLen ∧ Bk w g 3 cur ∧ ∀ j (hj : j < xs.length), cur[j]? = some (IV xs[j]) := by
  rcases h.2 with ⟨rfl, h0⟩ | ⟨g, cap, cur, rfl, _, hh, h1, h2, h3, h4⟩
  · exact .inl ⟨rfl, List.eq_nil_of_length_eq_zero h0⟩
  · refine .inr ⟨g, cap, cur, rfl, h1, h2, hh, fun j hj => ?_⟩
    have h5 := congrArg (fun l => l[j]?) h4
    simp only [Nat.mul_one, List.getElem?_take, if_pos hj, List.getElem?_map, List.getElem?_eq_getElem hj, Option.map_some, Array.getElem?_toList] at h5
    exact h5
theorem OwnI.cell {w : World} {xs : List Int} {g n cap : Nat} (h : OwnI w (.slice (some ⟨g, 0, none⟩) n cap) xs) (j : Nat) (hj : j < xs.length) : w.cell? ⟨g, j, none⟩ = some (IV xs[j]) := by
  have := World.ownsRow.cells h (g := g) rfl j (IV xs[j]) (by simp [hj])
  have hadd : (⟨g, 0, none⟩ : Addr).add j = ⟨g, j, none⟩ := by unfold Addr.add; split <;> simp_all
  rw [hadd] at this
  exact this

section
variable (w : World)
/-- append(s, x): the int lies in a new block of its own. -/
theorem wpList_appendI {ops : Array Oper} {rest : List Oper} {o : Oper} {a : Act} {Q : Exit → Act → World → Prop} (hgd : o.guard = none) (s x : Operand)
    (ho : o.op = .call { callee := .builtin .append, args := #[s, x], argTypes := #[43, 43] })
    (v : Value) (xs : List Int) (hs : a.eval s = v) (n : Int) (hown : OwnI w v xs) (hx : a.eval x = .slice (some ⟨w.heap.size, 0, none⟩) 1 1) (hlen : xs.length ≤ 17592186044415)
    (h : ∀ g' c' w', OwnI w' (.slice (some ⟨g', 0, none⟩) (xs.length + 1) c') (xs ++ [n]) → Fr (fun k => v.ownBlock = some k) w w' → Moved w v (.slice (some ⟨g', 0, none⟩) (xs.length + 1) c') → wpList Try.prog ops Q rest (a.put o.dst (.slice (some ⟨g', 0, none⟩) (xs.length + 1) c')) w') :
    wpList Try.prog ops Q (o :: rest) a (w.alloc (.cells #[.int .i64 n] 3)) := by
  obtain ⟨i0, hi, hz0, hz1, hz2⟩ := info_parts Try.infoInt
  have hf : Fr (fun _ => False) w (w.alloc (.cells #[.int .i64 n] 3)) := (Fr.refl _ _).alloc _
  have hown' : OwnI (w.alloc (.cells #[.int .i64 n] 3)) v xs := hown.fr hf (fun _ _ h => h)
  refine wpList_append_own_at (P := Try.prog) _ hgd s x 43 ho 0 3 i0 (.int .i64 0) 1 8 Try.underlying43 hi hz0 hz1 hz2 rfl (by decide) v xs.length (xs.map IV) hs hown' ⟨w.heap.size, 0, none⟩ 1 1 [.int .i64 n] hx rfl
    (fun j u hu => ?_) (fun u hu => ?_) (by unfold maxLen; omega) (by omega) (Nat.zero_le _) (fun v' w' h1 h2 h3 h4 => ?_)
  · have : j = 0 ∧ u = .int .i64 n := by
      match j with
      | 0 => simpa [eq_comm] using hu
      | j + 1 => simp at hu
    obtain ⟨rfl, rfl⟩ := this
    exact (Bk.new w 3 #[.int .i64 n]).cell 0
  · simp at hu; subst hu; rfl
  · have ho' : OwnI w' v' (xs ++ [n]) := by unfold OwnI; simpa [IV] using h1
    rcases ho'.form with ⟨_, h0⟩ | ⟨g, cap, cur, rfl, _, _, _, _⟩
    · simp at h0
    · simp only [List.length_append, List.length_singleton] at *
      refine h g cap w' ho' ((hf.mono (fun _ _ h => h.elim)).trans (Fr.of_grown h2) (fun _ _ e => e.symm ▸ rfl)) (h4.imp id (fun e => ⟨_, e, by simp⟩))
end
end Go.Proofs.Ytkinbcmnfpkncaa
