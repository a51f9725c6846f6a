/- append onto a row of bools of the call's own. -/
import Derived.Test.YtiinkjplhihdaaaOf
import Derived.Maps.AppendAt
namespace Go.Proofs.Ytiinkjplhihdaaa
open Go.RowKit

def bl (f : Nat → Bool) (n : Nat) : List Value := (List.range n).map fun j => .bool (f j)
def app (f : Nat → Bool) (n : Nat) (g : Nat → Bool) : Nat → Bool := fun j => if j < n then f j else g (j - n)
theorem bl_len (f : Nat → Bool) (n : Nat) : (bl f n).length = n := by simp [bl]
theorem bl_at {f : Nat → Bool} {n j : Nat} (h : j < n) : (bl f n)[j]? = some (.bool (f j)) := by simp [bl, h]
theorem bl_app (f g : Nat → Bool) (n m : Nat) : bl f n ++ bl g m = bl (app f n g) (n + m) := by
  apply List.ext_getElem?
  intro j
  by_cases h : j < n
  · rw [List.getElem?_append_left (by rw [bl_len]; exact h), bl_at h, bl_at (by omega)]
    simp [app, h]
  · rw [List.getElem?_append_right (by rw [bl_len]; omega), bl_len]
    by_cases h2 : j < n + m
    · rw [bl_at (by omega), bl_at h2]
      simp [app, h]
    · rw [List.getElem?_eq_none (by rw [bl_len]; omega), List.getElem?_eq_none (by rw [bl_len]; omega)]
/-- A row of bools of the call's own, at the head of block q. -/
structure OB (w : World) (e : TypeId) (q n c : Nat) (f : Nat → Bool) : Prop where
  row : w.ownsRow 0 e 1 (.slice (some ⟨q, 0, none⟩) n c) n (bl f n)
theorem OB.bk {w : World} {e : TypeId} {q n c : Nat} {f : Nat → Bool} (h : OB w e q n c f) : ∃ cur, Bk w q e cur ∧ ∀ j, j < n → cur[j]? = some (.bool (f j)) := by
  rcases h.row.2 with ⟨hv, _⟩ | ⟨g, cap, cur, hv, _, hg, _⟩
  · cases hv
  · injection hv with ha _ _
    injection ha with ha
    injection ha with hq _ _
    subst hq
    refine ⟨cur, hg, fun j hj => ?_⟩
    have := World.ownsRow.cells h.row (g := q) rfl j (.bool (f j)) (bl_at hj)
    rw [add_at, Nat.zero_add] at this
    rw [← (show Bk w q e cur from hg).cell j]
    exact this
theorem OB.rd {w : World} {e : TypeId} {q n c : Nat} {f : Nat → Bool} (h : OB w e q n c f) : RdF w (some ⟨q, 0, none⟩) n (fun j => .bool (f j)) := fun _ => by
  obtain ⟨cur, hk, hc⟩ := h.bk
  exact ⟨q, 0, rfl, fun j hj => by rw [Nat.zero_add]; exact (hk.cell j).trans (hc j hj)⟩

section
variable {P : Program} (w : World)
theorem run_appB {t e : TypeId} (ht : P.underlying t = some (.slice e)) (hi : (P.info? e).map (fun i => (i.zero, i.size, i.bytes)) = some (some (.bool false), 1, 1)) (ty : TypeId) {q0 n c0 : Nat} {f : Nat → Bool}
    (hown : OB w e q0 n c0 f) (b o m c : Nat) (g : Nat → Bool) (hr : ∀ j, j < m → w.cell? ⟨b, o + j, none⟩ = some (.bool (g j))) (hm : 0 < m) (hlen : n + m ≤ 1000) :
    ∃ q c' w', (Builtin.append_ #[t, t] ty #[.slice (some ⟨q0, 0, none⟩) n c0, .slice (some ⟨b, o, none⟩) m c]).run P w = .ok (.slice (some ⟨q, 0, none⟩) (n + m) c') w' ∧ OB w' e q (n + m) c' (app f n g) ∧ Fr (fun k => k = q0) w w' ∧ (q = q0 ∨ q = w.heap.size) := by
  obtain ⟨i, hi, hz, hsz, hby⟩ := info_parts hi
  obtain ⟨v', w', h1, h2, h3, _, h5⟩ := run_append_own_at (P := P) w 0 t ty e i (.bool false) 1 1 ht hi hz hsz hby rfl (by decide) (.slice (some ⟨q0, 0, none⟩) n c0) n (bl f n) hown.row ⟨b, o, none⟩ m c (bl g m) (by rw [bl_len]; omega)
    (fun j u hu => by
      have hj : j < m := by have := (List.getElem?_eq_some_iff.1 hu).1; rwa [bl_len] at this
      rw [add_at, hr j hj]
      rw [bl_at hj] at hu
      exact hu)
    (fun u hu => by simp [bl] at hu; obtain ⟨j, _, rfl⟩ := hu; rfl) (by unfold maxLen; omega) (by omega) (Nat.zero_le _)
  rw [bl_app] at h2
  rcases h2.2 with ⟨hv, h0⟩ | ⟨q, cap, cur, rfl, _⟩
  · omega
  · refine ⟨q, cap, w', h1, ⟨h2⟩, (Fr.of_grown h3).mono (fun x _ e => by injection e with e; exact e.symm), ?_⟩
    rcases h5 with e | e
    · injection e with e; exact .inl e
    · injection e with e; exact .inr e

theorem wpList_appB {ops : Array Oper} {rest : List Oper} {ox : Oper} {a : Act} {Q : Exit → Act → World → Prop} (hgd : ox.guard = none) (s x : Operand) {t e : TypeId} (ht : P.underlying t = some (.slice e))
    (hi : (P.info? e).map (fun i => (i.zero, i.size, i.bytes)) = some (some (.bool false), 1, 1))
    (ho : ox.op = .call { callee := .builtin .append, args := #[s, x], argTypes := #[t, t] }) {q0 n c0 : Nat} {f : Nat → Bool} (hs : a.eval s = .slice (some ⟨q0, 0, none⟩) n c0) (hown : OB w e q0 n c0 f)
    (b o m c : Nat) (g : Nat → Bool) (hx : a.eval x = .slice (some ⟨b, o, none⟩) m c) (hr : ∀ j, j < m → w.cell? ⟨b, o + j, none⟩ = some (.bool (g j))) (hm : 0 < m) (hlen : n + m ≤ 1000)
    (h : ∀ q c' w', OB w' e q (n + m) c' (app f n g) → Fr (fun k => k = q0) w w' → (q = q0 ∨ q = w.heap.size) → wpList P ops Q rest (a.put ox.dst (.slice (some ⟨q, 0, none⟩) (n + m) c')) w') :
    wpList P ops Q (ox :: rest) a w := by
  refine wpList_plain hgd fun K hK => ?_
  obtain ⟨q, c', w', hr, h2, h3, h4⟩ := run_appB (P := P) w ht hi ox.type hown b o m c g hr hm hlen
  unfold Oper.wp execOp
  simp only [ho, resolve, invoke, builtin, Sem.run_bind, Sem.run_pure, Result.andThen_ok, List.map_toArray, List.map_cons, List.map_nil, hs, hx, hr]
  exact hK _ _ (h q c' w' h2 h3 h4)
end
theorem OB.new (w : World) (e : TypeId) (f : Nat → Bool) : OB (w.alloc (.cells #[] e)) e w.heap.size 0 0 f := ⟨World.ownsRow_made w #[] 0 (Nat.zero_le _) (by decide) rfl⟩
theorem Try.infoB : (Try.prog.info? 4).map (fun i => (i.zero, i.size, i.bytes)) = some (some (.bool false), 1, 1) := by kernel_rfl
end Go.Proofs.Ytiinkjplhihdaaa
