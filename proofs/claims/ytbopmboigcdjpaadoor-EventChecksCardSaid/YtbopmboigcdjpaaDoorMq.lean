/- event's laws: a row with one event more; what a closed history says. -/
import Derived.Test.YtbopmboigcdjpaaDoorMp
namespace Go.Proofs.YtbopmboigcdjpaaDoor
open Go.RowKit Go.Maps

theorem teV : TE Tryd.prog 22 47 7 72 (.agg #[.int .i64 0, .int .i64 0, .int .i64 0, .int .i64 0, .int .i64 0, .int .i64 0, .slice none 0 0]) := ⟨Tryd.underlying22, by kernel_rfl, rfl, by omega⟩
/-- A row that is new since w. -/
structure NewR (w w' : World) (v : Value) (n : Nat) (cs : List Value) : Prop where
  row : Row w' 47 7 v n cs
  fr : Fr (fun _ => False) w w'
  new : ∀ k, v.ownBlock = some k → w.heap.size ≤ k
theorem NewR.fr0 {w w' w2 : World} {v : Value} {n : Nat} {cs : List Value} (h : NewR w w' v n cs) (hf : Fr (fun _ => False) w' w2) : NewR w w2 v n cs := ⟨h.row.fr0 hf, h.fr.trans hf (fun _ _ h => h), h.new⟩
theorem NewR.step {w w1 w2 : World} {v v2 : Value} {n m : Nat} {cs ds : List Value} (h : NewR w w1 v n cs) (hr : Row w2 47 7 v2 m ds) (hf : Fr (fun g => v.ownBlock = some g) w1 w2) (hm : Moved w1 v v2) : NewR w w2 v2 m ds := by
  refine ⟨hr, h.fr.trans hf (fun x hx e => by have := h.new x e; omega), fun k hk => ?_⟩
  rcases hm with e | ⟨x, e, hx⟩
  · exact h.new k (e ▸ hk)
  · rw [e] at hk; injection hk with hk; have := h.fr.size; omega
abbrev O0 : Obj := .cells #[] 47
theorem row0 (w : World) : Row (w.alloc O0) 47 7 (.slice (some ⟨w.heap.size, 0, none⟩) 0 0) 0 [] :=
  ⟨by simp, .inr ⟨w.heap.size, 0, 0, #[], rfl, Bk.new _ _ _, Nat.le_refl _, by unfold maxLen; omega, by simp, fun j hj => by simp at hj⟩⟩
theorem newA (w : World) : NewR w (w.alloc O0).drew (.slice (some ⟨w.heap.size, 0, none⟩) 0 0) 0 [] :=
  ⟨(row0 w).fr0 ((Fr.refl _ _).drew), ((Fr.refl _ _).alloc _).drew, fun k hk => by have : w.heap.size = k := (by injection hk); omega⟩
theorem newB (w : World) (o : Obj) : NewR w ((w.alloc O0).alloc o).drew (.slice (some ⟨w.heap.size, 0, none⟩) 0 0) 0 [] :=
  ⟨(row0 w).fr0 (((Fr.refl _ _).alloc _).drew), (((Fr.refl _ _).alloc _).alloc _).drew, fun k hk => by have : w.heap.size = k := (by injection hk); omega⟩
theorem newC (w : World) (o : Obj) : NewR w ((w.alloc o).alloc O0).drew (.slice (some ⟨w.heap.size + 1, 0, none⟩) 0 0) 0 [] := by
  have h := row0 (w.alloc o)
  rw [show (w.alloc o).heap.size = w.heap.size + 1 by simp] at h
  exact ⟨h.fr0 ((Fr.refl _ _).drew), (((Fr.refl _ _).alloc _).alloc _).drew, fun k hk => by have : w.heap.size + 1 = k := (by injection hk); omega⟩
/-- One event in a new block. -/
theorem sl1 {w' : World} {g : Nat} (p : VL) (h : Bk w' g 47 p.cells.toArray) : Sl w' 7 (.slice (some ⟨g, 0, none⟩) 1 1) 1 p.cells :=
  Sl.at rfl rfl (fun j u hu => by rw [Nat.zero_add, h.cell]; simpa using hu)
theorem sl1c {w' : World} {g : Nat} {cs : List Value} (hl : cs.length = 7) (h : Bk w' g 47 cs.toArray) : Sl w' 7 (.slice (some ⟨g, 0, none⟩) 1 1) 1 cs :=
  Sl.at rfl (by rw [hl]) (fun j u hu => by rw [Nat.zero_add, h.cell]; simpa using hu)
theorem vlc_snoc (ps : List VL) (p : VL) : vlc ps ++ p.cells = vlc (ps ++ [p]) := by simp [vlc]
theorem evs_snoc (ps : List VL) (p : VL) : evs (ps ++ [p]) = evs ps ++ [p.e] := by simp [evs]
theorem vs_more {w w' : World} {A9 A : Option Addr} {n c9 : Nat} {ps : List VL} {p : VL} {F G : Nat → Prop} (hN : NewR w w' (.slice A9 (n + 1) c9) (n + 1) (vlc ps ++ p.cells)) (hV : Vs w A n ps F) (hp : RdV w G p) :
    Vs w' A9 (n + 1) (ps ++ [p]) (fun k => (Value.slice A9 (n + 1) c9).ownBlock = some k ∨ F k ∨ G k) := by
  refine ⟨by rw [List.length_append, hV.len]; rfl, fun _ => ?_, fun q hq => ?_⟩
  · obtain ⟨A', c', e, _, _, hA⟩ := hN.row.form
    obtain ⟨b, off, rfl⟩ := hA (by omega)
    injection e with e1 _ e3
    subst e1 e3
    exact ⟨b, off, rfl, .inl rfl, fun j u hu => hN.row.cell (by rw [vlc_snoc]; exact hu)⟩
  · rcases List.mem_append.1 hq with h | h
    · have h1 := hV.each q h
      exact ⟨h1.rd.fr hN.fr (fun _ _ _ h => h), h1.ok, fun ad e h0 => .inr (.inl (h1.inF ad e h0))⟩
    · simp at h; subst h
      exact ⟨hp.rd.fr hN.fr (fun _ _ _ h => h), hp.ok, fun ad e h0 => .inr (.inr (hp.inF ad e h0))⟩
/-- A history that can be, and one event more. -/
theorem check_more {l : List Ev} (h : Bo.new.check l = none) (e : Ev) : Bo.new.check (l ++ [e]) = if (bookOf l).misfit e ≠ 0 then some (l.length + 1, (bookOf l).misfit e) else none := by
  have hi := (hist_of h).inv
  rw [check_append, h, Option.none_or]
  show (bookOf l).check [e] = _
  unfold Bo.check
  rw [hi.cnt]
  split
  · rfl
  · rfl
theorem closed_of {l : List Ev} (h0 : statusL l ≠ 0) (h1 : statusL l ≠ 1) : (bookOf l).closed = true := by
  unfold statusL at h0 h1
  cases hl : l.getLast? with
  | none => rw [hl] at h0; exact absurd rfl h0
  | some e =>
    rw [hl] at h1
    simp only at h1
    obtain ⟨l', rfl⟩ := List.getLast?_eq_some_iff.1 hl
    have : (bookOf (l' ++ [e])).closed = closesK e.k := by unfold bookOf; rw [List.foldl_append]; rfl
    rw [this]
    unfold statusK at h1
    unfold closesK
    by_cases h : 19 ≤ e.k ∧ e.k ≤ 23
    · simp [h]
    · exfalso; apply h1
      rw [if_neg (by omega), if_neg (by omega), if_neg (by omega), if_neg (by omega), if_neg (by omega)]
theorem check_front {l : List Ev} (h : Bo.new.check l = none) (n : Nat) : Bo.new.check (l.take n) = none := by
  have := check_append (l.take n) (l.drop n) Bo.new
  rw [List.take_append_drop, h] at this
  cases hx : Bo.new.check (l.take n) with
  | none => rfl
  | some x => rw [hx] at this; cases this
theorem sameE_refl (e : Ev) : sameE e e = true := by simp [sameE]
theorem allE_refl (l m : List Ev) : ∀ n, (∀ k, k < n → l.getD k default = m.getD k default) → allE l m n = true
  | 0, _ => rfl
  | n + 1, h => by unfold allE; rw [allE_refl l m n (fun k hk => h k (by omega)), h n (by omega), sameE_refl]; rfl
theorem prefB_front (l : List Ev) (n : Nat) : prefB (l.take n) l = true := by
  unfold prefB
  rw [allE_refl _ _ _ (fun k hk => by
    rw [List.length_take] at hk
    simp [List.getD, List.getElem?_take, show k < n by omega])]
  simp [List.length_take]
  omega
end Go.Proofs.YtbopmboigcdjpaaDoor
