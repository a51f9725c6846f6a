/- Rows of decisions of the call's own. -/
import Derived.Test.YtblfnbmgijppmaaDoorKe
import Derived.Test.YtblfnbmgijppmaaDoorFe
namespace Go.Proofs.YtblfnbmgijppmaaDoor
open Go.RowKit

theorem Tryd.infoDec : (Tryd.prog.info? 30).map (fun i => (i.zero, i.size, i.bytes)) = some (some (.agg #[.int .i64 0, .int .i64 0, .int .i64 0, .int .i64 0, .slice none 0 0]), 5, 56) := by kernel_rfl
def dcells (l : List DI) : List Value := l.flatMap DI.cells
theorem dcells_at {l : List DI} {i j : Nat} (h : i < l.length) (hj : j < 5) : (dcells l)[i * 5 + j]? = (l.getD i default).cells[j]? := by
  induction l generalizing i with
  | nil => simp at h
  | cons p l ih =>
    unfold dcells at *
    rw [List.flatMap_cons]
    cases i with
    | zero => rw [List.getElem?_append_left (by simp [DI.cells]; omega)]; simp
    | succ i =>
      have h1 := ih (i := i) (by simpa using h)
      rw [List.getElem?_append_right (by simp [DI.cells]; omega)]
      simp only [DI.cells, List.length_cons, List.length_nil]
      rw [show (i + 1) * 5 + j - (0 + 1 + 1 + 1 + 1 + 1) = i * 5 + j by omega]
      simpa [List.getD, DI.cells] using h1
theorem dcells_one (l : List DI) : ∀ u ∈ dcells l, u.oneCell' = true := by
  intro u hu
  obtain ⟨p, _, hp⟩ := List.mem_flatMap.1 hu
  simp [DI.cells] at hp
  rcases hp with rfl | rfl | rfl | rfl | rfl <;> rfl
/-- A row of decisions of the call's own. -/
def OwnD (w : World) (v : Value) (l : List DI) : Prop := w.ownsRow 0 30 5 v l.length (dcells l)
theorem OwnD.nil (w : World) : OwnD w (.slice none 0 0) [] := World.ownsRow_nil w 0 30 5
theorem OwnD.lt {w : World} {v : Value} {l : List DI} (h : OwnD w v l) {k : Nat} (hk : v.ownBlock = some k) : k < w.heap.size := (World.ownsRow.lt h k hk).2
theorem OwnD.fr {S : Nat → Prop} {w w' : World} {v : Value} {l : List DI} (h : OwnD w v l) (hb : Fr S w w') (hS : ∀ k, v.ownBlock = some k → ¬ S k) : OwnD w' v l := by
  refine ⟨h.1, ?_⟩
  rcases h.2 with hn | ⟨g, cap, cur, rfl, hb0, hgg, rest⟩
  · exact .inl hn
  · refine .inr ⟨g, cap, cur, rfl, hb0, ?_, rest⟩
    rw [hb.block g (Array.getElem?_eq_some_iff.1 hgg).1 (hS g rfl)]
    exact hgg
theorem OwnD.ne {w : World} {t : TypeId} {v : Value} {l : List DI} {g : Nat} {cs : Array Value} (h : OwnD w v l) (hg : Bk w g t cs) (hne : 30 ≠ t) : v.ownBlock ≠ some g := by
  rcases h.2 with ⟨rfl, _⟩ | ⟨g', cap, cur, rfl, _, hh, _⟩
  · simp [Value.ownBlock]
  · intro he
    have : g' = g := by simpa [Value.ownBlock] using he
    subst this
    exact Bk.ne (t := 30) hh hg hne rfl
theorem OwnD.bk {w : World} {v : Value} {l : List DI} (h : OwnD w v l) {k : Nat} (hk : v.ownBlock = some k) : ∃ cs, Bk w k 30 cs := by
  rcases h.2 with ⟨rfl, _⟩ | ⟨g', cap, cur, rfl, _, hh, _⟩
  · simp [Value.ownBlock] at hk
  · have : g' = k := by simpa [Value.ownBlock] using hk
    subst this; exact ⟨_, hh⟩
theorem OwnD.form {w : World} {v : Value} {l : List DI} (h : OwnD w v l) : ∃ A c, v = .slice A l.length c ∧ (0 < l.length → ∃ lb, A = some ⟨lb, 0, none⟩) := by
  rcases h.2 with ⟨rfl, h0⟩ | ⟨g, cap, cur, rfl, _⟩
  · exact ⟨none, 0, by rw [h0], fun h => by omega⟩
  · exact ⟨_, cap, rfl, fun _ => ⟨g, rfl⟩⟩
theorem OwnD.dsAt {w : World} {A : Option Addr} {n c : Nat} {l : List DI} (h : OwnD w (.slice A n c) l) {P : Nat → Prop} (hP : ∀ k, (Value.slice A n c).ownBlock = some k → P k)
    (hd : ∀ x ∈ l, Own8 w 5 (.slice x.A x.d.bs.length x.c) x.d.bs ∧ ∀ k, (Value.slice x.A x.d.bs.length x.c).ownBlock = some k → P k) : DsAt w P A l := fun h0 => by
  obtain ⟨A', c', e, hA⟩ := h.form
  injection e with e1 e2 e3
  subst e1 e2 e3
  obtain ⟨lb, rfl⟩ := hA h0
  refine ⟨lb, 0, rfl, fun i hi => ?_⟩
  have hadd : ∀ j, (⟨lb, 0, none⟩ : Addr).add j = ⟨lb, j, none⟩ := fun j => by unfold Addr.add; split <;> simp_all
  have cell : ∀ j, j < 5 → ∀ u, l[i].cells[j]? = some u → w.cell? ⟨lb, i * 5 + j, none⟩ = some u := fun j hj u hu => by
    have h1 := World.ownsRow.cells h (g := lb) rfl (i * 5 + j) u (by rw [dcells_at hi hj, show l.getD i default = l[i] by simp [List.getD, hi]]; exact hu)
    rw [hadd] at h1; exact h1
  have hm := hd _ (List.getElem_mem hi)
  rw [Nat.zero_add]
  exact ⟨cell 0 (by omega) _ rfl, cell 1 (by omega) _ rfl, cell 2 (by omega) _ rfl, cell 3 (by omega) _ rfl, cell 4 (by omega) _ rfl, hm.1.rd, hP lb rfl, fun ad e _ => hm.2 ad.block (by rw [e]; rfl)⟩

/-- append(l, d): the decision lies in a new block of its own. -/
theorem appendD (o : Oper) (w : World) (v : Value) (l : List DI) (hown : OwnD w v l) (p : DI) (hlen : l.length ≤ 1048576) :
    ∃ lb c' w', (Builtin.append_ #[25, 25] o.type #[v, .slice (some ⟨w.heap.size, 0, none⟩) 1 1]).run Tryd.prog (w.alloc (.cells #[.int .i64 p.d.k, .int .i64 p.d.i, .int .i64 p.d.l, .int .i64 p.d.n, .slice p.A p.d.bs.length p.c] 30)) = .ok (.slice (some ⟨lb, 0, none⟩) (l.length + 1) c') w' ∧
      OwnD w' (.slice (some ⟨lb, 0, none⟩) (l.length + 1) c') (l ++ [p]) ∧ Fr (fun k => v.ownBlock = some k) w w' ∧ Moved w v (.slice (some ⟨lb, 0, none⟩) (l.length + 1) c') := by
  obtain ⟨i, hi, hz, hsz, hby⟩ := info_parts Tryd.infoDec
  have hf : Fr (fun _ => False) w (w.alloc (.cells #[.int .i64 p.d.k, .int .i64 p.d.i, .int .i64 p.d.l, .int .i64 p.d.n, .slice p.A p.d.bs.length p.c] 30)) := (Fr.refl _ _).alloc _
  have hb : Bk (w.alloc (.cells #[.int .i64 p.d.k, .int .i64 p.d.i, .int .i64 p.d.l, .int .i64 p.d.n, .slice p.A p.d.bs.length p.c] 30)) w.heap.size 30 #[.int .i64 p.d.k, .int .i64 p.d.i, .int .i64 p.d.l, .int .i64 p.d.n, .slice p.A p.d.bs.length p.c] := Bk.new _ _ _
  obtain ⟨v', w', h1, h2, h3, _, h5⟩ := run_append_own_at (P := Tryd.prog) _ 0 25 o.type 30 i _ 5 56 Tryd.underlying25 hi hz hsz hby rfl (by decide) v l.length (dcells l) (hown.fr hf (fun _ _ h => h)) ⟨w.heap.size, 0, none⟩ 1 1 p.cells rfl
    (fun j u hu => by
      rw [add_at, Nat.zero_add, hb.cell j]
      simpa [DI.cells] using hu) (fun u hu => dcells_one [p] u (by simpa [dcells] using hu)) (by unfold maxLen; omega) (by omega) (Nat.zero_le _)
  have ho' : OwnD w' v' (l ++ [p]) := by unfold OwnD; simpa [dcells] using h2
  obtain ⟨A, c, hv, hA⟩ := ho'.form
  obtain ⟨lb, rfl⟩ := hA (by simp)
  subst hv
  simp only [List.length_append, List.length_singleton] at *
  exact ⟨lb, c, w', h1, ho', (hf.mono (fun _ _ h => h.elim)).trans (Fr.of_grown h3) (fun _ _ e => e), h5.imp id (fun e => ⟨_, e, by simp⟩)⟩
theorem stepOf_appendD {ops : Array Oper} {o : Oper} {a : Act} {w : World} {K' : Act → World → Prop} {Q : Exit → Act → World → Prop} (hgd : o.guard = none) (s x : Operand)
    (ho : o.op = .call { callee := .builtin .append, args := #[s, x], argTypes := #[25, 25] })
    (v : Value) (l : List DI) (hs : a.eval s = v) (hown : OwnD w v l) (p : DI) (hx : a.eval x = .slice (some ⟨w.heap.size, 0, none⟩) 1 1) (hlen : l.length ≤ 1048576)
    (h : ∀ lb c' w', OwnD w' (.slice (some ⟨lb, 0, none⟩) (l.length + 1) c') (l ++ [p]) → Fr (fun k => v.ownBlock = some k) w w' → Moved w v (.slice (some ⟨lb, 0, none⟩) (l.length + 1) c') → K' (a.put o.dst (.slice (some ⟨lb, 0, none⟩) (l.length + 1) c')) w') :
    if Region.wanted o (yielded ops a.tmps) = true then Oper.wp Tryd.prog o a (w.alloc (.cells #[.int .i64 p.d.k, .int .i64 p.d.i, .int .i64 p.d.l, .int .i64 p.d.n, .slice p.A p.d.bs.length p.c] 30)) K' Q else K' (a.put o.dst undef) (w.alloc (.cells #[.int .i64 p.d.k, .int .i64 p.d.i, .int .i64 p.d.l, .int .i64 p.d.n, .slice p.A p.d.bs.length p.c] 30)) := by
  rw [if_pos (by simp [Region.wanted, hgd])]
  obtain ⟨lb, c', w', h1, h2, h3, h4⟩ := appendD o w v l hown p hlen
  unfold Oper.wp execOp
  simp only [ho, resolve, invoke, builtin, Sem.run_bind, Sem.run_pure, Result.andThen_ok, List.map_toArray, List.map_cons, List.map_nil, hs, hx, h1]
  exact h lb c' w' h2 h3 h4
theorem wpList_appendD {ops : Array Oper} {rest : List Oper} {o : Oper} {a : Act} {w : World} {Q : Exit → Act → World → Prop} (hgd : o.guard = none) (s x : Operand)
    (ho : o.op = .call { callee := .builtin .append, args := #[s, x], argTypes := #[25, 25] })
    (v : Value) (l : List DI) (hs : a.eval s = v) (hown : OwnD w v l) (p : DI) (k0 : Nat) (hk0 : w.heap.size = k0) (hx : a.eval x = .slice (some ⟨k0, 0, none⟩) 1 1) (hlen : l.length ≤ 1048576)
    (h : ∀ lb c' w', OwnD w' (.slice (some ⟨lb, 0, none⟩) (l.length + 1) c') (l ++ [p]) → Fr (fun k => v.ownBlock = some k) w w' → Moved w v (.slice (some ⟨lb, 0, none⟩) (l.length + 1) c') → wpList Tryd.prog ops Q rest (a.put o.dst (.slice (some ⟨lb, 0, none⟩) (l.length + 1) c')) w') :
    wpList Tryd.prog ops Q (o :: rest) a (w.alloc (.cells #[.int .i64 p.d.k, .int .i64 p.d.i, .int .i64 p.d.l, .int .i64 p.d.n, .slice p.A p.d.bs.length p.c] 30)) := by
  subst hk0
  refine wpList_plain hgd fun K hK => ?_
  obtain ⟨lb, c', w', h1, h2, h3, h4⟩ := appendD o w v l hown p hlen
  unfold Oper.wp execOp
  simp only [ho, resolve, invoke, builtin, Sem.run_bind, Sem.run_pure, Result.andThen_ok, List.map_toArray, List.map_cons, List.map_nil, hs, hx, h1]
  exact hK _ _ (h lb c' w' h2 h3 h4)
end Go.Proofs.YtblfnbmgijppmaaDoor
