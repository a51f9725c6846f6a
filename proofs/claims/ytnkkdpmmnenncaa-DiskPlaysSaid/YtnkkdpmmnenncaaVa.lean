/- The reference's disk in memory. -/
import Derived.Test.YtnkkdpmmnenncaaUv
namespace Go.Proofs.Ytnkkdpmmnenncaa
open Go.RowKit Go.Maps

theorem Try.infoPut : (Try.prog.info? 71).map (fun i => (i.zero, i.size, i.bytes)) = some (some (.agg #[.int .i64 0, .slice none 0 0]), 2, 32) := by kernel_rfl
/-- One pending write: its sector, its bytes, where they lie. -/
structure PI where
  x : Nat
  bs : List UInt8
  b : Nat
  c : Nat
instance : Inhabited PI := ⟨⟨0, [], 0, 0⟩⟩
def PI.pend (p : PI) : Pend := (p.x, p.bs)
def PI.cells (p : PI) : List Value := [.int .i64 (p.x : Int), .slice (some ⟨p.b, 0, none⟩) p.bs.length p.c]
def pcells (ps : List PI) : List Value := ps.flatMap PI.cells
theorem pcells_len (ps : List PI) : (pcells ps).length = ps.length * 2 := by
  induction ps with
  | nil => rfl
  | cons p ps ih => unfold pcells at *; rw [List.flatMap_cons, List.length_append, ih]; simp [PI.cells]; omega
theorem pcells_at {ps : List PI} {i : Nat} (h : i < ps.length) : (pcells ps)[i * 2]? = some (.int .i64 ((ps.getD i default).x : Int)) ∧ (pcells ps)[i * 2 + 1]? = some (.slice (some ⟨(ps.getD i default).b, 0, none⟩) (ps.getD i default).bs.length (ps.getD i default).c) := by
  induction ps generalizing i with
  | nil => simp at h
  | cons p ps ih =>
    unfold pcells at *
    rw [List.flatMap_cons]
    cases i with
    | zero => exact ⟨rfl, rfl⟩
    | succ i =>
      have h1 := ih (i := i) (by simpa using h)
      rw [show (i + 1) * 2 = i * 2 + 2 by omega]
      rw [List.getElem?_append_right (by simp [PI.cells]), List.getElem?_append_right (by simp [PI.cells])]
      simp only [PI.cells, List.length_cons, List.length_nil]
      rw [show i * 2 + 2 - 2 = i * 2 by omega, show i * 2 + 2 + 1 - 2 = i * 2 + 1 by omega]
      simpa [List.getD] using h1
theorem pcells_one (ps : List PI) : ∀ u ∈ pcells ps, u.oneCell' = true := by
  intro u hu
  obtain ⟨p, _, hp⟩ := List.mem_flatMap.1 hu
  simp [PI.cells] at hp
  rcases hp with rfl | rfl <;> rfl
theorem pi_at {ps : List PI} {i : Nat} (h : i < ps.length) : ps.getD i default ∈ ps := by
  rw [show ps.getD i default = ps[i] by simp [List.getD, h]]; exact List.getElem_mem h
theorem pend_at {ps : List PI} {i : Nat} (h : i < ps.length) : pAt (ps.map PI.pend) i = (ps.getD i default).pend := by
  rw [pAt_eq (by simpa using h)]; simp [List.getD, h]

/-- A row of pending writes of the call's own. -/
def OwnP (w : World) (v : Value) (ps : List PI) : Prop := w.ownsRow 0 71 2 v ps.length (pcells ps)
theorem OwnP.nil (w : World) : OwnP w (.slice none 0 0) [] := World.ownsRow_nil w 0 71 2
theorem OwnP.lt {w : World} {v : Value} {ps : List PI} (h : OwnP w v ps) {k : Nat} (hk : v.ownBlock = some k) : k < w.heap.size := (World.ownsRow.lt h k hk).2
theorem OwnP.fr {S : Nat → Prop} {w w' : World} {v : Value} {ps : List PI} (h : OwnP w v ps) (hb : Fr S w w') (hS : ∀ k, v.ownBlock = some k → ¬ S k) : OwnP w' v ps := by
  refine ⟨h.1, ?_⟩
  rcases h.2 with hn | ⟨g, cap, cur, rfl, hb0, hgg, rest⟩
  · exact .inl hn
  · refine .inr ⟨g, cap, cur, rfl, hb0, ?_, rest⟩
    rw [hb.block g (Array.getElem?_eq_some_iff.1 hgg).1 (hS g rfl)]
    exact hgg
theorem OwnP.ne {w : World} {t : TypeId} {v : Value} {ps : List PI} {g : Nat} {cs : Array Value} (h : OwnP w v ps) (hg : Bk w g t cs) (hne : 71 ≠ t) : v.ownBlock ≠ some g := by
  rcases h.2 with ⟨rfl, _⟩ | ⟨g', cap, cur, rfl, _, hh, _⟩
  · simp [Value.ownBlock]
  · intro he
    have : g' = g := by simpa [Value.ownBlock] using he
    subst this
    exact Bk.ne (t := 71) hh hg hne rfl
theorem OwnP.form {w : World} {v : Value} {ps : List PI} (h : OwnP w v ps) : ∃ A c, v = .slice A ps.length c ∧ (0 < ps.length → ∃ lb, A = some ⟨lb, 0, none⟩) := by
  rcases h.2 with ⟨rfl, h0⟩ | ⟨g, cap, cur, rfl, _⟩
  · exact ⟨none, 0, by rw [h0], fun h => by omega⟩
  · exact ⟨_, cap, rfl, fun _ => ⟨g, rfl⟩⟩
theorem OwnP.cell {w : World} {ps : List PI} {g n c : Nat} (h : OwnP w (.slice (some ⟨g, 0, none⟩) n c) ps) {i : Nat} (hi : i < ps.length) :
    w.cell? ⟨g, i * 2, none⟩ = some (.int .i64 ((ps.getD i default).x : Int)) ∧ w.cell? ⟨g, i * 2 + 1, none⟩ = some (.slice (some ⟨(ps.getD i default).b, 0, none⟩) (ps.getD i default).bs.length (ps.getD i default).c) := by
  have hadd : ∀ j, (⟨g, 0, none⟩ : Addr).add j = ⟨g, j, none⟩ := fun j => by unfold Addr.add; split <;> simp_all
  obtain ⟨h0, h1⟩ := pcells_at hi
  have a := World.ownsRow.cells h (g := g) rfl _ _ h0
  have b := World.ownsRow.cells h (g := g) rfl _ _ h1
  rw [hadd] at a b
  exact ⟨a, b⟩

/-- A row of bools of the call's own. -/
def OwnB (w : World) (v : Value) (xs : List Bool) : Prop := w.ownsRow 0 4 1 v xs.length (xs.map Value.bool)
theorem OwnB.lt {w : World} {v : Value} {xs : List Bool} (h : OwnB w v xs) {k : Nat} (hk : v.ownBlock = some k) : k < w.heap.size := (World.ownsRow.lt h k hk).2
theorem OwnB.fr {S : Nat → Prop} {w w' : World} {v : Value} {xs : List Bool} (h : OwnB w v xs) (hb : Fr S w w') (hS : ∀ k, v.ownBlock = some k → ¬ S k) : OwnB w' v xs := by
  refine ⟨h.1, ?_⟩
  rcases h.2 with hn | ⟨g, cap, cur, rfl, hb0, hgg, rest⟩
  · exact .inl hn
  · refine .inr ⟨g, cap, cur, rfl, hb0, ?_, rest⟩
    rw [hb.block g (Array.getElem?_eq_some_iff.1 hgg).1 (hS g rfl)]
    exact hgg
theorem OwnB.ne {w : World} {t : TypeId} {v : Value} {xs : List Bool} {g : Nat} {cs : Array Value} (h : OwnB w v xs) (hg : Bk w g t cs) (hne : 4 ≠ t) : v.ownBlock ≠ some g := by
  rcases h.2 with ⟨rfl, _⟩ | ⟨g', cap, cur, rfl, _, hh, _⟩
  · simp [Value.ownBlock]
  · intro he
    have : g' = g := by simpa [Value.ownBlock] using he
    subst this
    exact Bk.ne (t := 4) hh hg hne rfl

/-- Where the parts lie. -/
structure RL where
  bb : Nat
  LV : Value
  ps : List PI
  KV : Value
/-- All blocks that a reference's disk leans on. -/
def BL (s : DS) (g : Nat) (m : RL) (k : Nat) : Prop := k = g ∨ k = m.bb ∨ m.LV.ownBlock = some k ∨ (∃ p ∈ m.ps, p.b = k) ∨ (0 < s.left ∧ m.KV.ownBlock = some k)
def rcells (s : DS) (m : RL) : Array Value := #[.int .i64 (s.N : Int), .int .i64 (s.sz : Int), .slice (some ⟨m.bb, 0, none⟩) (s.N * s.sz) (s.N * s.sz), m.LV, .bool s.off, .int .i64 (s.left : Int), m.KV, .int .i64 (s.writes : Int)]
/-- The reference's disk at block g. -/
structure RefM (w : World) (g : Nat) (s : DS) (m : RL) : Prop where
  ok : s.ok
  blk : Bk w g 47 (rcells s m)
  kept : Bk w m.bb 5 (s.kept.map B8).toArray
  row : OwnP w m.LV m.ps
  q : s.q = m.ps.map PI.pend
  each : ∀ p ∈ m.ps, Own8 w 5 (.slice (some ⟨p.b, 0, none⟩) p.bs.length p.c) p.bs ∧ p.b ≠ m.bb
  keep : 0 < s.left → OwnB w m.KV s.keep
theorem RefM.lt {w : World} {g : Nat} {s : DS} {m : RL} (h : RefM w g s m) {k : Nat} (hk : BL s g m k) : k < w.heap.size := by
  rcases hk with rfl | rfl | e | ⟨p, hp, rfl⟩ | ⟨h0, e⟩
  · exact h.blk.lt
  · exact h.kept.lt
  · exact h.row.lt e
  · exact (h.each p hp).1.lt rfl
  · exact (h.keep h0).lt e
theorem RefM.fr {S : Nat → Prop} {w w' : World} {g : Nat} {s : DS} {m : RL} (h : RefM w g s m) (hf : Fr S w w') (hS : ∀ k, BL s g m k → ¬ S k) : RefM w' g s m :=
  ⟨h.ok, h.blk.fr hf (hS _ (.inl rfl)), h.kept.fr hf (hS _ (.inr (.inl rfl))), h.row.fr hf (fun k e => hS _ (.inr (.inr (.inl e)))), h.q,
    fun p hp => ⟨(h.each p hp).1.fr hf (fun k e => by injection e with e; exact hS _ (.inr (.inr (.inr (.inl ⟨p, hp, e⟩))))), (h.each p hp).2⟩,
    fun h0 => (h.keep h0).fr hf (fun k e => hS _ (.inr (.inr (.inr (.inr ⟨h0, e⟩)))))⟩
theorem RefM.bg {w : World} {g : Nat} {s : DS} {m : RL} (h : RefM w g s m) : m.bb ≠ g := Bk.ne h.kept h.blk (by decide)
theorem RefM.lg {w : World} {g : Nat} {s : DS} {m : RL} (h : RefM w g s m) : m.LV.ownBlock ≠ some g := h.row.ne h.blk (by decide)
theorem RefM.lb {w : World} {g : Nat} {s : DS} {m : RL} (h : RefM w g s m) : m.LV.ownBlock ≠ some m.bb := h.row.ne h.kept (by decide)
theorem RefM.pg {w : World} {g : Nat} {s : DS} {m : RL} (h : RefM w g s m) {p : PI} (hp : p ∈ m.ps) : p.b ≠ g := fun e => (h.each p hp).1.ne h.blk (by decide) (by rw [← e]; rfl)
theorem RefM.kg {w : World} {g : Nat} {s : DS} {m : RL} (h : RefM w g s m) (h0 : 0 < s.left) : m.KV.ownBlock ≠ some g := (h.keep h0).ne h.blk (by decide)
theorem RefM.kb {w : World} {g : Nat} {s : DS} {m : RL} (h : RefM w g s m) (h0 : 0 < s.left) : m.KV.ownBlock ≠ some m.bb := (h.keep h0).ne h.kept (by decide)
theorem RefM.ql {w : World} {g : Nat} {s : DS} {m : RL} (h : RefM w g s m) : s.q.length = m.ps.length := by rw [h.q]; simp
/-- The reference's disk within the blocks G. -/
def RefD (w : World) (g : Nat) (s : DS) (G : Nat → Prop) : Prop := ∃ m, RefM w g s m ∧ (∀ k, BL s g m k → G k) ∧ ∀ k, G k → k < w.heap.size
theorem RefD.fr {S G : Nat → Prop} {w w' : World} {g : Nat} {s : DS} (h : RefD w g s G) (hf : Fr S w w') (hS : ∀ k, G k → ¬ S k) : RefD w' g s G := by
  obtain ⟨m, h1, h2, h3⟩ := h
  exact ⟨m, h1.fr hf (fun k hk => hS k (h2 k hk)), h2, fun k hk => Nat.lt_of_lt_of_le (h3 k hk) hf.size⟩
theorem RefD.lt {G : Nat → Prop} {w : World} {g : Nat} {s : DS} (h : RefD w g s G) {k : Nat} (hk : G k) : k < w.heap.size := h.choose_spec.2.2 k hk
theorem RefD.self {G : Nat → Prop} {w : World} {g : Nat} {s : DS} (h : RefD w g s G) : G g := h.choose_spec.2.1 g (.inl rfl)
theorem RefD.ok {G : Nat → Prop} {w : World} {g : Nat} {s : DS} (h : RefD w g s G) : s.ok := h.choose_spec.1.ok
/-- From a reference's disk to that disk later. -/
def RefTo (w : World) (g : Nat) (G : Nat → Prop) (w' : World) (s' : DS) : Prop := ∃ G', RefD w' g s' G' ∧ Fr G w w' ∧ ∀ k, G' k → G k ∨ w.heap.size ≤ k
theorem RefM.to {w w' : World} {g : Nat} {G : Nat → Prop} {s' : DS} {m' : RL} (h : RefM w' g s' m') (hB : ∀ k, BL s' g m' k → G k ∨ w.heap.size ≤ k) (hf : Fr G w w') : RefTo w g G w' s' :=
  ⟨fun k => BL s' g m' k, ⟨m', h, fun _ hk => hk, fun _ hk => h.lt hk⟩, hf, hB⟩
end Go.Proofs.Ytnkkdpmmnenncaa
