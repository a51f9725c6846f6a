/- Words for memory, of this verifier's own: what a call may write, blocks that are known whole, rows of bytes. -/
import Derived.WalkKit
import Derived.WalkSpells
import Derived.WalkLawsBesides
import Derived.Maps.AppendAt
import Derived.Lib.Hide
import Derived.Deep.Draws
namespace Go.Proofs.Ytkinbcmnfpkncaa
open Go.RowKit

/-- Of what was there nothing has turned but blocks in S. -/
structure Fr (S : Nat → Prop) (w w' : World) : Prop where
  os : w'.os = w.os
  tape : w'.tape = w.tape
  output : w'.output = w.output
  size : w.heap.size ≤ w'.heap.size
  block : ∀ k, k < w.heap.size → ¬ S k → w'.heap[k]? = w.heap[k]?

theorem Fr.refl (S : Nat → Prop) (w : World) : Fr S w w := ⟨rfl, rfl, rfl, Nat.le_refl _, fun _ _ _ => rfl⟩
theorem Fr.trans {S T : Nat → Prop} {a b c : World} (h : Fr S a b) (k : Fr T b c) (hT : ∀ x, x < a.heap.size → T x → S x) : Fr S a c :=
  ⟨k.os.trans h.os, k.tape.trans h.tape, k.output.trans h.output, Nat.le_trans h.size k.size, fun x hx hs =>
    (k.block x (Nat.lt_of_lt_of_le hx h.size) (fun ht => hs (hT x hx ht))).trans (h.block x hx hs)⟩
theorem Fr.mono {S T : Nat → Prop} {a b : World} (h : Fr S a b) (hT : ∀ x, x < a.heap.size → S x → T x) : Fr T a b :=
  ⟨h.os, h.tape, h.output, h.size, fun x hx ht => h.block x hx (fun hs => ht (hT x hx hs))⟩
theorem Fr.of_grown {w w' : World} {row : Option Nat} (h : w.grownBy w' row) : Fr (fun k => row = some k) w w' :=
  ⟨h.os, h.tape, h.output, h.size, fun k hk hs => h.block k hk (fun e => hs e.symm)⟩
theorem Fr.of_below {w w' : World} {B : Nat} (h : Below B w w') : Fr (fun k => B ≤ k) w w' :=
  ⟨h.os, h.tape, h.output, h.size, fun k _ hs => h.block k (by omega)⟩
theorem Fr.alloc {S : Nat → Prop} {a w : World} (h : Fr S a w) (o : Obj) : Fr S a (w.alloc o) :=
  h.trans (T := fun _ => False) ⟨rfl, rfl, rfl, by simp, fun k hk _ => Below.heap_alloc _ _ _ hk⟩ (fun _ _ h => h.elim)
theorem Fr.setCell {S : Nat → Prop} {a w : World} (h : Fr S a w) {p : Addr} (hp : p.block < a.heap.size → S p.block) (u : Value) : Fr S a (w.setCell p u) :=
  h.trans (T := fun k => k = p.block) ⟨rfl, rfl, rfl, by simp [World.setCell], fun k _ hk => Below.heap_setCell _ _ _ _ hk⟩ (fun x hx e => by subst e; exact hp hx)
theorem Fr.drew {S : Nat → Prop} {a w : World} (h : Fr S a w) : Fr S a w.drew := ⟨h.os, h.tape, h.output, h.size, h.block⟩
theorem Fr.drewN {S : Nat → Prop} {a w : World} (h : Fr S a w) (n : Nat) : Fr S a (w.drewN n) := ⟨h.os, h.tape, h.output, h.size, h.block⟩
theorem Fr.below {w w' : World} {S : Nat → Prop} (h : Fr S w w') (B : Nat) (hB : B ≤ w.heap.size) (hS : ∀ k, k < B → ¬ S k) : Below B w w' :=
  ⟨h.os, h.tape, h.output, h.size, fun k hk => h.block k (by omega) (hS k hk)⟩
theorem Fr.cell {S : Nat → Prop} {w w' : World} (h : Fr S w w') {p : Addr} (hp : p.block < w.heap.size) (hs : ¬ S p.block) : w'.cell? p = w.cell? p :=
  World.cell?_of_block (w := w) (h.block p.block hp hs)
theorem Fr.frozen {S : Nat → Prop} {w w' : World} (h : Fr S w w') {p : Addr} (hp : p.block < w.heap.size) (hs : ¬ S p.block) : w'.frozen? p = w.frozen? p :=
  World.frozen?_of_block (w := w) (h.block p.block hp hs)

/-- Block g is just these cells of type t, none frozen. -/
def Bk (w : World) (g : Nat) (t : TypeId) (cs : Array Value) : Prop := w.heap[g]? = some (.cells cs t (0, 0))
section
variable {w w' : World} {g : Nat} {t : TypeId} {cs : Array Value}
theorem Bk.lt (h : Bk w g t cs) : g < w.heap.size := by
  rcases Nat.lt_or_ge g w.heap.size with hlt | hge
  · exact hlt
  · unfold Bk at h; rw [Array.getElem?_eq_none hge] at h; cases h
theorem Bk.cell (h : Bk w g t cs) (i : Nat) : w.cell? ⟨g, i, none⟩ = cs[i]? := cell_of_row w g i cs t (0, 0) h
theorem Bk.frozen (h : Bk w g t cs) (i : Nat) : w.frozen? ⟨g, i, none⟩ = false := by
  unfold Bk at h; simp [World.frozen?, h]
theorem Bk.new (w : World) (t : TypeId) (cs : Array Value) : Bk (w.alloc (.cells cs t)) w.heap.size t cs := heap_alloc_new w _
theorem Bk.drew (h : Bk w g t cs) : Bk w.drew g t cs := h
theorem Bk.drewN (h : Bk w g t cs) (n : Nat) : Bk (w.drewN n) g t cs := h
theorem Bk.alloc (h : Bk w g t cs) (o : Obj) : Bk (w.alloc o) g t cs := (Below.heap_alloc w o g h.lt).trans h
theorem Bk.set (h : Bk w g t cs) (i : Nat) (u : Value) : Bk (w.setCell ⟨g, i, none⟩ u) g t (cs.setIfInBounds i u) := by
  unfold Bk at h ⊢
  simp [World.setCell, Array.getElem?_modify, h]
theorem Bk.far (h : Bk w g t cs) {p : Addr} (hp : g ≠ p.block) (u : Value) : Bk (w.setCell p u) g t cs := (Below.heap_setCell w p u g hp).trans h
theorem Bk.fr {S : Nat → Prop} (h : Bk w g t cs) (hb : Fr S w w') (hg : ¬ S g) : Bk w' g t cs := (hb.block g h.lt hg).trans h
theorem Bk.ne {g' : Nat} {t' : TypeId} {cs' : Array Value} (h : Bk w g t cs) (h' : Bk w g' t' cs') (hne : t ≠ t') : g ≠ g' := by
  rintro rfl
  unfold Bk at h h'
  rw [h] at h'
  injection h' with h'
  injection h' with _ ht
  exact hne ht
end

/-- A byte as a value. -/
def B8 (b : UInt8) : Value := .int .u8 b.toNat

/-- A row of bytes of the call's own. e: the type uint8. -/
def Own8 (w : World) (e : TypeId) (v : Value) (bs : List UInt8) : Prop := w.ownsRow 0 e 1 v bs.length (bs.map B8)

theorem Own8.nil (w : World) (e : TypeId) : Own8 w e (.slice none 0 0) [] := World.ownsRow_nil w 0 e 1
theorem Own8.lt {w : World} {e : TypeId} {v : Value} {bs : List UInt8} (h : Own8 w e v bs) {k : Nat} (hk : v.ownBlock = some k) : k < w.heap.size := (World.ownsRow.lt h k hk).2
theorem Own8.fr {S : Nat → Prop} {w w' : World} {e : TypeId} {v : Value} {bs : List UInt8} (h : Own8 w e v bs) (hb : Fr S w w') (hS : ∀ k, v.ownBlock = some k → ¬ S k) : Own8 w' e v bs := by
  refine ⟨h.1, ?_⟩
  rcases h.2 with hn | ⟨g, cap, cur, rfl, hb0, hgg, rest⟩
  · exact .inl hn
  · refine .inr ⟨g, cap, cur, rfl, hb0, ?_, rest⟩
    rw [hb.block g (Array.getElem?_eq_some_iff.1 hgg).1 (hS g rfl)]
    exact hgg
theorem Own8.ne {w : World} {e t : TypeId} {v : Value} {bs : List UInt8} {g : Nat} {cs : Array Value} (h : Own8 w e v bs) (hg : Bk w g t cs) (hne : e ≠ t) : v.ownBlock ≠ some g := by
  rcases h.2 with ⟨rfl, _⟩ | ⟨g', cap, cur, rfl, _, hh, _⟩
  · simp [Value.ownBlock]
  · intro he
    have : g' = g := by simpa [Value.ownBlock] using he
    subst this
    exact Bk.ne (t := e) hh hg hne rfl
/-- What it is: nil, or a slice at the head of a block. -/
theorem Own8.form {w : World} {e : TypeId} {v : Value} {bs : List UInt8} (h : Own8 w e v bs) : (v = .slice none 0 0 ∧ bs = []) ∨ ∃ g cap, v = .slice (some ⟨g, 0, none⟩) bs.length cap ∧ bs.length ≤ cap ∧ cap ≤ maxLen := by
  rcases h.2 with ⟨rfl, h0⟩ | ⟨g, cap, cur, rfl, _, _, h1, h2, _⟩
  · exact .inl ⟨rfl, List.eq_nil_of_length_eq_zero h0⟩
  · exact .inr ⟨g, cap, rfl, h1, h2⟩
theorem Own8.cell {w : World} {e : TypeId} {bs : List UInt8} {g n cap : Nat} (h : Own8 w e (.slice (some ⟨g, 0, none⟩) n cap) bs) (j : Nat) (hj : j < bs.length) : w.cell? ⟨g, j, none⟩ = some (.int .u8 bs[j].toNat) := by
  have := World.ownsRow.cells h (g := g) rfl j (B8 bs[j]) (by simp [hj])
  have hadd : (⟨g, 0, none⟩ : Addr).add j = ⟨g, j, none⟩ := by unfold Addr.add; split <;> simp_all
  rw [hadd] at this
  exact this

theorem Own8.fresh (w : World) (e : TypeId) (cur : Array Value) (cap : Nat) (hs : cur.size = cap) (hm : cap ≤ maxLen) : Own8 (w.alloc (.cells cur e)) e (.slice (some ⟨w.heap.size, 0, none⟩) 0 cap) [] :=
  World.ownsRow_made w cur cap (Nat.zero_le _) hm (by omega)

/-- Where a new value of a row may lie: at its old place, or in a new block. -/
def Moved (w : World) (v v' : Value) : Prop := v'.ownBlock = v.ownBlock ∨ ∃ k, v'.ownBlock = some k ∧ w.heap.size ≤ k
theorem Moved.refl (w : World) (v : Value) : Moved w v v := .inl rfl
theorem Moved.trans {w w1 : World} {v v1 v2 : Value} (h : Moved w v v1) (k : Moved w1 v1 v2) (hs : w.heap.size ≤ w1.heap.size) : Moved w v v2 := by
  rcases k with k | ⟨x, k, hx⟩
  · rcases h with h | ⟨y, h, hy⟩
    · exact .inl (k.trans h)
    · exact .inr ⟨y, k.trans h, hy⟩
  · exact .inr ⟨x, k, by omega⟩
theorem Moved.old {w : World} {v v' : Value} (h : Moved w v v') {x : Nat} (hx : x < w.heap.size) (hv : v'.ownBlock = some x) : v.ownBlock = some x := by
  rcases h with h | ⟨y, h, hy⟩
  · rw [← h]; exact hv
  · rw [h] at hv; injection hv with hv; omega

/-- What the append laws ask of the byte type e and the slice type t. -/
structure T8 (P : Program) (t e : TypeId) : Prop where
  sl : P.underlying t = some (.slice e)
  info : ∃ i, P.info? e = some i ∧ i.zero = some (.int .u8 0) ∧ i.size = 1 ∧ i.bytes = 1

/-- A slice value that reads as bytes. -/
def Rd8 (w : World) (A : Option Addr) (xs : List UInt8) : Prop :=
  0 < xs.length → ∃ ad, A = some ad ∧ ad.spot = none ∧ ∀ j (h : j < xs.length), w.cell? ⟨ad.block, ad.off + j, none⟩ = some (.int .u8 xs[j].toNat)

theorem add_at (b o j : Nat) : (⟨b, o, none⟩ : Addr).add j = ⟨b, o + j, none⟩ := by unfold Addr.add; split <;> simp_all
theorem B8_one (xs : List UInt8) : ∀ u ∈ xs.map B8, u.oneCell' = true := by
  intro u hu
  obtain ⟨b, _, rfl⟩ := List.mem_map.1 hu
  rfl

theorem Rd8.nil (w : World) (A : Option Addr) : Rd8 w A [] := fun h => by simp at h
theorem Rd8.fr {S : Nat → Prop} {w w' : World} {A : Option Addr} {xs : List UInt8} (h : Rd8 w A xs) (hb : Fr S w w') (hS : ∀ ad, A = some ad → 0 < xs.length → ¬ S ad.block) : Rd8 w' A xs := fun h0 => by
  obtain ⟨ad, e, hsp, hc⟩ := h h0
  refine ⟨ad, e, hsp, fun j hj => ?_⟩
  have h1 := hc j hj
  rw [← h1]
  exact hb.cell (p := ⟨ad.block, ad.off + j, none⟩) (World.block_lt_of_cell? w _ h1) (hS ad e h0)
theorem Own8.rd {w : World} {e : TypeId} {A : Option Addr} {n c : Nat} {bs : List UInt8} (h : Own8 w e (.slice A n c) bs) : Rd8 w A bs := fun h0 => by
  rcases h.2 with ⟨_, h0'⟩ | ⟨g, cap, cur, hv, _⟩
  · omega
  · injection hv with hA hn hc
    subst hA hn hc
    exact ⟨_, rfl, rfl, fun j hj => by simpa using Own8.cell h j hj⟩

section
variable {P : Program} (w : World)

theorem run_append8 {t e : TypeId} (hT : T8 P t e) (ty : TypeId) {v : Value} {bs : List UInt8} (hown : Own8 w e v bs) (A : Option Addr) (c : Nat) (xs : List UInt8) (hr : Rd8 w A xs) (hlen : bs.length + xs.length ≤ 140737488355328) :
    ∃ A' c' w', (Builtin.append_ #[t, t] ty #[v, .slice A xs.length c]).run P w = .ok (.slice A' (bs.length + xs.length) c') w' ∧ Own8 w' e (.slice A' (bs.length + xs.length) c') (bs ++ xs) ∧ Fr (fun k => v.ownBlock = some k) w w' ∧
      Moved w v (.slice A' (bs.length + xs.length) c') ∧ (0 < bs.length + xs.length → ∃ g, A' = some ⟨g, 0, none⟩) := by
  obtain ⟨i, hi, hz, hsz, hby⟩ := hT.info
  have fin : ∀ v' w', Own8 w' e v' (bs ++ xs) → Moved w v v' → ∃ A' c', v' = .slice A' (bs.length + xs.length) c' ∧ (0 < bs.length + xs.length → ∃ g, A' = some ⟨g, 0, none⟩) := by
    intro v' w' ho _
    rcases ho.form with ⟨rfl, h0⟩ | ⟨g, cap, rfl, _, _⟩
    · have : bs.length + xs.length = 0 := by simpa using congrArg List.length h0
      rw [this]
      exact ⟨none, 0, rfl, fun h => by omega⟩
    · exact ⟨some ⟨g, 0, none⟩, cap, by simp, fun _ => ⟨g, rfl⟩⟩
  rcases A with _ | ad
  · have h0 : xs = [] := by
      rcases Nat.eq_zero_or_pos xs.length with h0 | h0
      · exact List.eq_nil_of_length_eq_zero h0
      · obtain ⟨ad, h, _⟩ := hr h0; cases h
    subst h0
    have hrun : (Builtin.append_ #[t, t] ty #[v, .slice none ([] : List UInt8).length c]).run P w = .ok v w := by
      rcases hown.2 with ⟨rfl, h0'⟩ | ⟨g, cap, cur, rfl, _, _, hnc, _⟩
      · simp [Builtin.append_, run_underlying hT.sl, sizeOf, typeInfo, hi, Builtin.lenOf, Builtin.firstCells]
      · simp [Builtin.append_, run_underlying hT.sl, sizeOf, typeInfo, hi, Builtin.lenOf, Builtin.firstCells, hnc, storeCells]
    obtain ⟨A', c', rfl, hg⟩ := fin v w (by simpa using hown) (Moved.refl _ _)
    exact ⟨A', c', w, hrun, by simpa using hown, Fr.refl _ _, Moved.refl _ _, hg⟩
  · have hnews : ∀ j u, (xs.map B8)[j]? = some u → w.cell? (ad.add j) = some u := by
      intro j u hu
      have hj : j < xs.length := by
        have := (List.getElem?_eq_some_iff.1 hu).1
        simpa using this
      obtain ⟨ad', h, hsp, hc⟩ := hr (by omega)
      injection h with h
      subst h
      obtain ⟨b, o, sp⟩ := ad
      cases hsp
      rw [add_at, hc j hj]
      simp [hj] at hu
      rw [← hu]; rfl
    obtain ⟨v', w', h1, h2, h3, _, h5⟩ := run_append_own_at (P := P) w 0 t ty e i (.int .u8 0) 1 1 hT.sl hi hz hsz hby rfl (by decide) v bs.length (bs.map B8) hown ad xs.length c (xs.map B8) (by simp)
      hnews (B8_one xs) (by unfold maxLen; omega) (by omega) (Nat.zero_le _)
    have ho : Own8 w' e v' (bs ++ xs) := by unfold Own8; simpa using h2
    have hm : Moved w v v' := h5.imp id (fun h => ⟨_, h, Nat.le_refl _⟩)
    obtain ⟨A', c', rfl, hg⟩ := fin v' w' ho hm
    exact ⟨A', c', w', h1, ho, Fr.of_grown h3, hm, hg⟩

/-- append(s, x...) onto a row of bytes of the call's own. -/
theorem wpList_append8s {ops : Array Oper} {rest : List Oper} {o : Oper} {a : Act} {Q : Exit → Act → World → Prop} (hgd : o.guard = none) (s x : Operand) {t e : TypeId} (hT : T8 P t e)
    (ho : o.op = .call { callee := .builtin .append, args := #[s, x], argTypes := #[t, t] })
    (v : Value) (bs : List UInt8) (hs : a.eval s = v) (hown : Own8 w e v bs) (A : Option Addr) (m c : Nat) (xs : List UInt8) (hx : a.eval x = .slice A m c) (hm : xs.length = m) (hr : Rd8 w A xs) (hlen : bs.length + xs.length ≤ 140737488355328)
    (h : ∀ A' c' w', Own8 w' e (.slice A' (bs.length + xs.length) c') (bs ++ xs) → Fr (fun k => v.ownBlock = some k) w w' → Moved w v (.slice A' (bs.length + xs.length) c') → wpList P ops Q rest (a.put o.dst (.slice A' (bs.length + xs.length) c')) w') :
    wpList P ops Q (o :: rest) a w := by
  refine wpList_plain hgd fun K hK => ?_
  subst hm
  obtain ⟨A', c', w', hr, h2, h3, h4, _⟩ := run_append8 (P := P) w hT o.type hown A c xs hr hlen
  unfold Oper.wp execOp
  simp only [ho, resolve, invoke, builtin, Sem.run_bind, Sem.run_pure, Result.andThen_ok, List.map_toArray, List.map_cons, List.map_nil, hs, hx, hr]
  exact hK _ _ (h A' c' w' h2 h3 h4)

/-- append(s, b): the byte lies in a new block of its own. -/
theorem wpList_append8 {ops : Array Oper} {rest : List Oper} {o : Oper} {a : Act} {Q : Exit → Act → World → Prop} (hgd : o.guard = none) (s x : Operand) {t e : TypeId} (hT : T8 P t e)
    (ho : o.op = .call { callee := .builtin .append, args := #[s, x], argTypes := #[t, t] })
    (v : Value) (bs : List UInt8) (hs : a.eval s = v) (n : Int) (b : UInt8) (hn : n = b.toNat) (hown : Own8 w e v bs) (hx : a.eval x = .slice (some ⟨w.heap.size, 0, none⟩) 1 1) (hlen : bs.length + 1 ≤ 140737488355328)
    (h : ∀ g' c' w', Own8 w' e (.slice (some ⟨g', 0, none⟩) (bs.length + 1) c') (bs ++ [b]) → Fr (fun k => v.ownBlock = some k) w w' → Moved w v (.slice (some ⟨g', 0, none⟩) (bs.length + 1) c') → wpList P ops Q rest (a.put o.dst (.slice (some ⟨g', 0, none⟩) (bs.length + 1) c')) w') :
    wpList P ops Q (o :: rest) a (w.alloc (.cells #[.int .u8 n] e)) := by
  refine wpList_plain hgd fun K hK => ?_
  subst hn
  have hf : Fr (fun _ => False) w (w.alloc (.cells #[.int .u8 b.toNat] e)) := (Fr.refl _ _).alloc _
  obtain ⟨A', c', w', hr, h2, h3, h4, hg⟩ := run_append8 (P := P) (w.alloc (.cells #[.int .u8 b.toNat] e)) hT o.type (hown.fr hf (fun _ _ h => h)) (some ⟨w.heap.size, 0, none⟩) 1 [b]
    (fun _ => ⟨_, rfl, rfl, fun j hj => by
      have : j = 0 := by simpa using hj
      subst this
      exact (Bk.new w e #[.int .u8 b.toNat]).cell 0⟩) hlen
  obtain ⟨g, rfl⟩ := hg (by simp)
  unfold Oper.wp execOp
  simp only [List.length_singleton] at hr h2 h4
  simp only [ho, resolve, invoke, builtin, Sem.run_bind, Sem.run_pure, Result.andThen_ok, List.map_toArray, List.map_cons, List.map_nil, hs, hx, hr]
  refine hK _ _ (h g c' w' h2 ((hf.mono (fun _ _ h => h.elim)).trans h3 (fun _ _ h => h)) (h4.imp id (fun ⟨k, h, hk⟩ => ⟨k, h, by simp at hk; omega⟩)))
end

/-- The row v is new since w, and nothing that was there has turned. -/
def Fresh (w w' : World) (v : Value) : Prop := Fr (fun _ => False) w w' ∧ ∀ k, v.ownBlock = some k → w.heap.size ≤ k
theorem Fresh.step {w w1 w2 : World} {v1 v2 : Value} (h : Fresh w w1 v1) (hf : Fr (fun k => v1.ownBlock = some k) w1 w2) (hm : Moved w1 v1 v2) : Fresh w w2 v2 :=
  ⟨h.1.trans hf (fun x hx e => by have := h.2 x e; omega), fun k hk => by
    rcases hm with e | ⟨x, e, hx⟩
    · exact h.2 k (e.symm.trans hk)
    · have := h.1.size
      rw [e] at hk; injection hk with hk; omega⟩
theorem Fresh.quiet {w w1 w2 : World} {v : Value} (h : Fresh w w1 v) (hf : Fr (fun _ => False) w1 w2) : Fresh w w2 v := ⟨h.1.trans hf (fun _ _ h => h), h.2⟩
theorem Fresh.new (w : World) (o : Obj) (n c : Nat) : Fresh w (w.alloc o) (.slice (some ⟨w.heap.size, 0, none⟩) n c) :=
  ⟨(Fr.refl _ _).alloc _, fun k hk => by
    have : w.heap.size = k := by injection hk
    omega⟩
theorem Fresh.nil (w w' : World) (h : Fr (fun _ => False) w w') : Fresh w w' (.slice none 0 0) := ⟨h, fun k hk => by simp [Value.ownBlock] at hk⟩

theorem run_make8 {P : Program} {t e : TypeId} (hT : T8 P t e) (kl kc : IntKind) (l c : Int) (h0 : 0 ≤ l) (hlc : l ≤ c) (hb : c ≤ 140737488355328) (w : World) :
    ∃ cur : Array Value, cur.size = c.toNat ∧ (∀ i, i < c.toNat → cur[i]? = some (.int .u8 0)) ∧
      (Instr.makeSlice t (.int kl l) (.int kc c)).run P w = .ok (.slice (some ⟨w.heap.size, 0, none⟩) l.toNat c.toNat) (w.alloc (.cells cur e)) := by
  obtain ⟨i, hi, hz, hsz, hby⟩ := hT.info
  refine ⟨_, ?_, ?_, run_make (P := P) w t e i _ hT.sl hi hz kl kc l c h0 hlc (by rw [hby]; omega) (by omega)⟩
  · simp [madeCells, hsz]
  · intro j hj
    simp [madeCells, hsz, Value.cells, hj, Nat.mod_one]

end Go.Proofs.Ytkinbcmnfpkncaa
