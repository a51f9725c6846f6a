import Derived.WalkKit
import Derived.WalkSpells
import Derived.WalkLawsBesides
import Derived.Maps.AppendAt
import Derived.Lib.Hide
import Derived.Deep.Draws
import Derived.Test.YtieoeoonopcjbaaGreatDoorProg
import Derived.Laws.BitsAllLaws
import Derived.Deep.QuietTactic
import Derived.BigQuiet
import Derived.LaidEql
import Derived.Stop.Asserts
import Derived.RowKitTokens

/- Words for memory, of this verifier's own: what a call may write, blocks that are known whole, rows of bytes. -/
namespace Go.Proofs.YtieoeoonopcjbaaGreatDoor
open Go.RowKit

/-- Of what was there nothing has turned but blocks in S. -/
structure Fr (S : Nat → Prop) (w w' : World) : Prop where
  os : w'.os = w.os
  tape : w'.tape = w.tape
  output : w'.output = w.output
  size : w.heap.size ≤ w'.heap.size
  block : ∀ k, k < w.heap.size → ¬ S k → w'.heap[k]? = w.heap[k]?

theorem Fr.refl (S : Nat → Prop) (w : World) : Fr S w w := ⟨rfl, rfl, rfl, Nat.le_refl _, fun _ _ _ => rfl⟩
theorem Fr.trans {S T : Nat → Prop} {a b c : World} (h : Fr S a b) (k : Fr T b c) (hT : ∀ x, x < a.heap.size → T x → S x) : Fr S a c :=
  ⟨k.os.trans h.os, k.tape.trans h.tape, k.output.trans h.output, Nat.le_trans h.size k.size, fun x hx hs =>
    (k.block x (Nat.lt_of_lt_of_le hx h.size) (fun ht => hs (hT x hx ht))).trans (h.block x hx hs)⟩
theorem Fr.mono {S T : Nat → Prop} {a b : World} (h : Fr S a b) (hT : ∀ x, x < a.heap.size → S x → T x) : Fr T a b :=
  ⟨h.os, h.tape, h.output, h.size, fun x hx ht => h.block x hx (fun hs => ht (hT x hx hs))⟩
theorem Fr.of_grown {w w' : World} {row : Option Nat} (h : w.grownBy w' row) : Fr (fun k => row = some k) w w' :=
  ⟨h.os, h.tape, h.output, h.size, fun k hk hs => h.block k hk (fun e => hs e.symm)⟩
theorem Fr.of_below {w w' : World} {B : Nat} (h : Below B w w') : Fr (fun k => B ≤ k) w w' :=
  ⟨h.os, h.tape, h.output, h.size, fun k _ hs => h.block k (by omega)⟩
theorem Fr.alloc {S : Nat → Prop} {a w : World} (h : Fr S a w) (o : Obj) : Fr S a (w.alloc o) :=
  h.trans (T := fun _ => False) ⟨rfl, rfl, rfl, by simp, fun k hk _ => Below.heap_alloc _ _ _ hk⟩ (fun _ _ h => h.elim)
theorem Fr.setCell {S : Nat → Prop} {a w : World} (h : Fr S a w) {p : Addr} (hp : p.block < a.heap.size → S p.block) (u : Value) : Fr S a (w.setCell p u) :=
  h.trans (T := fun k => k = p.block) ⟨rfl, rfl, rfl, by simp [World.setCell], fun k _ hk => Below.heap_setCell _ _ _ _ hk⟩ (fun x hx e => by subst e; exact hp hx)
theorem Fr.drew {S : Nat → Prop} {a w : World} (h : Fr S a w) : Fr S a w.drew := ⟨h.os, h.tape, h.output, h.size, h.block⟩
theorem Fr.drewN {S : Nat → Prop} {a w : World} (h : Fr S a w) (n : Nat) : Fr S a (w.drewN n) := ⟨h.os, h.tape, h.output, h.size, h.block⟩
theorem Fr.below {w w' : World} {S : Nat → Prop} (h : Fr S w w') (B : Nat) (hB : B ≤ w.heap.size) (hS : ∀ k, k < B → ¬ S k) : Below B w w' :=
  ⟨h.os, h.tape, h.output, h.size, fun k hk => h.block k (by omega) (hS k hk)⟩
theorem Fr.cell {S : Nat → Prop} {w w' : World} (h : Fr S w w') {p : Addr} (hp : p.block < w.heap.size) (hs : ¬ S p.block) : w'.cell? p = w.cell? p :=
  World.cell?_of_block (w := w) (h.block p.block hp hs)
theorem Fr.frozen {S : Nat → Prop} {w w' : World} (h : Fr S w w') {p : Addr} (hp : p.block < w.heap.size) (hs : ¬ S p.block) : w'.frozen? p = w.frozen? p :=
  World.frozen?_of_block (w := w) (h.block p.block hp hs)

/-- Block g is just these cells of type t, none frozen. -/
def Bk (w : World) (g : Nat) (t : TypeId) (cs : Array Value) : Prop := w.heap[g]? = some (.cells cs t (0, 0))
section
variable {w w' : World} {g : Nat} {t : TypeId} {cs : Array Value}
theorem Bk.lt (h : Bk w g t cs) : g < w.heap.size := by
  rcases Nat.lt_or_ge g w.heap.size with hlt | hge
  · exact hlt
  · unfold Bk at h; rw [Array.getElem?_eq_none hge] at h; cases h
theorem Bk.cell (h : Bk w g t cs) (i : Nat) : w.cell? ⟨g, i, none⟩ = cs[i]? := cell_of_row w g i cs t (0, 0) h
theorem Bk.frozen (h : Bk w g t cs) (i : Nat) : w.frozen? ⟨g, i, none⟩ = false := by
  unfold Bk at h; simp [World.frozen?, h]
theorem Bk.new (w : World) (t : TypeId) (cs : Array Value) : Bk (w.alloc (.cells cs t)) w.heap.size t cs := heap_alloc_new w _
theorem Bk.drew (h : Bk w g t cs) : Bk w.drew g t cs := h
theorem Bk.drewN (h : Bk w g t cs) (n : Nat) : Bk (w.drewN n) g t cs := h
theorem Bk.alloc (h : Bk w g t cs) (o : Obj) : Bk (w.alloc o) g t cs := (Below.heap_alloc w o g h.lt).trans h
theorem Bk.set (h : Bk w g t cs) (i : Nat) (u : Value) : Bk (w.setCell ⟨g, i, none⟩ u) g t (cs.setIfInBounds i u) := by
  unfold Bk at h ⊢
  simp [World.setCell, Array.getElem?_modify, h]
theorem Bk.far (h : Bk w g t cs) {p : Addr} (hp : g ≠ p.block) (u : Value) : Bk (w.setCell p u) g t cs := (Below.heap_setCell w p u g hp).trans h
theorem Bk.fr {S : Nat → Prop} (h : Bk w g t cs) (hb : Fr S w w') (hg : ¬ S g) : Bk w' g t cs := (hb.block g h.lt hg).trans h
theorem Bk.ne {g' : Nat} {t' : TypeId} {cs' : Array Value} (h : Bk w g t cs) (h' : Bk w g' t' cs') (hne : t ≠ t') : g ≠ g' := by
  rintro rfl
  unfold Bk at h h'
  rw [h] at h'
  injection h' with h'
  injection h' with _ ht
  exact hne ht
end

/-- A byte as a value. -/
def B8 (b : UInt8) : Value := .int .u8 b.toNat

/-- A row of bytes of the call's own. e: the type uint8. -/
def Own8 (w : World) (e : TypeId) (v : Value) (bs : List UInt8) : Prop := w.ownsRow 0 e 1 v bs.length (bs.map B8)

theorem Own8.nil (w : World) (e : TypeId) : Own8 w e (.slice none 0 0) [] := World.ownsRow_nil w 0 e 1
theorem Own8.lt {w : World} {e : TypeId} {v : Value} {bs : List UInt8} (h : Own8 w e v bs) {k : Nat} (hk : v.ownBlock = some k) : k < w.heap.size := (World.ownsRow.lt h k hk).2
theorem Own8.fr {S : Nat → Prop} {w w' : World} {e : TypeId} {v : Value} {bs : List UInt8} (h : Own8 w e v bs) (hb : Fr S w w') (hS : ∀ k, v.ownBlock = some k → ¬ S k) : Own8 w' e v bs := by
  refine ⟨h.1, ?_⟩
  rcases h.2 with hn | ⟨g, cap, cur, rfl, hb0, hgg, rest⟩
  · exact .inl hn
  · refine .inr ⟨g, cap, cur, rfl, hb0, ?_, rest⟩
    rw [hb.block g (Array.getElem?_eq_some_iff.1 hgg).1 (hS g rfl)]
    exact hgg
theorem Own8.ne {w : World} {e t : TypeId} {v : Value} {bs : List UInt8} {g : Nat} {cs : Array Value} (h : Own8 w e v bs) (hg : Bk w g t cs) (hne : e ≠ t) : v.ownBlock ≠ some g := by
  rcases h.2 with ⟨rfl, _⟩ | ⟨g', cap, cur, rfl, _, hh, _⟩
  · simp [Value.ownBlock]
  · intro he
    have : g' = g := by simpa [Value.ownBlock] using he
    subst this
    exact Bk.ne (t := e) hh hg hne rfl
/-- What it is: nil, or a slice at the head of a block. -/
theorem Own8.form {w : World} {e : TypeId} {v : Value} {bs : List UInt8} (h : Own8 w e v bs) : (v = .slice none 0 0 ∧ bs = []) ∨ ∃ g cap, v = .slice (some ⟨g, 0, none⟩) bs.length cap ∧ bs.length ≤ cap ∧ cap ≤ maxLen := by
  rcases h.2 with ⟨rfl, h0⟩ | ⟨g, cap, cur, rfl, _, _, h1, h2, _⟩
  · exact .inl ⟨rfl, List.eq_nil_of_length_eq_zero h0⟩
  · exact .inr ⟨g, cap, rfl, h1, h2⟩
theorem Own8.cell {w : World} {e : TypeId} {bs : List UInt8} {g n cap : Nat} (h : Own8 w e (.slice (some ⟨g, 0, none⟩) n cap) bs) (j : Nat) (hj : j < bs.length) : w.cell? ⟨g, j, none⟩ = some (.int .u8 bs[j].toNat) := by
  have := World.ownsRow.cells h (g := g) rfl j (B8 bs[j]) (by simp [hj])
  have hadd : (⟨g, 0, none⟩ : Addr).add j = ⟨g, j, none⟩ := by unfold Addr.add; split <;> simp_all
  rw [hadd] at this
  exact this

theorem Own8.fresh (w : World) (e : TypeId) (cur : Array Value) (cap : Nat) (hs : cur.size = cap) (hm : cap ≤ maxLen) : Own8 (w.alloc (.cells cur e)) e (.slice (some ⟨w.heap.size, 0, none⟩) 0 cap) [] :=
  World.ownsRow_made w cur cap (Nat.zero_le _) hm (by omega)

/-- Where a new value of a row may lie: at its old place, or in a new block. -/
def Moved (w : World) (v v' : Value) : Prop := v'.ownBlock = v.ownBlock ∨ ∃ k, v'.ownBlock = some k ∧ w.heap.size ≤ k
theorem Moved.refl (w : World) (v : Value) : Moved w v v := .inl rfl
theorem Moved.trans {w w1 : World} {v v1 v2 : Value} (h : Moved w v v1) (k : Moved w1 v1 v2) (hs : w.heap.size ≤ w1.heap.size) : Moved w v v2 := by
  rcases k with k | ⟨x, k, hx⟩
  · rcases h with h | ⟨y, h, hy⟩
    · exact .inl (k.trans h)
    · exact .inr ⟨y, k.trans h, hy⟩
  · exact .inr ⟨x, k, by omega⟩
theorem Moved.old {w : World} {v v' : Value} (h : Moved w v v') {x : Nat} (hx : x < w.heap.size) (hv : v'.ownBlock = some x) : v.ownBlock = some x := by
  rcases h with h | ⟨y, h, hy⟩
  · rw [← h]; exact hv
  · rw [h] at hv; injection hv with hv; omega

/-- What the append laws ask of the byte type e and the slice type t. -/
structure T8 (P : Program) (t e : TypeId) : Prop where
  sl : P.underlying t = some (.slice e)
  info : ∃ i, P.info? e = some i ∧ i.zero = some (.int .u8 0) ∧ i.size = 1 ∧ i.bytes = 1

/-- A slice value that reads as bytes. -/
def Rd8 (w : World) (A : Option Addr) (xs : List UInt8) : Prop :=
  0 < xs.length → ∃ ad, A = some ad ∧ ad.spot = none ∧ ∀ j (h : j < xs.length), w.cell? ⟨ad.block, ad.off + j, none⟩ = some (.int .u8 xs[j].toNat)

theorem add_at (b o j : Nat) : (⟨b, o, none⟩ : Addr).add j = ⟨b, o + j, none⟩ := by unfold Addr.add; split <;> simp_all
theorem B8_one (xs : List UInt8) : ∀ u ∈ xs.map B8, u.oneCell' = true := by
  intro u hu
  obtain ⟨b, _, rfl⟩ := List.mem_map.1 hu
  rfl

theorem Rd8.nil (w : World) (A : Option Addr) : Rd8 w A [] := fun h => by simp at h
theorem Rd8.fr {S : Nat → Prop} {w w' : World} {A : Option Addr} {xs : List UInt8} (h : Rd8 w A xs) (hb : Fr S w w') (hS : ∀ ad, A = some ad → 0 < xs.length → ¬ S ad.block) : Rd8 w' A xs := fun h0 => by
  obtain ⟨ad, e, hsp, hc⟩ := h h0
  refine ⟨ad, e, hsp, fun j hj => ?_⟩
  have h1 := hc j hj
  rw [← h1]
  exact hb.cell (p := ⟨ad.block, ad.off + j, none⟩) (World.block_lt_of_cell? w _ h1) (hS ad e h0)
theorem Own8.rd {w : World} {e : TypeId} {A : Option Addr} {n c : Nat} {bs : List UInt8} (h : Own8 w e (.slice A n c) bs) : Rd8 w A bs := fun h0 => by
  rcases h.2 with ⟨_, h0'⟩ | ⟨g, cap, cur, hv, _⟩
  · omega
  · injection hv with hA hn hc
    subst hA hn hc
    exact ⟨_, rfl, rfl, fun j hj => by simpa using Own8.cell h j hj⟩

section
variable {P : Program} (w : World)

theorem run_append8 {t e : TypeId} (hT : T8 P t e) (ty : TypeId) {v : Value} {bs : List UInt8} (hown : Own8 w e v bs) (A : Option Addr) (c : Nat) (xs : List UInt8) (hr : Rd8 w A xs) (hlen : bs.length + xs.length ≤ 140737488355328) :
    ∃ A' c' w', (Builtin.append_ #[t, t] ty #[v, .slice A xs.length c]).run P w = .ok (.slice A' (bs.length + xs.length) c') w' ∧ Own8 w' e (.slice A' (bs.length + xs.length) c') (bs ++ xs) ∧ Fr (fun k => v.ownBlock = some k) w w' ∧
      Moved w v (.slice A' (bs.length + xs.length) c') ∧ (0 < bs.length + xs.length → ∃ g, A' = some ⟨g, 0, none⟩) := by
  obtain ⟨i, hi, hz, hsz, hby⟩ := hT.info
  have fin : ∀ v' w', Own8 w' e v' (bs ++ xs) → Moved w v v' → ∃ A' c', v' = .slice A' (bs.length + xs.length) c' ∧ (0 < bs.length + xs.length → ∃ g, A' = some ⟨g, 0, none⟩) := by
    intro v' w' ho _
    rcases ho.form with ⟨rfl, h0⟩ | ⟨g, cap, rfl, _, _⟩
    · have : bs.length + xs.length = 0 := by simpa using congrArg List.length h0
      rw [this]
      exact ⟨none, 0, rfl, fun h => by omega⟩
    · exact ⟨some ⟨g, 0, none⟩, cap, by simp, fun _ => ⟨g, rfl⟩⟩
  rcases A with _ | ad
  · have h0 : xs = [] := by
      rcases Nat.eq_zero_or_pos xs.length with h0 | h0
      · exact List.eq_nil_of_length_eq_zero h0
      · obtain ⟨ad, h, _⟩ := hr h0; cases h
    subst h0
    have hrun : (Builtin.append_ #[t, t] ty #[v, .slice none ([] : List UInt8).length c]).run P w = .ok v w := by
      rcases hown.2 with ⟨rfl, h0'⟩ | ⟨g, cap, cur, rfl, _, _, hnc, _⟩
      · simp [Builtin.append_, run_underlying hT.sl, sizeOf, typeInfo, hi, Builtin.lenOf, Builtin.firstCells]
      · simp [Builtin.append_, run_underlying hT.sl, sizeOf, typeInfo, hi, Builtin.lenOf, Builtin.firstCells, hnc, storeCells]
    obtain ⟨A', c', rfl, hg⟩ := fin v w (by simpa using hown) (Moved.refl _ _)
    exact ⟨A', c', w, hrun, by simpa using hown, Fr.refl _ _, Moved.refl _ _, hg⟩
  · have hnews : ∀ j u, (xs.map B8)[j]? = some u → w.cell? (ad.add j) = some u := by
      intro j u hu
      have hj : j < xs.length := by
        have := (List.getElem?_eq_some_iff.1 hu).1
        simpa using this
      obtain ⟨ad', h, hsp, hc⟩ := hr (by omega)
      injection h with h
      subst h
      obtain ⟨b, o, sp⟩ := ad
      cases hsp
      rw [add_at, hc j hj]
      simp [hj] at hu
      rw [← hu]; rfl
    obtain ⟨v', w', h1, h2, h3, _, h5⟩ := run_append_own_at (P := P) w 0 t ty e i (.int .u8 0) 1 1 hT.sl hi hz hsz hby rfl (by decide) v bs.length (bs.map B8) hown ad xs.length c (xs.map B8) (by simp)
      hnews (B8_one xs) (by unfold maxLen; omega) (by omega) (Nat.zero_le _)
    have ho : Own8 w' e v' (bs ++ xs) := by unfold Own8; simpa using h2
    have hm : Moved w v v' := h5.imp id (fun h => ⟨_, h, Nat.le_refl _⟩)
    obtain ⟨A', c', rfl, hg⟩ := fin v' w' ho hm
    exact ⟨A', c', w', h1, ho, Fr.of_grown h3, hm, hg⟩

/-- append(s, x...) onto a row of bytes of the call's own. -/
theorem wpList_append8s {ops : Array Oper} {rest : List Oper} {o : Oper} {a : Act} {Q : Exit → Act → World → Prop} (hgd : o.guard = none) (s x : Operand) {t e : TypeId} (hT : T8 P t e)
    (ho : o.op = .call { callee := .builtin .append, args := #[s, x], argTypes := #[t, t] })
    (v : Value) (bs : List UInt8) (hs : a.eval s = v) (hown : Own8 w e v bs) (A : Option Addr) (m c : Nat) (xs : List UInt8) (hx : a.eval x = .slice A m c) (hm : xs.length = m) (hr : Rd8 w A xs) (hlen : bs.length + xs.length ≤ 140737488355328)
    (h : ∀ A' c' w', Own8 w' e (.slice A' (bs.length + xs.length) c') (bs ++ xs) → Fr (fun k => v.ownBlock = some k) w w' → Moved w v (.slice A' (bs.length + xs.length) c') → wpList P ops Q rest (a.put o.dst (.slice A' (bs.length + xs.length) c')) w') :
    wpList P ops Q (o :: rest) a w := by
  refine wpList_plain hgd fun K hK => ?_
  subst hm
  obtain ⟨A', c', w', hr, h2, h3, h4, _⟩ := run_append8 (P := P) w hT o.type hown A c xs hr hlen
  unfold Oper.wp execOp
  simp only [ho, resolve, invoke, builtin, Sem.run_bind, Sem.run_pure, Result.andThen_ok, List.map_toArray, List.map_cons, List.map_nil, hs, hx, hr]
  exact hK _ _ (h A' c' w' h2 h3 h4)

/-- append(s, b): the byte lies in a new block of its own. -/
theorem wpList_append8 {ops : Array Oper} {rest : List Oper} {o : Oper} {a : Act} {Q : Exit → Act → World → Prop} (hgd : o.guard = none) (s x : Operand) {t e : TypeId} (hT : T8 P t e)
    (ho : o.op = .call { callee := .builtin .append, args := #[s, x], argTypes := #[t, t] })
    (v : Value) (bs : List UInt8) (hs : a.eval s = v) (n : Int) (b : UInt8) (hn : n = b.toNat) (hown : Own8 w e v bs) (hx : a.eval x = .slice (some ⟨w.heap.size, 0, none⟩) 1 1) (hlen : bs.length + 1 ≤ 140737488355328)
    (h : ∀ g' c' w', Own8 w' e (.slice (some ⟨g', 0, none⟩) (bs.length + 1) c') (bs ++ [b]) → Fr (fun k => v.ownBlock = some k) w w' → Moved w v (.slice (some ⟨g', 0, none⟩) (bs.length + 1) c') → wpList P ops Q rest (a.put o.dst (.slice (some ⟨g', 0, none⟩) (bs.length + 1) c')) w') :
    wpList P ops Q (o :: rest) a (w.alloc (.cells #[.int .u8 n] e)) := by
  refine wpList_plain hgd fun K hK => ?_
  subst hn
  have hf : Fr (fun _ => False) w (w.alloc (.cells #[.int .u8 b.toNat] e)) := (Fr.refl _ _).alloc _
  obtain ⟨A', c', w', hr, h2, h3, h4, hg⟩ := run_append8 (P := P) (w.alloc (.cells #[.int .u8 b.toNat] e)) hT o.type (hown.fr hf (fun _ _ h => h)) (some ⟨w.heap.size, 0, none⟩) 1 [b]
    (fun _ => ⟨_, rfl, rfl, fun j hj => by
      have : j = 0 := by simpa using hj
      subst this
      exact (Bk.new w e #[.int .u8 b.toNat]).cell 0⟩) hlen
  obtain ⟨g, rfl⟩ := hg (by simp)
  unfold Oper.wp execOp
  simp only [List.length_singleton] at hr h2 h4
  simp only [ho, resolve, invoke, builtin, Sem.run_bind, Sem.run_pure, Result.andThen_ok, List.map_toArray, List.map_cons, List.map_nil, hs, hx, hr]
  refine hK _ _ (h g c' w' h2 ((hf.mono (fun _ _ h => h.elim)).trans h3 (fun _ _ h => h)) (h4.imp id (fun ⟨k, h, hk⟩ => ⟨k, h, by simp at hk; omega⟩)))
end

/-- The row v is new since w, and nothing that was there has turned. -/
def Fresh (w w' : World) (v : Value) : Prop := Fr (fun _ => False) w w' ∧ ∀ k, v.ownBlock = some k → w.heap.size ≤ k
theorem Fresh.step {w w1 w2 : World} {v1 v2 : Value} (h : Fresh w w1 v1) (hf : Fr (fun k => v1.ownBlock = some k) w1 w2) (hm : Moved w1 v1 v2) : Fresh w w2 v2 :=
  ⟨h.1.trans hf (fun x hx e => by have := h.2 x e; omega), fun k hk => by
    rcases hm with e | ⟨x, e, hx⟩
    · exact h.2 k (e.symm.trans hk)
    · have := h.1.size
      rw [e] at hk; injection hk with hk; omega⟩
theorem Fresh.quiet {w w1 w2 : World} {v : Value} (h : Fresh w w1 v) (hf : Fr (fun _ => False) w1 w2) : Fresh w w2 v := ⟨h.1.trans hf (fun _ _ h => h), h.2⟩
theorem Fresh.new (w : World) (o : Obj) (n c : Nat) : Fresh w (w.alloc o) (.slice (some ⟨w.heap.size, 0, none⟩) n c) :=
  ⟨(Fr.refl _ _).alloc _, fun k hk => by
    have : w.heap.size = k := by injection hk
    omega⟩
theorem Fresh.nil (w w' : World) (h : Fr (fun _ => False) w w') : Fresh w w' (.slice none 0 0) := ⟨h, fun k hk => by simp [Value.ownBlock] at hk⟩

theorem run_make8 {P : Program} {t e : TypeId} (hT : T8 P t e) (kl kc : IntKind) (l c : Int) (h0 : 0 ≤ l) (hlc : l ≤ c) (hb : c ≤ 140737488355328) (w : World) :
    ∃ cur : Array Value, cur.size = c.toNat ∧ (∀ i, i < c.toNat → cur[i]? = some (.int .u8 0)) ∧
      (Instr.makeSlice t (.int kl l) (.int kc c)).run P w = .ok (.slice (some ⟨w.heap.size, 0, none⟩) l.toNat c.toNat) (w.alloc (.cells cur e)) := by
  obtain ⟨i, hi, hz, hsz, hby⟩ := hT.info
  refine ⟨_, ?_, ?_, run_make (P := P) w t e i _ hT.sl hi hz kl kc l c h0 hlc (by rw [hby]; omega) (by omega)⟩
  · simp [madeCells, hsz]
  · intro j hj
    simp [madeCells, hsz, Value.cells, hj, Nat.mod_one]

end Go.Proofs.YtieoeoonopcjbaaGreatDoor

/- The codec's writer: fold, NewWriter, Int. -/
namespace Go.Proofs.YtieoeoonopcjbaaGreatDoor
open Go.RowKit

/-- P101's number of an integer. -/
def foldN (a : Int) : Nat := if 0 ≤ a then (2 * a).toNat else (-2 * a - 1).toNat

theorem foldN_lt (a : Int) (h0 : -9223372036854775808 ≤ a) (h1 : a ≤ 9223372036854775807) : foldN a < 18446744073709551616 := by
  unfold foldN; split <;> omega

theorem fold_bits (a : Int) (h0 : -9223372036854775808 ≤ a) (h1 : a ≤ 9223372036854775807) :
    bits BinOp.xor IntKind.u64 (IntKind.u64.wrap (IntKind.u64.wrap a * 2)) (IntKind.u64.wrap (a / 9223372036854775808)) = (foldN a : Int) := by
  simp only [IntKind.wrap_u64]
  unfold foldN
  by_cases h : 0 ≤ a
  · rw [if_pos h, show a / 9223372036854775808 = 0 by omega, show (0 : Int) % 18446744073709551616 = ((0 : Nat) : Int) by omega,
      show a % 18446744073709551616 * 2 % 18446744073709551616 = (((2 * a).toNat : Nat) : Int) by omega, u64_xor_nat _ _ (by omega) (by omega), Nat.xor_zero]
  · rw [if_neg h, show a / 9223372036854775808 = -1 by omega, show (-1 : Int) % 18446744073709551616 = ((18446744073709551615 : Nat) : Int) by omega,
      show a % 18446744073709551616 * 2 % 18446744073709551616 = (((18446744073709551616 + 2 * a).toNat : Nat) : Int) by omega, u64_xor_nat _ _ (by omega) (by omega)]
    have hx : ∀ x : BitVec 64, x ^^^ 18446744073709551615#64 = ~~~x := fun x => by
      rw [show (18446744073709551615#64 : BitVec 64) = BitVec.allOnes 64 from rfl, BitVec.xor_allOnes]
    have := congrArg BitVec.toNat (hx (BitVec.ofNat 64 (18446744073709551616 + 2 * a).toNat))
    rw [BitVec.toNat_xor, BitVec.toNat_not] at this
    simp only [BitVec.toNat_ofNat] at this
    rw [Nat.mod_eq_of_lt (by omega), show 18446744073709551615 % 2 ^ 64 = 18446744073709551615 from rfl] at this
    omega

/-- P101's bytes of a number: seven bits a byte. -/
def enc (u : Nat) : List UInt8 := if u < 128 then [UInt8.ofNat u] else UInt8.ofNat (u % 128 + 128) :: enc (u / 128)
  termination_by u
  decreasing_by omega

theorem enc_lt (u : Nat) (h : u < 128) : enc u = [UInt8.ofNat u] := by rw [enc, if_pos h]
theorem enc_ge (u : Nat) (h : 128 ≤ u) : enc u = UInt8.ofNat (u % 128 + 128) :: enc (u / 128) := by rw [enc, if_neg (by omega)]

theorem enc_length : ∀ (n u : Nat), u < 128 ^ n → (enc u).length ≤ max n 1
  | 0, u, h => by rw [enc_lt u (by simp at h; omega)]; simp
  | n + 1, u, h => by
    by_cases hu : u < 128
    · rw [enc_lt u hu]; simp
    · rw [enc_ge u (by omega), List.length_cons]
      have := enc_length n (u / 128) (by rw [Nat.pow_succ] at h; omega)
      by_cases hn : n = 0
      · subst hn; simp at h; omega
      · omega
theorem enc_length10 (u : Nat) (h : u < 18446744073709551616) : (enc u).length ≤ 10 := by
  have := enc_length 10 u (by omega); omega
theorem enc_pos (u : Nat) : 1 ≤ (enc u).length := by
  by_cases hu : u < 128
  · rw [enc_lt u hu]; simp
  · rw [enc_ge u (by omega)]; simp

theorem B8_ofNat (n : Nat) (h : n < 256) : B8 (UInt8.ofNat n) = .int .u8 (n : Int) := by
  simp [B8, Nat.mod_eq_of_lt h]

/-- A writer at block g, its bytes in v. -/
def Wr (w : World) (g : Nat) (v : Value) (bs : List UInt8) : Prop := Bk w g 183 #[v] ∧ Own8 w 5 v bs
/-- From a writer (v) to that writer later. -/
def WrTo (w : World) (g : Nat) (v : Value) (w' : World) (v' : Value) (bs : List UInt8) : Prop :=
  Wr w' g v' bs ∧ Fr (fun k => k = g ∨ v.ownBlock = some k) w w' ∧ Moved w v v'

theorem WrTo.refl {w : World} {g : Nat} {v : Value} {bs : List UInt8} (h : Wr w g v bs) : WrTo w g v w v bs := ⟨h, Fr.refl _ _, Moved.refl _ _⟩
theorem WrTo.trans {w w1 w2 : World} {g : Nat} {v v1 v2 : Value} {b1 b2 : List UInt8} (h : WrTo w g v w1 v1 b1) (k : WrTo w1 g v1 w2 v2 b2) : WrTo w g v w2 v2 b2 :=
  ⟨k.1, h.2.1.trans k.2.1 (fun x hx e => e.imp id (fun e => h.2.2.old hx e)), h.2.2.trans k.2.2 h.2.1.size⟩

theorem or_val (n : Nat) : bits BinOp.or IntKind.u8 ((n : Int) % 256) 128 = ((UInt8.ofNat (n % 128 + 128)).toNat : Int) := by
  rw [show (n : Int) % 256 = ((n % 256 : Nat) : Int) by omega, show (128 : Int) = ((128 : Nat) : Int) from rfl, u8_or_nat _ _ (by omega) (by omega)]
  have : ∀ x : Fin 256, x.val ||| 128 = x.val % 128 + 128 := by decide +kernel
  have := this ⟨n % 256, by omega⟩
  simp only at this
  rw [this, UInt8.toNat_ofNat_of_lt' (by show _ < 256; omega)]; omega
theorem small_val (n : Nat) (h : n < 256) : (n : Int) = ((UInt8.ofNat n).toNat : Int) := by
  rw [UInt8.toNat_ofNat_of_lt' h]

theorem Tryz.info5 : (Tryz.prog.info? 5).map (fun i => (i.zero, i.size, i.bytes)) = some (some (.int .u8 0), 1, 1) := by kernel_rfl

set_option maxHeartbeats 400000 in
theorem fold_any (a : Int) (h0 : -9223372036854775808 ≤ a) (h1 : a ≤ 9223372036854775807) (w : World) :
    Calls Tryz.prog 114 #[.int .i64 a] w fun e w' => e = .returned (.int .u64 (foldN a)) ∧ w = w' := by
  have hb := fold_bits a h0 h1
  go_enter Tryz.func114, Tryz.ntmps114
  go_wp2
  go_ret
  exact ⟨rfl, rfl⟩

set_option maxHeartbeats 400000 in
theorem newWriter_any (w : World) :
    Calls Tryz.prog 42 #[] w fun e w' => e = .returned (.pointer (some ⟨w.heap.size, 0, none⟩)) ∧ w' = w.alloc (.cells #[.slice none 0 0] 183) := by
  go_enter Tryz.func42, Tryz.ntmps42
  go_wp2
  go_ret
  exact ⟨rfl, rfl⟩

theorem Tryz.t8 : T8 Tryz.prog 23 5 := by
  obtain ⟨i0, hi, hz0, hz1, hz2⟩ := info_parts Tryz.info5
  exact ⟨Tryz.underlying23, i0, hi, hz0, hz1, hz2⟩

/-- The store of the grown row into the writer's field. -/
theorem wr_step {w w1 : World} {g : Nat} {v v1 : Value} {bs bs1 : List UInt8} (hw : Wr w g v bs) (ho : Own8 w1 5 v1 bs1) (hf : Fr (fun k => v.ownBlock = some k) w w1) (hat : Moved w v v1) :
    WrTo w g v (w1.setCell ⟨g, 0, none⟩ v1) v1 bs1 := by
  have hne := hw.2.ne hw.1 (by decide)
  have hbk : Bk w1 g 183 #[v] := hw.1.fr hf hne
  have hne1 : v1.ownBlock ≠ some g := ho.ne hbk (by decide)
  refine ⟨⟨by simpa using hbk.set 0 v1, ?_⟩, ?_, hat⟩
  · exact ho.fr (S := fun k => k = g) (Fr.setCell (S := fun k => k = g) (p := ⟨g, 0, none⟩) (Fr.refl _ _) (fun _ => rfl) _) (fun k hk e => hne1 (by rw [hk, e]))
  · exact (hf.mono (fun _ _ h => .inr h)).setCell (fun _ => .inl rfl) _
/-- The writer's own cell behind the append. -/
theorem wr_cell {w w1 : World} {g : Nat} {v : Value} {bs : List UInt8} (hw : Wr w g v bs) (hf : Fr (fun k => v.ownBlock = some k) w w1) :
    w1.cell? ⟨g, 0, none⟩ = some v ∧ w1.frozen? ⟨g, 0, none⟩ = false :=
  have hb : Bk w1 g 183 #[v] := hw.1.fr hf (hw.2.ne hw.1 (by decide))
  ⟨hb.cell 0, hb.frozen 0⟩

set_option maxRecDepth 100000 in
set_option maxHeartbeats 1000000 in
theorem wInt_any (g : Nat) (v : Value) (a : Int) (bs : List UInt8) (w : World) (h0 : -9223372036854775808 ≤ a) (h1 : a ≤ 9223372036854775807) (hw : Wr w g v bs) (hb : bs.length ≤ 70368744177664) :
    Calls Tryz.prog 43 #[.pointer (some ⟨g, 0, none⟩), .int .i64 a] w fun e w' => e = .returned (.pointer (some ⟨g, 0, none⟩)) ∧ ∃ v', WrTo w g v w' v' (bs ++ enc (foldN a)) := by
  go_enter Tryz.func43, Tryz.ntmps43
  go_wp2_with (go_at_call 114; refine (fold_any _ h0 h1 _).mono ?_; rintro e w' ⟨rfl, rfl⟩)
  have hlt := foldN_lt a h0 h1
  have he10 := enc_length10 _ hlt
  go_loopw [5] (fun u wr => ∃ (n : Nat) (v' : Value) (done : List UInt8), (n : Int) ≤ 18446744073709551615 ∧ u = .int .u64 n ∧ WrTo w g v wr v' (bs ++ done) ∧ done ++ enc n = enc (foldN a)) (fun u _ => (intOf u).toNat)
  case atStart => exact ⟨foldN a, v, [], by omega, rfl, by simpa using WrTo.refl hw, rfl⟩
  case round =>
    obtain ⟨n, v', done, hn, rfl, hto, hdone⟩ := hrel
    clear hlt
    have hlen : (bs ++ done).length ≤ 70368744177680 := by
      have := congrArg List.length hdone
      simp at this ⊢; omega
    have HD := Lib.hid hdone
    clear hdone he10
    have hcell : wr.cell? ⟨g, 0, none⟩ = some v' := hto.1.1.cell 0
    have hfro : wr.frozen? ⟨g, 0, none⟩ = false := hto.1.1.frozen 0
    have hw' := hto.1
    by_cases hlt : n < 128
    · go_wp2_with (at_builtin; (refine wpList_append8 _ rfl (.tmp 28) (.tmp 31) Tryz.t8 rfl v' _ rfl _ (UInt8.ofNat n) (small_val n (by omega)) hw'.2 rfl (by omega) ?_; clear hcell hfro; intro g1 c1 w1 ho1 hf1 hm1; obtain ⟨hcell, hfro⟩ := wr_cell hw' hf1))
      go_ret
      have h2 := wr_step hw' ho1 hf1 hm1
      rw [List.append_assoc, List.length_append] at h2
      refine ⟨rfl, _, hto.trans (by rw [← HD.out, enc_lt n hlt]; exact h2)⟩
    · go_wp2_with (at_builtin; (refine wpList_append8 _ rfl (.tmp 14) (.tmp 18) Tryz.t8 rfl v' _ rfl _ (UInt8.ofNat (n % 128 + 128)) (or_val n) hw'.2 rfl (by omega) ?_; clear hcell hfro; intro g1 c1 w1 ho1 hf1 hm1; obtain ⟨hcell, hfro⟩ := wr_cell hw' hf1))
      go_roundw
      case rel =>
        have h2 := wr_step hw' ho1 hf1 hm1
        rw [List.append_assoc, List.length_append] at h2
        refine ⟨n / 128, _, _, by omega, ?_, hto.trans h2, ?_⟩
        · simp
        · rw [← HD.out, enc_ge n (by omega)]; simp
      case measure => simp [intOf]; omega
end Go.Proofs.YtieoeoonopcjbaaGreatDoor

/- The codec's writer, on: bytes.Clone, Bytes, Done. -/
namespace Go.Proofs.YtieoeoonopcjbaaGreatDoor
open Go.RowKit

theorem foldN_nat (n : Nat) : foldN (n : Int) = 2 * n := by unfold foldN; rw [if_pos (by omega)]; omega

/-- A slice value that reads as xs, and lies apart from what S holds. -/
def Apart (S : Nat → Prop) (A : Option Addr) (n : Nat) : Prop := ∀ ad, A = some ad → 0 < n → ¬ S ad.block

set_option maxRecDepth 100000 in
set_option maxHeartbeats 1000000 in
theorem clone_any (A : Option Addr) (n c : Nat) (xs : List UInt8) (w : World) (hr : Rd8 w A xs) (hn : xs.length = n) (hb : n ≤ 140737488355328) :
    Calls Tryz.prog 100 #[.slice A n c] w fun e w' => ∃ A' c', e = .returned (.slice A' n c') ∧ Own8 w' 5 (.slice A' n c') xs ∧ Fresh w w' (.slice A' n c') := by
  rcases A with _ | ad
  · have h0 : xs = [] := by
      rcases Nat.eq_zero_or_pos xs.length with h0 | h0
      · exact List.eq_nil_of_length_eq_zero h0
      · obtain ⟨ad, h, _⟩ := hr h0; cases h
    subst h0
    simp at hn
    subst hn
    have hq := fun W => Lib.run_eql_slice_nil (P := Tryz.prog) W 23 5 none 0 c 0 0 Tryz.underlying23
    go_enter Tryz.func100, Tryz.ntmps100
    go_wp2
    go_ret
    exact ⟨none, 0, rfl, Own8.nil _ _, Fresh.nil _ _ (Fr.refl _ _)⟩
  · have hq := fun W => Lib.run_eql_slice_nil (P := Tryz.prog) W 23 5 (some ad) n c 0 0 Tryz.underlying23
    go_enter Tryz.func100, Tryz.ntmps100
    have hf0 : Fr (fun _ => False) w (w.alloc (.cells #[] 5)) := (Fr.refl _ _).alloc _
    go_wp2_with (at_builtin; (refine wpList_append8s _ rfl (.tmp 5) (.tmp 6) Tryz.t8 rfl _ [] rfl (Own8.fresh w _ #[] 0 rfl (by decide)) (some ad) n c xs rfl hn (hr.fr hf0 (fun _ _ _ h => h)) (by simp; omega) ?_; intro A1 c1 w1 ho1 hf1 hm1))
    go_ret
    simp only [List.length_nil, Nat.zero_add, List.nil_append, hn] at ho1 hm1 ⊢
    exact ⟨A1, c1, rfl, ho1, (Fresh.new w _ 0 0).step hf1 hm1⟩

set_option maxRecDepth 100000 in
set_option maxHeartbeats 1000000 in
theorem wDone_any (g : Nat) (v : Value) (bs : List UInt8) (w : World) (hw : Wr w g v bs) (hb : bs.length ≤ 140737488355328) :
    Calls Tryz.prog 45 #[.pointer (some ⟨g, 0, none⟩)] w fun e w' => ∃ A' c', e = .returned (.slice A' bs.length c') ∧ Own8 w' 5 (.slice A' bs.length c') bs ∧ Fresh w w' (.slice A' bs.length c') := by
  obtain ⟨A, c, rfl⟩ : ∃ A c, v = .slice A bs.length c := by
    rcases hw.2.form with ⟨rfl, rfl⟩ | ⟨g1, cap, rfl, _, _⟩
    · exact ⟨none, 0, rfl⟩
    · exact ⟨_, _, rfl⟩
  have hcell : w.cell? ⟨g, 0, none⟩ = some (.slice A bs.length c) := hw.1.cell 0
  have hfro : w.frozen? ⟨g, 0, none⟩ = false := hw.1.frozen 0
  go_enter Tryz.func45, Tryz.ntmps45
  go_wp2_with (go_at_call 100; refine (clone_any A _ c bs w hw.2.rd rfl hb).mono ?_; rintro e w' ⟨A', c', rfl, h1, h2⟩)
  go_ret
  exact ⟨A', c', rfl, h1, h2⟩

set_option maxRecDepth 100000 in
set_option maxHeartbeats 1000000 in
theorem wBytes_any (g : Nat) (v : Value) (bs : List UInt8) (A : Option Addr) (n c : Nat) (xs : List UInt8) (w : World) (hw : Wr w g v bs) (hb : bs.length ≤ 17592186044416) (hr : Rd8 w A xs) (hn : xs.length = n) (hnb : n ≤ 17592186044416)
    (hap : Apart (fun k => k = g ∨ v.ownBlock = some k) A n) :
    Calls Tryz.prog 44 #[.pointer (some ⟨g, 0, none⟩), .slice A n c] w fun e w' => e = .returned (.pointer (some ⟨g, 0, none⟩)) ∧ ∃ v', WrTo w g v w' v' (bs ++ (enc (2 * n) ++ xs)) := by
  have hcell : w.cell? ⟨g, 0, none⟩ = some v := hw.1.cell 0
  have hfro : w.frozen? ⟨g, 0, none⟩ = false := hw.1.frozen 0
  go_enter Tryz.func44, Tryz.ntmps44
  go_wp2_with (first
    | (go_at_call 43; refine (wInt_any g v n bs w (by omega) (by omega) hw (by omega)).mono ?_; rintro e w1 ⟨rfl, v1, h1⟩; rw [foldN_nat] at h1; clear hcell hfro; have hcell := h1.1.1.cell 0; have hfro := h1.1.1.frozen 0; simp at hcell)
    | (at_builtin; (refine wpList_append8s _ rfl (.tmp 13) (.tmp 14) Tryz.t8 rfl v1 _ rfl h1.1.2 A n c xs rfl hn (hr.fr h1.2.1 (by rw [hn]; exact hap)) (by have := enc_length10 (2 * n) (by omega); simp; omega) ?_; intro A2 c2 w2 ho2 hf2 hm2; clear hcell hfro; obtain ⟨hcell, hfro⟩ := wr_cell h1.1 hf2)))
  go_ret
  have h2 := h1.trans (wr_step h1.1 ho2 hf2 hm2)
  simp only [hn, List.append_assoc, List.length_append] at h2
  exact ⟨rfl, _, by simpa using h2⟩
end Go.Proofs.YtieoeoonopcjbaaGreatDoor

/- The sum: CRC-32C, half a byte at a time. -/
namespace Go.Proofs.YtieoeoonopcjbaaGreatDoor
open Go.RowKit

/-- One bit of the sum. -/
def crc1 (r : Nat) : Nat := if r % 2 = 1 then (r / 2) ^^^ 0x82F63B78 else r / 2
def crc8 (r : Nat) : Nat := crc1 (crc1 (crc1 (crc1 (crc1 (crc1 (crc1 (crc1 r)))))))
/-- The sum's register behind a byte. -/
def crcB (r : Nat) (b : UInt8) : Nat := crc8 (r ^^^ b.toNat)
def crcL (r : Nat) (l : List UInt8) : Nat := l.foldl crcB r
def crcOf (l : List UInt8) : Nat := 4294967295 - crcL 4294967295 l

theorem crc1_lt (r : Nat) (h : r < 4294967296) : crc1 r < 4294967296 := by
  unfold crc1; split
  · exact Nat.xor_lt_two_pow (n := 32) (by omega) (by omega)
  · omega
theorem crcB_lt (r : Nat) (b : UInt8) (h : r < 4294967296) : crcB r b < 4294967296 := by
  unfold crcB crc8
  have := b.toNat_lt
  have : r ^^^ b.toNat < 4294967296 := Nat.xor_lt_two_pow (n := 32) h (by omega)
  exact crc1_lt _ (crc1_lt _ (crc1_lt _ (crc1_lt _ (crc1_lt _ (crc1_lt _ (crc1_lt _ (crc1_lt _ this)))))))
theorem crcL_lt : ∀ (l : List UInt8) (r : Nat), r < 4294967296 → crcL r l < 4294967296
  | [], _, h => h
  | b :: l, r, h => crcL_lt l (crcB r b) (crcB_lt r b h)

/-- The table of half bytes. -/
def halfN (i : Nat) : Nat := crc1 (crc1 (crc1 (crc1 i)))
def step4 (x : Nat) : Nat := x / 16 ^^^ halfN (x % 16)

theorem crc1_xor (a b : Nat) (hb : b % 2 = 0) : crc1 (a ^^^ b) = crc1 a ^^^ b / 2 := by
  have h1 : (a ^^^ b) % 2 = a % 2 := by
    have := @Nat.xor_mod_two_eq_one a b
    omega
  have h2 : (a ^^^ b) / 2 = a / 2 ^^^ b / 2 := by
    have := @Nat.shiftRight_xor_distrib 1 a b
    simpa [Nat.shiftRight_succ] using this
  unfold crc1
  rw [h1, h2]
  split
  · rw [Nat.xor_assoc, Nat.xor_comm (b / 2), ← Nat.xor_assoc]
  · rfl
theorem crc_half (x : Nat) : crc1 (crc1 (crc1 (crc1 x))) = step4 x := by
  have h : x = x % 16 ^^^ x / 16 * 16 := by
    have := nat_join 4 (x / 16 * 16) (x % 16) (by omega) (by omega)
    rw [Nat.xor_comm]
    have h2 : x / 16 * 16 ^^^ x % 16 = x / 16 * 16 ||| x % 16 := by
      apply Nat.eq_of_testBit_eq
      intro i
      rw [Nat.testBit_xor, Nat.testBit_or]
      by_cases hi : i < 4
      · have : (x / 16 * 16).testBit i = false := by
          rw [show (16 : Nat) = 2 ^ 4 from rfl, Nat.mul_comm, Nat.testBit_two_pow_mul]; simp; omega
        simp [this]
      · have : (x % 16).testBit i = false := by
          rw [show (16 : Nat) = 2 ^ 4 from rfl, Nat.testBit_mod_two_pow]; simp; omega
        simp [this]
    rw [h2, this]; omega
  conv => lhs; rw [h]
  rw [crc1_xor _ _ (by omega), crc1_xor _ _ (by omega), crc1_xor _ _ (by omega), crc1_xor _ _ (by omega)]
  unfold step4 halfN
  rw [Nat.xor_comm, show x / 16 * 16 / 2 / 2 / 2 / 2 = x / 16 by omega]
theorem crcB_step (r : Nat) (b : UInt8) : crcB r b = step4 (step4 (r ^^^ b.toNat)) := by
  unfold crcB crc8
  rw [crc_half, crc_half]
theorem halfN_lt (i : Nat) (h : i < 16) : halfN i < 4294967296 := by
  unfold halfN; exact crc1_lt _ (crc1_lt _ (crc1_lt _ (crc1_lt _ (by omega))))
theorem step4_lt (x : Nat) (h : x < 4294967296) : step4 x < 4294967296 := by
  rw [← crc_half]; exact crc1_lt _ (crc1_lt _ (crc1_lt _ (crc1_lt _ h)))

theorem xor_val (r : Nat) (b : Nat) (hr : r < 4294967296) (hb : b < 256) : bits BinOp.xor IntKind.u32 (r : Int) (b : Int) = ((r ^^^ b : Nat) : Int) := u32_xor_nat _ _ hr (by omega)
theorem and_val (x : Nat) (hx : x < 4294967296) : bits BinOp.and IntKind.u32 (x : Int) 15 = ((x % 16 : Nat) : Int) := by
  rw [show (15 : Int) = ((15 : Nat) : Int) from rfl, u32_and_nat _ _ hx (by omega), nat_mask4]
theorem step_val (x : Nat) (hx : x < 4294967296) : bits BinOp.xor IntKind.u32 ((x : Int) / 16) (halfN (x % 16) : Int) = (step4 x : Int) := by
  rw [show (x : Int) / 16 = ((x / 16 : Nat) : Int) by omega, u32_xor_nat _ _ (by omega) (halfN_lt _ (by omega))]
  rfl

theorem not_val (x : Nat) (hx : x < 4294967296) : bits BinOp.xor IntKind.u32 IntKind.u32.max (x : Int) = ((4294967295 - x : Nat) : Int) := by
  rw [show IntKind.u32.max = ((4294967295 : Nat) : Int) from rfl, u32_xor_nat _ _ (by omega) hx]
  have h : ∀ x : BitVec 32, 4294967295#32 ^^^ x = ~~~x := fun x => by
    rw [show (4294967295#32 : BitVec 32) = BitVec.allOnes 32 from rfl, BitVec.allOnes_xor]
  have := congrArg BitVec.toNat (h (BitVec.ofNat 32 x))
  rw [BitVec.toNat_xor, BitVec.toNat_not] at this
  simp only [BitVec.toNat_ofNat] at this
  rw [Nat.mod_eq_of_lt (show x < 2 ^ 32 by omega), show 4294967295 % 2 ^ 32 = 4294967295 from rfl] at this
  rw [this]

end Go.Proofs.YtieoeoonopcjbaaGreatDoor

/- Words of four bytes, frames. -/
namespace Go.Proofs.YtieoeoonopcjbaaGreatDoor
open Go.RowKit

/-- A number's four bytes, the lowest first. -/
def four (v : Nat) : List UInt8 := [UInt8.ofNat (v % 256), UInt8.ofNat (v / 256 % 256), UInt8.ofNat (v / 65536 % 256), UInt8.ofNat (v / 16777216 % 256)]
/-- The number of four bytes. -/
def le4 (a b c d : Nat) : Nat := a + 256 * b + 65536 * c + 16777216 * d
def le32 (l : List UInt8) : Nat := le4 (l.getD 0 0).toNat (l.getD 1 0).toNat (l.getD 2 0).toNat (l.getD 3 0).toNat
theorem le32_lt (l : List UInt8) : le32 l < 4294967296 := by
  unfold le32 le4
  have h0 := (l.getD 0 0).toNat_lt
  have h1 := (l.getD 1 0).toNat_lt
  have h2 := (l.getD 2 0).toNat_lt
  have h3 := (l.getD 3 0).toNat_lt
  omega

theorem four_rd (w : World) (x : Nat) (hx : (x : Int) ≤ 4294967295) :
    Rd8 (w.alloc (.cells #[.int .u8 ((x : Int) % 256), .int .u8 ((x : Int) / 256 % 256), .int .u8 ((x : Int) / 65536 % 256), .int .u8 ((x : Int) / 16777216)] 5)) (some ⟨w.heap.size, 0, none⟩) (four x) := fun _ => by
  refine ⟨_, rfl, rfl, fun j hj => ?_⟩
  have hj4 : j < 4 := hj
  rw [Nat.zero_add, (Bk.new w 5 _).cell j]
  match j, hj4 with
  | 0, _ => simp [four, UInt8.toNat_ofNat']
  | 1, _ => simp [four, UInt8.toNat_ofNat']
  | 2, _ => simp [four, UInt8.toNat_ofNat']
  | 3, _ => simp [four, UInt8.toNat_ofNat']; omega

theorem le4_val (a b c d : Nat) (ha : a < 2 ^ 8) (hb : b < 2 ^ 8) (hc : c < 2 ^ 8) (hd : d < 2 ^ 8) :
    bits BinOp.or IntKind.u32 (bits BinOp.or IntKind.u32 (bits BinOp.or IntKind.u32 (a : Int) ((b : Int) * 256)) ((c : Int) * 65536)) ((d : Int) * 16777216) = (le4 a b c d : Int) := by
  have o1 : a ||| b * 256 = a + b * 256 := by rw [Nat.or_comm, nat_join 8 _ _ (by omega) (by omega)]; omega
  have o2 : (a + b * 256) ||| c * 65536 = a + b * 256 + c * 65536 := by rw [Nat.or_comm, nat_join 16 _ _ (by omega) (by omega)]; omega
  have o3 : (a + b * 256 + c * 65536) ||| d * 16777216 = a + b * 256 + c * 65536 + d * 16777216 := by rw [Nat.or_comm, nat_join 24 _ _ (by omega) (by omega)]; omega
  rw [show (b : Int) * 256 = ((b * 256 : Nat) : Int) by omega, u32_or_nat _ _ (by omega) (by omega), o1,
    show (c : Int) * 65536 = ((c * 65536 : Nat) : Int) by omega, u32_or_nat _ _ (by omega) (by omega), o2,
    show (d : Int) * 16777216 = ((d * 16777216 : Nat) : Int) by omega, u32_or_nat _ _ (by omega) (by omega), o3]
  unfold le4; omega

/-- P103's frame of bytes. -/
def frameOf (bs : List UInt8) : List UInt8 := four (bs.length % 4294967296) ++ four (crcOf (four (bs.length % 4294967296))) ++ bs ++ four (crcOf bs)

theorem crcOf_le (l : List UInt8) : (crcOf l : Int) ≤ 4294967295 := by unfold crcOf; omega

end Go.Proofs.YtieoeoonopcjbaaGreatDoor

/- A frame is read. -/
namespace Go.Proofs.YtieoeoonopcjbaaGreatDoor
open Go.RowKit

/-- An error that is a Fault in a block of its own. -/
def FaultAt (w : World) (fb : Nat) (er at_ : Nat) (what : ByteArray) : Prop := Bk w fb 99 #[.int .i64 er, .int .i64 at_, .string what]
def faultV (fb : Nat) : Value := .iface 96 (.pointer (some ⟨fb, 0, none⟩))

def sHead : ByteArray := ⟨#[104, 101, 97, 100]⟩
def sLength : ByteArray := ⟨#[108, 101, 110, 103, 116, 104]⟩
def sBody : ByteArray := ⟨#[98, 111, 100, 121]⟩

/-- What reading a frame comes to. -/
inductive RF where
  | bad (er at_ : Nat) (what : ByteArray)
  | good (body : List UInt8) (n : Nat)

def rdFrame (xs : List UInt8) : RF :=
  if xs.length < 8 then .bad 7 0 sHead
  else if crcOf (xs.take 4) ≠ le32 (xs.drop 4) then .bad 9 0 sHead
  else if 1048576 < le32 xs then .bad 10 0 sLength
  else if xs.length < 12 + le32 xs then .bad 7 8 sBody
  else if crcOf ((xs.drop 8).take (le32 xs)) ≠ le32 (xs.drop (8 + le32 xs)) then .bad 9 8 sBody
  else .good ((xs.drop 8).take (le32 xs)) (12 + le32 xs)

def RFPost (w : World) (r : RF) (e : Ending) (w' : World) : Prop :=
  match r with
  | .bad er at_ what => ∃ fb, e = .returned (.tuple #[.slice none 0 0, .int .i64 0, faultV fb]) ∧ FaultAt w' fb er at_ what ∧ Fr (fun _ => False) w w' ∧ w.heap.size ≤ fb
  | .good body n => ∃ A' c', e = .returned (.tuple #[.slice A' body.length c', .int .i64 n, .nilIface]) ∧ Own8 w' 5 (.slice A' body.length c') body ∧ Fresh w w' (.slice A' body.length c')

theorem Rd8.part {w : World} {b o : Nat} {xs : List UInt8} (h : Rd8 w (some ⟨b, o, none⟩) xs) (k m : Nat) : Rd8 w (some ⟨b, o + k, none⟩) ((xs.drop k).take m) := fun h0 => by
  simp at h0
  obtain ⟨ad, e, _, hc⟩ := h (by omega)
  injection e with e
  subst e
  refine ⟨_, rfl, rfl, fun j hj => ?_⟩
  simp at hj
  have := hc (k + j) (by omega)
  rw [Nat.add_assoc]
  simpa using this
theorem Rd8.tail {w : World} {b o : Nat} {xs : List UInt8} (h : Rd8 w (some ⟨b, o, none⟩) xs) (k : Nat) : Rd8 w (some ⟨b, o + k, none⟩) (xs.drop k) := by
  have := h.part k xs.length
  rwa [List.take_of_length_le (by simp)] at this
theorem Rd8.front {w : World} {b o : Nat} {xs : List UInt8} (h : Rd8 w (some ⟨b, o, none⟩) xs) (m : Nat) : Rd8 w (some ⟨b, o, none⟩) (xs.take m) := by
  have := h.part 0 m
  simpa using this

theorem Fr.of_drewN {S : Nat → Prop} {a w w' : World} (h : Fr S a w) {n : Nat} (e : w.drewN n = w') : Fr S a w' := by subst e; exact h.drewN n

end Go.Proofs.YtieoeoonopcjbaaGreatDoor

/- errors.Is, at a codec's Fault and an Errno. -/
namespace Go.Proofs.YtieoeoonopcjbaaGreatDoor
open Go.RowKit Go.Extern.Stop Go.Stop Go.Extern

theorem Tryz.isTypeOfN (v : Value) (w : World) : (callFunc 105 #[.iface 43 v]).run Tryz.prog w = .ok (.value (.iface 217 (.agg #[.pointer (some ⟨6, 43, none⟩)]))) w := by kernel_rfl
theorem Tryz.isComparableN (w : World) : (callFunc 224 #[.agg #[.pointer (some ⟨6, 43, none⟩)]]).run Tryz.prog w = .ok (.value (.bool true)) w := by kernel_rfl
theorem Tryz.isMethodComparable (h : Value) (w : World) : (Go.method (299 + 100) 217 (.agg #[h]) "Comparable").run Tryz.prog w = .ok (224, .agg #[h]) w := by kernel_rfl
theorem Tryz.methodUnwrapF (v : Value) (w : World) : (Go.method (299 + 100) 96 v "Unwrap").run Tryz.prog w = .ok (218, v) w := by kernel_rfl
theorem Tryz.isCompN : (Tryz.prog.info? 43).map (·.comparable) = some true := by kernel_rfl

theorem Tryz.noIsF (v : Value) (xT : TypeId) (w : World) : (Instr.typeAssert (.iface 96 v) xT 228 true).run Tryz.prog w = .ok (.tuple #[.nilIface, .bool false]) w := run_typeAssert_lacksB Tryz.underlying228 (by kernel_rfl) (by kernel_rfl) v xT w
theorem Tryz.hasUnwrapF (v : Value) (xT : TypeId) (w : World) : (Instr.typeAssert (.iface 96 v) xT 224 true).run Tryz.prog w = .ok (.tuple #[.iface 96 v, .bool true]) w := run_typeAssert_hasB Tryz.underlying224 (by kernel_rfl) v xT w
theorem Tryz.noIsN (v : Value) (xT : TypeId) (w : World) : (Instr.typeAssert (.iface 43 v) xT 228 true).run Tryz.prog w = .ok (.tuple #[.nilIface, .bool false]) w := run_typeAssert_lacksB Tryz.underlying228 (by kernel_rfl) (by kernel_rfl) v xT w
theorem Tryz.noUnwrapN (v : Value) (xT : TypeId) (w : World) : (Instr.typeAssert (.iface 43 v) xT 224 true).run Tryz.prog w = .ok (.tuple #[.nilIface, .bool false]) w := run_typeAssert_lacksB Tryz.underlying224 (by kernel_rfl) (by kernel_rfl) v xT w
theorem Tryz.noUnwrapsN (v : Value) (xT : TypeId) (w : World) : (Instr.typeAssert (.iface 43 v) xT 225 true).run Tryz.prog w = .ok (.tuple #[.nilIface, .bool false]) w := run_typeAssert_lacksB Tryz.underlying225 (by kernel_rfl) (by kernel_rfl) v xT w

/-- Two interface values of one integer type are equal as their numbers are. -/
theorem run_eql_ints {P : Program} (w : World) {ti tn : TypeId} {ms : Array (String × TypeId)} {i : TypeInfo} {k : IntKind} (a b : Int)
    (hi : P.underlying ti = some (.interface ms)) (hn : P.underlying tn = some (.int k)) (hinfo : P.info? tn = some i) (hcomp : i.comparable = true) :
    (binOp .eql ti (.iface tn (.int k a)) (.iface tn (.int k b))).run P w = .ok (.bool (a == b)) w := by
  have h : ∀ d : Nat, (Op.equalIn (d + 2) ti (.iface tn (.int k a)) (.iface tn (.int k b))).run P w = .ok (a == b) w := fun d => by
    simp [Op.equalIn, run_underlying hi, run_underlying hn, typeInfo, hinfo, hcomp]
  simp only [binOp]
  simp [Op.equal, Op.maxDepth, h 9998]

set_option maxRecDepth 100000 in
set_option maxHeartbeats 2000000 in
theorem is_fault_same (b o : Nat) (k t : Int) (hk : (k == t) = true) (w : World) (hc : w.cell? ⟨b, o, none⟩ = some (.int .i64 k)) :
    Calls Tryz.prog 32 #[.iface 96 (.pointer (some ⟨b, o, none⟩)), .iface 43 (.int .i64 t)] w fun e w' => e = .returned (.bool true) ∧ w = w' := by
  obtain ⟨i, hi, hcmp⟩ := Option.map_eq_some_iff.1 Tryz.isCompN
  have tT := Tryz.isTypeOfN
  have cT := Tryz.isComparableN
  have mC := Tryz.isMethodComparable
  have mU := Tryz.methodUnwrapF
  have hty := run_eql_iface_types (P := Tryz.prog) 96 43 (.pointer (some ⟨b, o, none⟩)) (.int .i64 t) Tryz.underlying27 (by decide) w
  have heq := run_eql_ints (P := Tryz.prog) w k t Tryz.underlying27 Tryz.underlying43 hi hcmp
  rw [hk] at heq
  clear hi hcmp hk
  have n1 := Tryz.noIsF
  have n2 := Tryz.hasUnwrapF
  have n3 := Tryz.noIsN
  have n4 := Tryz.noUnwrapN
  have n5 := Tryz.noUnwrapsN
  go_enter Tryz.func32, Tryz.ntmps32
  go_wp2
  refine wp_loop_rounds 2 ?_
  rw [rounds_succ]
  go_wp2
  rw [rounds_succ]
  go_wp2
  go_ret
  exact ⟨rfl, rfl⟩

set_option maxRecDepth 100000 in
set_option maxHeartbeats 2000000 in
theorem is_fault_other (b o : Nat) (k t : Int) (hk : (k == t) = false) (w : World) (hc : w.cell? ⟨b, o, none⟩ = some (.int .i64 k)) :
    Calls Tryz.prog 32 #[.iface 96 (.pointer (some ⟨b, o, none⟩)), .iface 43 (.int .i64 t)] w fun e w' => e = .returned (.bool false) ∧ w = w' := by
  obtain ⟨i, hi, hcmp⟩ := Option.map_eq_some_iff.1 Tryz.isCompN
  have tT := Tryz.isTypeOfN
  have cT := Tryz.isComparableN
  have mC := Tryz.isMethodComparable
  have mU := Tryz.methodUnwrapF
  have hty := run_eql_iface_types (P := Tryz.prog) 96 43 (.pointer (some ⟨b, o, none⟩)) (.int .i64 t) Tryz.underlying27 (by decide) w
  have heq := run_eql_ints (P := Tryz.prog) w k t Tryz.underlying27 Tryz.underlying43 hi hcmp
  rw [hk] at heq
  clear hi hcmp hk
  have n1 := Tryz.noIsF
  have n2 := Tryz.hasUnwrapF
  have n3 := Tryz.noIsN
  have n4 := Tryz.noUnwrapN
  have n5 := Tryz.noUnwrapsN
  go_enter Tryz.func32, Tryz.ntmps32
  go_wp2
  refine wp_loop_rounds 2 ?_
  rw [rounds_succ]
  go_wp2
  rw [rounds_succ]
  go_wp2
  go_ret
  exact ⟨rfl, rfl⟩


end Go.Proofs.YtieoeoonopcjbaaGreatDoor

/- The codec's reader: failed, next, number. -/
namespace Go.Proofs.YtieoeoonopcjbaaGreatDoor
open Go.RowKit

/-- A reader at block g: the bytes xs, the place at, the fault (er 0: none). -/
structure Rdr (w : World) (g : Nat) (A : Option Addr) (n c : Nat) (xs : List UInt8) (at_ er fat : Int) (what : ByteArray) : Prop where
  bk : Bk w g 178 #[.slice A n c, .int .i64 at_, .int .i64 er, .int .i64 fat, .string what]
  rd : Rd8 w A xs
  len : xs.length = n
  cap : n ≤ c
  big : n ≤ 140737488355328
  apart : ∀ ad, A = some ad → 0 < n → ad.block ≠ g
  spot : ∀ ad, A = some ad → 0 < n → ad.spot = none

section
variable {w w' : World} {g : Nat} {A : Option Addr} {n c : Nat} {xs : List UInt8} {at_ er fat : Int} {what : ByteArray}
theorem Rdr.fr {S : Nat → Prop} (h : Rdr w g A n c xs at_ er fat what) (hf : Fr S w w') (hg : ¬ S g) (hA : ∀ ad, A = some ad → 0 < n → ¬ S ad.block) : Rdr w' g A n c xs at_ er fat what :=
  { h with bk := h.bk.fr hf hg, rd := h.rd.fr hf (by rw [h.len]; exact hA) }
theorem Rdr.quiet (h : Rdr w g A n c xs at_ er fat what) (hf : Fr (fun _ => False) w w') : Rdr w' g A n c xs at_ er fat what := h.fr hf (fun h => h) (fun _ _ _ h => h)
theorem Rdr.set (h : Rdr w g A n c xs at_ er fat what) (x : Int) : Rdr (w.setCell ⟨g, 1, none⟩ (.int .i64 x)) g A n c xs x er fat what :=
  { h with bk := by simpa using h.bk.set 1 (.int .i64 x), rd := h.rd.fr (Fr.setCell (S := fun k => k = g) (p := ⟨g, 1, none⟩) (Fr.refl _ _) (fun _ => rfl) _) (fun ad ha h0 => h.apart ad ha (by rw [← h.len]; exact h0)) }
end

theorem fr_set {w : World} {g i : Nat} {v : Value} : Fr (fun k => k = g) w (w.setCell ⟨g, i, none⟩ v) := Fr.setCell (S := fun k => k = g) (p := ⟨g, i, none⟩) (Fr.refl _ _) (fun _ => rfl) _

set_option maxRecDepth 100000 in
set_option maxHeartbeats 1000000 in
theorem failed_any {w : World} {g : Nat} {A : Option Addr} {n c : Nat} {xs : List UInt8} {at_ er fat : Int} {what : ByteArray} (h : Rdr w g A n c xs at_ er fat what) (b : Bool) (hb : (er == 0) = b) :
    Calls Tryz.prog 111 #[.pointer (some ⟨g, 0, none⟩)] w fun e w' => e = .returned (.bool (!b)) ∧ w = w' := by
  have hc : w.cell? ⟨g, 2, none⟩ = some (.int .i64 er) := h.bk.cell 2
  cases b
  · go_enter Tryz.func111, Tryz.ntmps111
    go_wp2_with (go_at_call 32; refine (is_fault_other g 2 er 0 hb w hc).mono ?_; rintro e w' ⟨rfl, rfl⟩)
    go_ret
    exact ⟨rfl, rfl⟩
  · go_enter Tryz.func111, Tryz.ntmps111
    go_wp2_with (go_at_call 32; refine (is_fault_same g 2 er 0 hb w hc).mono ?_; rintro e w' ⟨rfl, rfl⟩)
    go_ret
    exact ⟨rfl, rfl⟩

/-- A panic with an Errno. -/
abbrev pan (k : Int) : Ending := .panicked [{ v := .iface 43 (.int .i64 k), recovered := false }]

set_option maxRecDepth 100000 in
set_option maxHeartbeats 1000000 in
theorem next_some {w : World} {g : Nat} {A : Option Addr} {n c : Nat} {xs : List UInt8} {er fat : Int} {what : ByteArray} (k : Nat) (h : Rdr w g A n c xs k er fat what) (hk : k < xs.length) :
    Calls Tryz.prog 182 #[.pointer (some ⟨g, 0, none⟩)] w fun e w' => e = .returned (.int .u8 (xs[k]'hk).toNat) ∧ Rdr w' g A n c xs (k + 1 : Nat) er fat what ∧ Fr (fun x => x = g) w w' := by
  have hl := h.len
  obtain ⟨ad, rfl, hsp, hc⟩ := h.rd (by omega)
  obtain ⟨b, o, sp⟩ := ad
  cases hsp
  have hx := hc k hk
  have h0 : w.cell? ⟨g, 0, none⟩ = some (.slice (some ⟨b, o, none⟩) n c) := h.bk.cell 0
  have h1 : w.cell? ⟨g, 1, none⟩ = some (.int .i64 k) := h.bk.cell 1
  have f1 : w.frozen? ⟨g, 1, none⟩ = false := h.bk.frozen 1
  have hcap := h.cap
  have hbig := h.big
  have hne : ((k : Int) == (n : Int)) = false := by rw [beq_eq_false_iff_ne]; omega
  have i1 : (k : Int) < n := by omega
  have i2 : k < n := by omega
  simp only at hx
  clear hc hl
  go_enter Tryz.func182, Tryz.ntmps182
  go_wp2_with fail
  go_quiet (fail)
  go_wp2_with fail
  go_quiet (fail)
  go_wp2
  go_ret
  have hq : ∀ m, Fr (fun _ => False) w (w.drewN m) := fun m => (Fr.refl _ _).drewN _
  exact ⟨rfl, by rw [Int.natCast_add]; exact (h.quiet (hq _)).set _, ((hq _).mono (fun _ _ h => h.elim)).trans fr_set (fun _ _ h => h)⟩

set_option maxRecDepth 100000 in
set_option maxHeartbeats 1000000 in
theorem next_none {w : World} {g : Nat} {A : Option Addr} {n c : Nat} {xs : List UInt8} {er fat : Int} {what : ByteArray} (h : Rdr w g A n c xs (n : Nat) er fat what) :
    Calls Tryz.prog 182 #[.pointer (some ⟨g, 0, none⟩)] w fun e w' => e = pan 7 ∧ Fr (fun x => False) w w' := by
  have h0 : w.cell? ⟨g, 0, none⟩ = some (.slice A n c) := h.bk.cell 0
  have h1 : w.cell? ⟨g, 1, none⟩ = some (.int .i64 n) := h.bk.cell 1
  go_enter Tryz.func182, Tryz.ntmps182
  go_wp2_with fail
  go_quiet (fail)
  go_wp2
  exact ⟨rfl, rfl, (Fr.refl _ _).drewN _⟩

/-- What reading a number comes to. -/
inductive NR where
  | bad (k : Int)
  | ok (u n : Nat)

/-- From byte i of a number on, acc being what stood before. -/
def num : Nat → Nat → Nat → List UInt8 → NR
  | 0, _, _, _ => .bad 8
  | _ + 1, _, _, [] => .bad 7
  | f + 1, i, acc, c :: l =>
    if 128 ≤ c.toNat then num f (i + 1) (acc + (c.toNat % 128) * 128 ^ i) l
    else if (0 < i ∧ c.toNat = 0) ∨ (i = 9 ∧ 1 < c.toNat) then .bad 8
    else .ok (acc + c.toNat * 128 ^ i) (i + 1)
/-- A number at the front of l. -/
def rdNum (l : List UInt8) : NR := num 10 0 0 l

/-- unfold: a number's integer. -/
def unfN (u : Nat) : Int := if u % 2 = 0 then (u / 2 : Nat) else - ((u / 2 : Nat) : Int) - 1
theorem unfN_foldN (a : Int) : unfN (foldN a) = a := by unfold unfN foldN; split <;> split <;> omega
theorem unfN_range (u : Nat) (h : u < 18446744073709551616) : -9223372036854775808 ≤ unfN u ∧ unfN u ≤ 9223372036854775807 := by unfold unfN; split <;> omega

theorem unf_val (u : Nat) (h : (u : Int) ≤ 18446744073709551615) : bits BinOp.xor IntKind.i64 ((u : Int) / 2) (wrap64 (-wrap64 (bits BinOp.and IntKind.u64 (u : Int) 1))) = unfN u := by
  have e1 : bits BinOp.and IntKind.u64 (u : Int) 1 = ((u % 2 : Nat) : Int) := by
    rw [show (1 : Int) = ((1 : Nat) : Int) from rfl, u64_and_nat _ _ (by omega) (by omega), nat_mask1]
  rw [e1]
  unfold unfN
  rcases Nat.mod_two_eq_zero_or_one u with h2 | h2
  · rw [if_pos h2, h2, show (u : Int) / 2 = ((u / 2 : Nat) : Int) by omega, show wrap64 (-wrap64 ((0 : Nat) : Int)) = 0 by unfold wrap64; rfl]
    show IntKind.i64.wrap ((BitVec.ofInt 64 ((u / 2 : Nat) : Int) ^^^ 0#64).toNat : Int) = _
    rw [BitVec.xor_zero, BitVec.toNat_ofInt, IntKind.wrap_i64]
    omega
  · rw [if_neg (by omega), h2, show (u : Int) / 2 = ((u / 2 : Nat) : Int) by omega, show wrap64 (-wrap64 ((1 : Nat) : Int)) = -1 by unfold wrap64; rfl]
    show IntKind.i64.wrap ((BitVec.ofInt 64 ((u / 2 : Nat) : Int) ^^^ BitVec.allOnes 64).toNat : Int) = _
    rw [BitVec.xor_allOnes, BitVec.toNat_not, BitVec.toNat_ofInt, IntKind.wrap_i64]
    omega

set_option maxRecDepth 100000 in
set_option maxHeartbeats 1000000 in
theorem unfold_any (u : Nat) (h : (u : Int) ≤ 18446744073709551615) (w : World) :
    Calls Tryz.prog 183 #[.int .u64 u] w fun e w' => e = .returned (.int .i64 (unfN u)) ∧ w = w' := by
  go_enter Tryz.func183, Tryz.ntmps183
  have hv := unf_val u h
  go_wp2
  go_ret
  exact ⟨rfl, rfl⟩

theorem shl_val (acc x j : Nat) (hx : x < 2 ^ 8) (hj : j ≤ 9) (ha : acc < 128 ^ j) (hs : j ≤ 8 ∨ x % 128 ≤ 1) :
    bits BinOp.or IntKind.u64 (acc : Int) (IntKind.u64.wrap (IntKind.u64.wrap (bits BinOp.and IntKind.u8 (x : Int) 127) * 2 ^ (7 * j))) = ((acc + x % 128 * 128 ^ j : Nat) : Int) := by
  have e128 : 128 ^ j = 2 ^ (7 * j) := by rw [Nat.pow_mul]
  have hlim : x % 128 * 2 ^ (7 * j) < 18446744073709551616 := by
    rw [← e128]
    rcases Nat.lt_or_ge j 9 with h | h
    · have h1 : 128 ^ j ≤ 128 ^ 8 := Nat.pow_le_pow_right (by omega) (by omega)
      have h2 : x % 128 * 128 ^ j ≤ 127 * 128 ^ 8 := Nat.mul_le_mul (by omega) h1
      omega
    · have : j = 9 := by omega
      subst this
      have h2 : x % 128 * 128 ^ 9 ≤ 1 * 128 ^ 9 := Nat.mul_le_mul_right _ (by omega)
      omega
  have hacc : acc < 18446744073709551616 := by
    have h1 : 128 ^ j ≤ 128 ^ 9 := Nat.pow_le_pow_right (by omega) hj
    omega
  have e1 : bits BinOp.and IntKind.u8 (x : Int) 127 = ((x % 128 : Nat) : Int) := by
    rw [show (127 : Int) = ((127 : Nat) : Int) from rfl, u8_and_nat _ _ (by omega) (by omega), nat_mask7]
  rw [e1, show IntKind.u64.wrap ((x % 128 : Nat) : Int) = ((x % 128 : Nat) : Int) from IntWalk.u64_in _ (by omega)]
  have e2 : ((x % 128 : Nat) : Int) * 2 ^ (7 * j) = ((x % 128 * 2 ^ (7 * j) : Nat) : Int) := by rw [Int.natCast_mul, Int.natCast_pow]; rfl
  rw [e2, show IntKind.u64.wrap ((x % 128 * 2 ^ (7 * j) : Nat) : Int) = ((x % 128 * 2 ^ (7 * j) : Nat) : Int) from IntWalk.u64_in _ (by omega), u64_or_nat _ _ hacc hlim, e128, Nat.or_comm, nat_join (7 * j) _ _ (Nat.mul_mod_left _ _) (by rw [← e128]; exact ha), Nat.add_comm]

theorem acc_lim (acc x j : Nat) (hj : j ≤ 9) (ha : acc < 128 ^ j) (hs : j ≤ 8 ∨ x % 128 ≤ 1) : acc + x % 128 * 128 ^ j < 18446744073709551616 := by
  rcases Nat.lt_or_ge j 9 with h | h
  · have h1 : 128 ^ j ≤ 128 ^ 8 := Nat.pow_le_pow_right (by omega) (by omega)
    have h2 : x % 128 * 128 ^ j ≤ 127 * 128 ^ 8 := Nat.mul_le_mul (by omega) h1
    omega
  · have : j = 9 := by omega
    subst this
    have h2 : x % 128 * 128 ^ 9 ≤ 1 * 128 ^ 9 := Nat.mul_le_mul_right _ (by omega)
    omega
theorem acc_next (acc x j : Nat) (ha : acc < 128 ^ j) : acc + x % 128 * 128 ^ j < 128 ^ (j + 1) := by
  have h : x % 128 * 128 ^ j ≤ 127 * 128 ^ j := Nat.mul_le_mul_right _ (by omega)
  rw [Nat.pow_succ]; omega
/-- Behind a number is read at k. -/
def NumPost (w : World) (g : Nat) (A : Option Addr) (n c : Nat) (xs : List UInt8) (k : Nat) (er fat : Int) (what : ByteArray) (r : NR) (e : Ending) (w' : World) : Prop :=
  match r with
  | .bad b => e = pan b ∧ (∃ at_, Rdr w' g A n c xs at_ er fat what) ∧ Fr (fun x => x = g) w w'
  | .ok u m => e = .returned (.int .i64 (unfN u)) ∧ k + m ≤ n ∧ Rdr w' g A n c xs (k + m : Nat) er fat what ∧ Fr (fun x => x = g) w w'

set_option maxRecDepth 100000 in
set_option maxHeartbeats 1000000 in
theorem number_any {w : World} {g : Nat} {A : Option Addr} {n c : Nat} {xs : List UInt8} {er fat : Int} {what : ByteArray} (k : Nat) (h : Rdr w g A n c xs k er fat what) (hk : k ≤ n) :
    Calls Tryz.prog 168 #[.pointer (some ⟨g, 0, none⟩)] w (NumPost w g A n c xs k er fat what (rdNum (xs.drop k))) := by
  generalize hR : rdNum (xs.drop k) = R
  go_enter Tryz.func168, Tryz.ntmps168
  have hl := h.len
  go_wp2_with fail
  go_loopw [3, 4, 5, 6] (fun u _ _ i wr => ∃ (j acc : Nat), (j : Int) ≤ 10 ∧ k + j ≤ n ∧ i = .int .i64 j ∧ ((j : Int) ≤ 9 → u = .int .u64 acc ∧ acc < 128 ^ j) ∧ Rdr wr g A n c xs (k + j : Nat) er fat what ∧ Fr (fun x => x = g) w wr ∧
    num (10 - j) j acc (xs.drop (k + j)) = R) (fun _ _ _ i _ => 10 - (intOf i).toNat)
  case atStart => exact ⟨0, 0, by omega, by omega, rfl, fun _ => ⟨rfl, by decide⟩, h, Fr.refl _ _, hR⟩
  case round =>
    obtain ⟨j, acc, hj, hkj, rfl, hu, hr, hf, hnum⟩ := hrel
    clear hR
    by_cases hj10 : (10 : Int) ≤ j
    · rw [show 10 - j = 0 by omega] at hnum
      have HN := Lib.hid hnum
      clear hu hnum
      go_wp2
      have e := HN.out
      subst e
      exact ⟨rfl, rfl, ⟨_, hr⟩, hf⟩
    · obtain ⟨rfl, hacc⟩ := hu (by omega)
      clear hu
      have hA := Lib.hid hacc
      clear hacc
      rw [show 10 - j = (9 - j) + 1 by omega] at hnum
      by_cases hn : k + j = n
      · rw [List.drop_of_length_le (show xs.length ≤ k + j by omega)] at hnum
        have HN := Lib.hid hnum
        clear hnum
        go_wp2_with fail
        rw [hn] at hr
        refine (next_none hr).mono ?_; rintro e w1 ⟨rfl, hf1⟩
        have e := HN.out
        subst e
        exact ⟨rfl, rfl, ⟨_, hr.quiet hf1⟩, hf.trans hf1 (fun _ _ h => h.elim)⟩
      · have hlt : k + j < xs.length := by omega
        have hj9 : (j : Int) ≤ 9 := by omega
        clear hj
        rw [List.drop_eq_getElem_cons hlt] at hnum
        unfold num at hnum
        go_wp2_with fail
        refine (next_some (k + j) hr hlt).mono ?_; rintro e w1 ⟨rfl, hr1, hf1⟩
        have hb := (xs[k + j]'hlt).toNat_lt
        generalize hx : (xs[k + j]'hlt).toNat = x at *
        clear hx
        have hf2 := hf.trans hf1 (fun _ _ h => h)
        by_cases h128 : 128 ≤ x
        · rw [if_pos h128] at hnum
          have HN := Lib.hid hnum
          clear hnum
          go_wp2
          go_roundw
          case rel =>
            refine ⟨j + 1, acc + x % 128 * 128 ^ j, by omega, by omega, by go_num, fun h9 => ?_, hr1, hf2, ?_⟩
            · exact ⟨by rw [shl_val acc x j hb (by omega) hA.out (by omega)], acc_next acc x j hA.out⟩
            · have e := HN.out
              rw [show 9 - j = 10 - (j + 1) by omega] at e
              exact e
          case measure => simp [intOf]; omega
        · rw [if_neg h128] at hnum
          by_cases hbad : (0 < j ∧ x = 0) ∨ (j = 9 ∧ 1 < x)
          · rw [if_pos hbad] at hnum
            have HN := Lib.hid hnum
            clear hnum
            rcases hbad with ⟨hj0, hx0⟩ | ⟨hj9', hx1⟩
            · subst hx0
              have t1 : (0 : Int) < j := by omega
              go_wp2
              have e := HN.out
              subst e
              exact ⟨rfl, rfl, ⟨_, hr1⟩, hf2⟩
            · subst hj9'
              have t2 : (1 : Int) < x := by omega
              have t3 : ((x : Int) == 0) = false := by rw [beq_eq_false_iff_ne]; omega
              go_wp2
              have e := HN.out
              subst e
              exact ⟨rfl, rfl, ⟨_, hr1⟩, hf2⟩
          · rw [if_neg hbad] at hnum
            obtain ⟨v, hv, hvl, hve⟩ : ∃ v : Nat, bits BinOp.or IntKind.u64 (acc : Int) (IntKind.u64.wrap (IntKind.u64.wrap (bits BinOp.and IntKind.u8 (x : Int) 127) * 2 ^ (7 * j))) = (v : Int) ∧ (v : Int) ≤ 18446744073709551615 ∧ acc + x * 128 ^ j = v := by
              refine ⟨_, shl_val acc x j hb (by omega) hA.out (by omega), ?_, by rw [Nat.mod_eq_of_lt (by omega)]⟩
              have h1 := acc_lim acc x j (by omega) hA.out (by omega)
              omega
            rw [hve] at hnum
            have HN := Lib.hid hnum
            clear hnum hve hA
            by_cases hj0 : j = 0
            · have t1 : ¬ (0 : Int) < j := by omega
              have t2 : ((j : Int) == 9) = false := by rw [beq_eq_false_iff_ne]; omega
              clear hj0
              go_wp2_with (go_at_call 183; refine (unfold_any v hvl _).mono ?_; rintro e _ ⟨rfl, rfl⟩)
              go_ret
              have e := HN.out
              subst e
              exact ⟨rfl, by omega, hr1, hf2⟩
            · have t1 : (0 : Int) < j := by omega
              have t3 : ((x : Int) == 0) = false := by rw [beq_eq_false_iff_ne]; omega
              by_cases hj9' : j = 9
              · have t2 : ((j : Int) == 9) = true := by rw [beq_iff_eq]; omega
                have t4 : ¬ (1 : Int) < x := by omega
                clear hj0 hj9' hbad
                go_wp2_with (go_at_call 183; refine (unfold_any v hvl _).mono ?_; rintro e _ ⟨rfl, rfl⟩)
                go_ret
                have e := HN.out
                subst e
                exact ⟨rfl, by omega, hr1, hf2⟩
              · have t2 : ((j : Int) == 9) = false := by rw [beq_eq_false_iff_ne]; omega
                clear hj0 hj9' hbad
                go_wp2_with (go_at_call 183; refine (unfold_any v hvl _).mono ?_; rintro e _ ⟨rfl, rfl⟩)
                go_ret
                have e := HN.out
                subst e
                exact ⟨rfl, by omega, hr1, hf2⟩
end Go.Proofs.YtieoeoonopcjbaaGreatDoor
