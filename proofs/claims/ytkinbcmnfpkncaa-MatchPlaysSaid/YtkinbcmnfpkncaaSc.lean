/- match: All's sequence: each list's tasks, list by list. -/
import Derived.Test.YtkinbcmnfpkncaaSb
namespace Go.Proofs.Ytkinbcmnfpkncaa
open Go.RowKit Go.Maps Go.Shelf

attribute [local go_sem] Oper.semAt_some

/-- Where no depth is asked the figures are all one. -/
theorem yield_any {m : Nat} (m' : Nat) {l : Nat} {args : Array Value} {W : World} {R : Ending → World → Prop} (h : YieldAt Fence.wide m Try.prog l args W R) : YieldAt Fence.wide m' Try.prog l args W R := by
  obtain ⟨fn, tmps, assign, body, hy, hR⟩ := h
  exact ⟨fn, tmps, assign, body, hy, hR.1, fun c cs _ => hR.2 c cs (fun d h => by cases h)⟩
/-- The books of loops that are over are taken, one after another. -/
theorem leaves_marks {F : Fence} {n B : Nat} {fn : Func} {tmps : Array Value} {R : Ending → World → Prop} (X : World → Prop) (hX : ∀ W D, X W → W.heap[D]? = some (.deferred (some [])) → B ≤ D → X (W.putObj D (.deferred none)))
    (hR : ∀ W, X W → ∃ v, (results fn tmps).run Try.prog W = .ok v W ∧ R (.returned v) W) :
    ∀ (ds : List Nat) (W : World), ds.Nodup → (∀ D ∈ ds, B ≤ D ∧ W.heap[D]? = some (.deferred (some []))) → X W → LeavesInM F n Try.prog fn tmps R (ds.map fun D => { target := .collected D, args := #[] }) .returning W := by
  intro ds
  induction ds with
  | nil => intro W _ _ hx; exact hR W hx
  | cons D ds ih =>
    intro W hnd hds hx
    obtain ⟨h1, h2⟩ := List.nodup_cons.1 hnd
    have hD := hds D (by simp)
    refine ⟨by simp, .inl ⟨_, _, rfl, run_takeDeferred hD.2, ih _ h2 (fun D' hD' => ⟨(hds D' (by simp [hD'])).1, ?_⟩) (hX W D hx hD.2 hD.1)⟩⟩
    have hne : D' ≠ D := fun e => h1 (by rw [← e]; exact hD')
    exact (World.putObj_heap_other (by omega)).trans (hds D' (by simp [hD'])).2

/-- All tasks, list by list in the order of the names. -/
def allM (t : MT Int) (ns : List Int) : List (Int × Int) := ns.flatMap fun c => (t.row c).map fun p => (c, p.2)
theorem allM_split (t : MT Int) (ns : List Int) {k : Nat} (h : k < ns.length) {x : Int} (hx : ns[k]'h = x) : allM t ns = allM t (ns.take k) ++ ((t.row x).map (fun p => (x, p.2)) ++ allM t (ns.drop (k + 1))) := by
  unfold allM
  conv => lhs; rw [← List.take_append_drop k ns, List.drop_eq_getElem_cons h, hx]
  simp
theorem allM_next (t : MT Int) (ns : List Int) {k : Nat} (h : k < ns.length) {x : Int} (hx : ns[k]'h = x) : allM t (ns.take (k + 1)) = allM t (ns.take k) ++ (t.row x).map fun p => (x, p.2) := by
  unfold allM
  rw [List.take_add_one, List.getElem?_eq_getElem h, hx, List.flatMap_append]
  simp
theorem allM_at (t : MT Int) (ns : List Int) {k : Nat} (h : k < ns.length) {x : Int} (hx : ns[k]'h = x) {r : List (Nat × Int)} (hr : t.row x = r) (pre : List (Fin r.length)) (i : Fin r.length) (hi : i.val = pre.length) :
    (allM t ns)[(allM t (ns.take k) ++ pre.map fun j => (x, (r.get j).2)).length]? = some (x, (r.get i).2) := by
  rw [allM_split t ns h hx, hr, List.length_append, List.length_map, ← hi, List.getElem?_append_right (Nat.le_add_right _ _), Nat.add_sub_cancel_left, List.getElem?_append_left (by rw [List.length_map]; exact i.isLt), List.getElem?_map, List.getElem?_eq_getElem i.isLt]
  rfl

/-- What All's closure holds: the names, and a row of sequences beside them; all of it from block B on. -/
structure AF (B : Nat) (t : MT Int) (ns : List Int) (ka kb : Nat) (A : Option Addr) (c : Nat) (Q : Option Addr) (cq : Nat) (W : World) : Prop where
  ba : B ≤ ka
  bb : B ≤ kb
  na : W.cell? ⟨ka, 0, none⟩ = some (.slice A ns.length c)
  nb : W.cell? ⟨kb, 0, none⟩ = some (.slice Q ns.length cq)
  nm : ∀ i (hi : i < ns.length), ∃ b o, A = some ⟨b, o, none⟩ ∧ B ≤ b ∧ W.cell? ⟨b, o + i, none⟩ = some (.int .i64 (ns[i]'hi))
  row : ∀ i (hi : i < ns.length), ∃ q o k v, Q = some ⟨q, o, none⟩ ∧ B ≤ q ∧ W.cell? ⟨q, o + i, none⟩ = some (SeqV k) ∧ B ≤ k ∧ W.cell? ⟨k, 0, none⟩ = some v ∧ (∀ g, v.ownBlock = some g → B ≤ g) ∧ Sl W 2 v (t.row (ns[i]'hi)).length (pcs IV (t.row (ns[i]'hi)))
theorem AF.up {B : Nat} {t : MT Int} {ns : List Int} {ka kb : Nat} {A : Option Addr} {c : Nat} {Q : Option Addr} {cq : Nat} {W W' : World} (h : AF B t ns ka kb A c Q cq W) (hc : ∀ (p : Addr) u, B ≤ p.block → W.cell? p = some u → W'.cell? p = some u) : AF B t ns ka kb A c Q cq W' where
  ba := h.ba
  bb := h.bb
  na := hc ⟨ka, 0, none⟩ _ h.ba h.na
  nb := hc ⟨kb, 0, none⟩ _ h.bb h.nb
  nm i hi := by
    obtain ⟨b, o, h1, h2, h3⟩ := h.nm i hi
    exact ⟨b, o, h1, h2, hc ⟨b, o + i, none⟩ _ h2 h3⟩
  row i hi := by
    obtain ⟨q, o, k, v, h1, h2, h3, h4, h5, h6, hl, A', c', rfl, h7⟩ := h.row i hi
    refine ⟨q, o, k, _, h1, h2, hc ⟨q, o + i, none⟩ _ h2 h3, h4, hc ⟨k, 0, none⟩ _ h4 h5, h6, hl, A', c', rfl, fun h0 => ?_⟩
    obtain ⟨b, off, rfl, h8⟩ := h7 h0
    exact ⟨b, off, rfl, fun j u hu => hc ⟨b, off + j, none⟩ _ (h6 b rfl) (h8 j u hu)⟩
theorem AF.kc {B : Nat} {t : MT Int} {ns : List Int} {ka kb : Nat} {A : Option Addr} {c : Nat} {Q : Option Addr} {cq : Nat} {W W' : World} (h : AF B t ns ka kb A c Q cq W) (hk : Kc B W W') : AF B t ns ka kb A c Q cq W' := h.up (fun _ _ hB hp => hk.cell hB hp)

/-- Between two rounds of All's closure. -/
structure LI (J : List (Int × Int) → World → Prop) (B : Nat) (t : MT Int) (ns : List Int) (ka kb : Nat) (A : Option Addr) (c : Nat) (Q : Option Addr) (cq : Nat) (l b3 : Nat) (ds : List Nat) (xs : List (Int × Int)) (W' : World) : Prop where
  jj : J xs W'
  af : AF B t ns ka kb A c Q cq W'
  bx : Bk W' b3 90 #[.func (.yield l) #[] #[]]
  sz : b3 < W'.heap.size
  nd : ds.Nodup
  dd : ∀ D ∈ ds, b3 ≤ D ∧ W'.heap[D]? = some (.deferred (some []))
theorem LI.grown {J : List (Int × Int) → World → Prop} {B : Nat} {t : MT Int} {ns : List Int} {ka kb : Nat} {A : Option Addr} {c : Nat} {Q : Option Addr} {cq : Nat} {l b3 N : Nat} {ds : List Nat} {xs : List (Int × Int)} {W W' : World} {row : Option Nat} (h : LI J B t ns ka kb A c Q cq l b3 ds xs W) (hJ : OwnFrom b3 J) (hg : W.grownBy W' row) (hr : ∀ r, row = some r → N ≤ r ∧ ∃ o : Obj, W.heap[r]? = some o ∧ o.isCells = false) (hN : b3 ≤ N) (hd : ∀ D ∈ ds, D < N) : LI J B t ns ka kb A c Q cq l b3 ds xs W' :=
  ⟨hJ _ W W' row h.jj hg (fun r e => ⟨Nat.le_trans hN (hr r e).1, (hr r e).2⟩), h.af.kc (Kc.grown hg (fun r e => (hr r e).2)), Bk.grown h.bx hg (fun r e => (hr r e).2), Nat.lt_of_lt_of_le h.sz hg.size, h.nd,
    fun D hD => ⟨(h.dd D hD).1, (hg.block D (Array.getElem?_eq_some_iff.1 (h.dd D hD).2).1 (fun e => by have := (hr D e.symm).1; have := hd D hD; omega)).trans (h.dd D hD).2⟩⟩
theorem LI.alloc {J : List (Int × Int) → World → Prop} {B : Nat} {t : MT Int} {ns : List Int} {ka kb : Nat} {A : Option Addr} {c : Nat} {Q : Option Addr} {cq : Nat} {l b3 : Nat} {ds : List Nat} {xs : List (Int × Int)} {W : World} (h : LI J B t ns ka kb A c Q cq l b3 ds xs W) (hJ : OwnFrom b3 J) (o : Obj) : LI J B t ns ka kb A c Q cq l b3 ds xs (W.alloc o) :=
  h.grown (N := W.heap.size) hJ (World.grownBy_alloc W o none) (fun r e => by cases e) (Nat.le_of_lt h.sz) (fun D hD => (Array.getElem?_eq_some_iff.1 (h.dd D hD).2).1)
end Go.Proofs.Ytkinbcmnfpkncaa
