/- Acts of a play that came in: how they lie. -/
import Derived.Test.YtnkkdpmmnenncaaRowS
import Derived.Test.YtnkkdpmmnenncaaUr
import Derived.Deep.Strs
namespace Go.Proofs.Ytnkkdpmmnenncaa
open Go.ChangeShapes Go.WideShapes Go.ChangeAt Go.RowKit Go.Deep

structure Act where
  op : Int
  sec : Int
  fill : UInt8
  bA : Option Addr
  bc : Nat
  bs : List UInt8
  n : Int
  kA : Option Addr
  kc : Nat
  ks : List Bool
instance : Inhabited Act := ⟨⟨0, 0, 0, none, 0, [], 0, none, 0, []⟩⟩
def Act.v (q : Act) : Value := .agg #[.int .i64 q.op, .int .i64 q.sec, .int .u8 (q.fill.toNat : Int), .slice q.bA q.bs.length q.bc, .int .i64 q.n, .slice q.kA q.ks.length q.kc]
/-- An act at a place; B: what is older than the call. -/
structure ActAt (w : World) (B : Nat) (b o : Nat) (q : Act) : Prop where
  c0 : w.cell? ⟨b, o, none⟩ = some (.int .i64 q.op)
  c1 : w.cell? ⟨b, o + 1, none⟩ = some (.int .i64 q.sec)
  c2 : w.cell? ⟨b, o + 2, none⟩ = some (.int .u8 (q.fill.toNat : Int))
  c3 : w.cell? ⟨b, o + 3, none⟩ = some (.slice q.bA q.bs.length q.bc)
  c4 : w.cell? ⟨b, o + 4, none⟩ = some (.int .i64 q.n)
  c5 : w.cell? ⟨b, o + 5, none⟩ = some (.slice q.kA q.ks.length q.kc)
  rb : Rd8 w q.bA q.bs
  rk : RdB w q.kA q.ks
  lb : b < B
  bb : ∀ ad, q.bA = some ad → 0 < q.bs.length → ad.block < B
  kb : ∀ ad, q.kA = some ad → 0 < q.ks.length → ad.block < B
  o1 : -9223372036854775808 ≤ q.op
  o2 : q.op ≤ 9223372036854775807
  s1 : -9223372036854775808 ≤ q.sec
  s2 : q.sec ≤ 9223372036854775807
  n1 : -9223372036854775808 ≤ q.n
  n2 : q.n ≤ 9223372036854775807
  hb : q.bs.length ≤ 140737488355328
  hk : q.ks.length ≤ 140737488355328
theorem ActAt.fr {S : Nat → Prop} {w w' : World} {B b o : Nat} {q : Act} (h : ActAt w B b o q) (hf : Fr S w w') (hS : ∀ k, k < B → ¬ S k) : ActAt w' B b o q :=
  { h with
    c0 := (hf.cell (World.block_lt_of_cell? w _ h.c0) (hS _ h.lb)).trans h.c0
    c1 := (hf.cell (World.block_lt_of_cell? w _ h.c1) (hS _ h.lb)).trans h.c1
    c2 := (hf.cell (World.block_lt_of_cell? w _ h.c2) (hS _ h.lb)).trans h.c2
    c3 := (hf.cell (World.block_lt_of_cell? w _ h.c3) (hS _ h.lb)).trans h.c3
    c4 := (hf.cell (World.block_lt_of_cell? w _ h.c4) (hS _ h.lb)).trans h.c4
    c5 := (hf.cell (World.block_lt_of_cell? w _ h.c5) (hS _ h.lb)).trans h.c5
    rb := h.rb.fr hf (fun ad e h0 => hS _ (h.bb ad e h0))
    rk := h.rk.fr hf (fun ad e h0 => hS _ (h.kb ad e h0)) }
/-- A list of acts. -/
def Acts (w : World) (B : Nat) (A : Option Addr) (l : List Act) : Prop := 0 < l.length → ∃ b o, A = some ⟨b, o, none⟩ ∧ ∀ i (h : i < l.length), ActAt w B b (o + i * 6) l[i]
theorem Acts.fr {S : Nat → Prop} {w w' : World} {B : Nat} {A : Option Addr} {l : List Act} (h : Acts w B A l) (hf : Fr S w w') (hS : ∀ k, k < B → ¬ S k) : Acts w' B A l := fun h0 => by
  obtain ⟨b, o, e, hc⟩ := h h0
  exact ⟨b, o, e, fun i hi => (hc i hi).fr hf hS⟩
theorem Acts.at_ {w : World} {B : Nat} {A : Option Addr} {l : List Act} (h : Acts w B A l) {i : Nat} (hi : i < l.length) : ∃ b o, A = some ⟨b, o, none⟩ ∧ ActAt w B b (o + i * 6) (l.getD i default) := by
  obtain ⟨b, o, e, hc⟩ := h (by omega)
  refine ⟨b, o, e, ?_⟩
  rw [show l.getD i default = l[i] by simp [List.getD, hi]]
  exact hc i hi

theorem Try.cellsAct : Try.prog.cellsOf 35 = 6 := by kernel_rfl
theorem Try.cellsI : Try.prog.cellsOf 3 = 1 := by kernel_rfl
theorem Try.cellsBs : Try.prog.cellsOf 32 = 1 := by kernel_rfl
theorem Try.cellsKs : Try.prog.cellsOf 33 = 1 := by kernel_rfl
theorem Try.bytesU8 : Try.prog.bytesOf 5 = 1 := by kernel_rfl
theorem Try.bytesB : Try.prog.bytesOf 4 = 1 := by kernel_rfl
theorem weightsAll_at {H : Type} {P : Program} {e : TypeId} {d : DataW H} : ∀ {l : List (DataW H)}, d ∈ l → ∀ z ∈ d.weights P e, z ∈ DataW.weightsAll P e l
  | [], h, _, _ => by cases h
  | x :: r, h, z, hz => by
    rw [DataW.weightsAll]
    rcases List.mem_cons.1 h with e | e
    · subst e; exact List.mem_append_left _ hz
    · exact List.mem_append_right _ (weightsAll_at e z hz)

/-- What a reading of bytes among cells tells. -/
theorem bytes_trod {H : Type} {enc : TypeId × Value → H} {W : World} {fuel : Nat} {cs : List Value} {x : DataW H × List MemPlace} (hf : DataW.trod enc Try.prog W 0 (fun _ => true) true fuel 32 cs = some x) :
    ∃ A n c xs, cs = [.slice A n c] ∧ Rd8 W A xs ∧ xs.length = n ∧ n ≤ c ∧ c ≤ maxLen ∧ (∀ ad, A = some ad → 0 < n → ad.block < W.heap.size) ∧ ((∀ z ∈ x.1.weights Try.prog 32, z ≤ reachBytes) → n ≤ reachBytes) := by
  rcases open_ints Try.underlying32 Try.underlying5 Try.cellsU8 hf with ⟨hcs, hx⟩ | ⟨a, n, c, zs, hcs, _, hl, hm, hz, hx, hcell, hwz⟩
  · exact ⟨none, 0, 0, [], hcs, Rd8.nil _ _, rfl, Nat.le_refl _, Nat.zero_le _, fun ad e => (by cases e), fun _ => Nat.zero_le _⟩
  · simp only [if_true] at hz
    have hcl : ∀ j, j < n → (a.spot = none ∧ W.cell? ⟨a.block, a.off + j, none⟩ = some (.int .u8 (((zs.take n).map fun z => UInt8.ofNat z.toNat).getD j 0).toNat)) := by
      intro j hj
      have h0 := hcell j (by omega)
      have hsp := World.cell?_spot h0
      obtain ⟨b, o, sp⟩ := a
      have hsp0 : sp = none := by
        have := World.cell?_spot (hcell 0 (by omega))
        simpa [Addr.add] using this
      subst hsp0
      refine ⟨rfl, ?_⟩
      rw [add_at] at h0
      rw [h0]
      have hw := bounds_u8 (hwz (zs.getD j 0) (by simp [List.getD, show j < zs.length by omega]))
      have e : ((zs.take n).map fun z => UInt8.ofNat z.toNat).getD j 0 = UInt8.ofNat (zs.getD j 0).toNat := by
        simp [List.getD, show j < n from hj, show j < zs.length by omega]
      rw [e, UInt8.toNat_ofNat', Nat.mod_eq_of_lt (by omega)]
      congr 2
      omega
    refine ⟨some a, n, c, (zs.take n).map fun z => UInt8.ofNat z.toNat, hcs, fun h0 => ⟨a, rfl, ?_, fun j hj => ?_⟩, by simp; omega, hl, hm, fun ad e h0 => ?_, fun hw => ?_⟩
    · simp at h0; exact (hcl 0 (by omega)).1
    · simp at hj
      have := (hcl j (by omega)).2
      simpa [List.getD, show j < n by omega, show j < zs.length by omega] using this
    · injection e with e
      subst e
      have := World.block_lt_of_cell? W _ (hcl 0 h0).2
      exact this
    · subst hx
      have hw0 := hw ((lits (H := H) .u8 (zs.take n)).length + (lits (H := H) .u8 (zs.drop n)).length) (by simp [DataW.weights, Try.underlying32, Try.bytesU8])
      simp [lits] at hw0
      omega


/-- What a reading of bools among cells tells. -/
theorem bools_trod {H : Type} {enc : TypeId × Value → H} {W : World} {fuel : Nat} {cs : List Value} {x : DataW H × List MemPlace} (hf : DataW.trod enc Try.prog W 0 (fun _ => true) true fuel 33 cs = some x) :
    ∃ A n c xs, cs = [.slice A n c] ∧ RdB W A xs ∧ xs.length = n ∧ n ≤ c ∧ c ≤ maxLen ∧ (∀ ad, A = some ad → 0 < n → ad.block < W.heap.size) ∧ ((∀ z ∈ x.1.weights Try.prog 33, z ≤ reachBytes) → n ≤ reachBytes) := by
  rcases open_bools Try.underlying33 Try.underlying4 Try.cellsB hf with ⟨hcs, hx⟩ | ⟨a, n, c, B, hcs, _, hl, hm, hx, hcell⟩
  · exact ⟨none, 0, 0, [], hcs, RdB.nil _ _, rfl, Nat.le_refl _, Nat.zero_le _, fun ad e => (by cases e), fun _ => Nat.zero_le _⟩
  · have hcl : ∀ j, j < n → (a.spot = none ∧ W.cell? ⟨a.block, a.off + j, none⟩ = some (.bool (B j))) := by
      intro j hj
      have h0 := hcell j (by omega)
      obtain ⟨b, o, sp⟩ := a
      have hsp0 : sp = none := by
        have := World.cell?_spot (hcell 0 (by omega))
        simpa [Addr.add] using this
      subst hsp0
      refine ⟨rfl, ?_⟩
      rw [add_at] at h0
      exact h0
    refine ⟨some a, n, c, (List.range n).map B, hcs, fun h0 => ⟨a, rfl, ?_, fun j hj => ?_⟩, by simp, hl, hm, fun ad e h0 => ?_, fun hw => ?_⟩
    · simp at h0; exact (hcl 0 (by omega)).1
    · simp at hj
      have := (hcl j (by omega)).2
      simpa using this
    · injection e with e
      subst e
      exact World.block_lt_of_cell? W ⟨a.block, a.off + 0, none⟩ (hcl 0 h0).2
    · subst hx
      unfold boolRow at hw
      have hw0 := hw _ (by simp only [DataW.weights, Try.underlying33, Try.bytesB]; exact List.mem_cons_self ..)
      simp at hw0
      omega

set_option maxRecDepth 100000 in
set_option maxHeartbeats 1000000 in
theorem open_acts {H : Type} {enc : TypeId × Value → H} {W : World} {base : Nat} {v : Value} {d : DataW H} {ps : List MemPlace} (hval : Value.okWide Try.prog W .any base 22 v) (h : DataW.Trod enc Try.prog W 0 (fun _ => true) true 22 v d ps)
    (hwt : ∀ z ∈ d.weights Try.prog 22, z ≤ reachBytes) :
    ∃ A n c l, v = .slice A n c ∧ Acts W W.heap.size A l ∧ l.length = n ∧ (n : Int) ≤ 9223372036854775807 := by
  obtain ⟨A, n, c, rfl⟩ := okWide_slice Try.underlying22 hval
  obtain ⟨fuel, hf⟩ := h
  rcases open_slice Try.underlying22 hf with ⟨hcs, hx⟩ | ⟨a, len, cap, m, k, D, Pl, hcs, _, hl, hm, hmm, hx, hall⟩
  · simp [Value.cells] at hcs
    obtain ⟨rfl, rfl, rfl⟩ := hcs
    exact ⟨none, 0, 0, [], rfl, fun h0 => by simp at h0, rfl, by omega⟩
  · simp [Value.cells] at hcs
    obtain ⟨rfl, rfl, rfl⟩ := hcs
    simp only [if_true] at hmm
    subst hmm
    simp only [Prod.mk.injEq] at hx
    obtain ⟨hd, _⟩ := hx
    subst hd
    unfold maxLen at hm
    have hwi : ∀ i, i < n → ∀ z ∈ (D i).weights Try.prog 35, z ≤ reachBytes := fun i hi z hz => hwt z (by
      simp only [DataW.weights, Try.underlying22]
      refine List.mem_cons_of_mem _ (List.mem_append_left _ (weightsAll_at (List.mem_map.2 ⟨i, List.mem_range.2 hi, rfl⟩) z hz)))
    have hsp0 : 0 < n → a.spot = none := fun h0 => by
      obtain ⟨cs', h1, _⟩ := hall 0 (by omega)
      rw [Try.cellsAct] at h1
      obtain ⟨_, hlen, hcell⟩ := World.cells?_some h1
      have h7 := World.cell?_spot ((hcell 0 (by omega)).trans (List.getElem?_eq_getElem (by omega)))
      simpa [Addr.add] using h7
    have each : ∀ i, i < n → ∃ q : Act, ActAt W W.heap.size a.block (a.off + i * 6) q ∧ a.spot = none := by
      intro i hi
      obtain ⟨cs', h1, h2⟩ := hall i (by omega)
      have hwi := hwi i hi
      rw [Try.cellsAct] at h1
      obtain ⟨_, hlen, hcell⟩ := World.cells?_some h1
      obtain ⟨ys, j, _, hxy, _, hyl, hfl⟩ := DataW.trod_struct Try.underlying35 h2
      match cs', hlen with
      | [v0, v1, v2, v3, v4, v5], _ =>
        match ys, hyl with
        | [y0, y1, y2, y3, y4, y5], _ =>
          have u0 : DataW.trod enc Try.prog W 0 (fun _ => true) true j 3 (([v0, v1, v2, v3, v4, v5].drop 0).take (Try.prog.cellsOf 3)) = some y0 := hfl 0 _ rfl
          rw [Try.cellsI] at u0
          simp only [List.drop, List.take] at u0
          have u1 : DataW.trod enc Try.prog W 0 (fun _ => true) true j 3 (([v0, v1, v2, v3, v4, v5].drop 1).take (Try.prog.cellsOf 3)) = some y1 := hfl 1 _ rfl
          rw [Try.cellsI] at u1
          simp only [List.drop, List.take] at u1
          have u2 : DataW.trod enc Try.prog W 0 (fun _ => true) true j 5 (([v0, v1, v2, v3, v4, v5].drop 2).take (Try.prog.cellsOf 5)) = some y2 := hfl 2 _ rfl
          rw [Try.cellsU8] at u2
          simp only [List.drop, List.take] at u2
          have u3 : DataW.trod enc Try.prog W 0 (fun _ => true) true j 32 (([v0, v1, v2, v3, v4, v5].drop 3).take (Try.prog.cellsOf 32)) = some y3 := hfl 3 _ rfl
          rw [Try.cellsBs] at u3
          simp only [List.drop, List.take] at u3
          have u4 : DataW.trod enc Try.prog W 0 (fun _ => true) true j 3 (([v0, v1, v2, v3, v4, v5].drop 4).take (Try.prog.cellsOf 3)) = some y4 := hfl 4 _ rfl
          rw [Try.cellsI] at u4
          simp only [List.drop, List.take] at u4
          have u5 : DataW.trod enc Try.prog W 0 (fun _ => true) true j 33 (([v0, v1, v2, v3, v4, v5].drop 5).take (Try.prog.cellsOf 33)) = some y5 := hfl 5 _ rfl
          rw [Try.cellsKs] at u5
          simp only [List.drop, List.take] at u5
          obtain ⟨z0, e0, _, w0⟩ := DataW.trod_int Try.underlying3 u0
          obtain ⟨z1, e1, _, w1⟩ := DataW.trod_int Try.underlying3 u1
          obtain ⟨z2, e2, _, w2⟩ := DataW.trod_int Try.underlying5 u2
          obtain ⟨A3, n3, c3, xs, e3, r1, r2, r3, r4, r5, r6⟩ := bytes_trod u3
          obtain ⟨z4, e4, _, w4⟩ := DataW.trod_int Try.underlying3 u4
          obtain ⟨A5, n5, c5, ks, e5, k1, k2, k3, k4, k5, k6⟩ := bools_trod u5
          simp only [List.cons.injEq, and_true] at e0 e1 e2 e3 e4 e5
          subst e0; subst e1; subst e2; subst e3; subst e4; subst e5
          have c0 := hcell 0 (by omega)
          have c1 := hcell 1 (by omega)
          have c2' := hcell 2 (by omega)
          have c3' := hcell 3 (by omega)
          have c4' := hcell 4 (by omega)
          have c5' := hcell 5 (by omega)
          have hsp : a.spot = none := hsp0 (by omega)
          obtain ⟨bl, o, sp⟩ := a
          cases hsp
          rw [add_add] at c0 c1 c2' c3' c4' c5'
          rw [add_at] at c0 c1 c2' c3' c4' c5'
          have b0 := bounds_i64 w0
          have b1 := bounds_i64 w1
          have b2 := bounds_u8 w2
          have b4 := bounds_i64 w4
          simp only [Prod.mk.injEq] at hxy
          have r7 := r6 (fun z hz => hwi z (by
            rw [hxy.1]
            simp only [DataW.weights, Try.underlying35, DataW.weightsEach]
            simp [DataW.weightsEach, hz]))
          have k7 := k6 (fun z hz => hwi z (by
            rw [hxy.1]
            simp only [DataW.weights, Try.underlying35, DataW.weightsEach]
            simp [DataW.weightsEach, hz]))
          subst r2
          subst k2
          unfold reachBytes at r7 k7
          obtain ⟨f, rfl⟩ : ∃ f : UInt8, z2 = f.toNat := ⟨UInt8.ofNat z2.toNat, by simp; omega⟩
          have hlb : bl < W.heap.size := World.block_lt_of_cell? W ⟨bl, o + i * 6 + 0, none⟩ (by simpa using c0)
          exact ⟨⟨z0, z1, f, A3, c3, xs, z4, A5, c5, ks⟩, ⟨by simpa using c0, by simpa [Nat.add_assoc] using c1, by simpa [Nat.add_assoc] using c2', by simpa [Nat.add_assoc] using c3', by simpa [Nat.add_assoc] using c4', by simpa [Nat.add_assoc] using c5',
            r1, k1, hlb, r5, k5, b0.1, b0.2, b1.1, b1.2, b4.1, b4.2, by simp only; omega, by simp only; omega⟩, rfl⟩
    obtain ⟨q, hq⟩ := choose_lt each
    refine ⟨some a, n, m, (List.range n).map q, rfl, fun h0 => ?_, by simp, by omega⟩
    have h0' : 0 < n := by simpa using h0
    have hsp := (hq 0 (by omega)).2
    obtain ⟨bl, o, sp⟩ := a
    cases hsp
    refine ⟨bl, o, rfl, fun i hi => ?_⟩
    simp at hi
    simpa using (hq i (by omega)).1
end Go.Proofs.Ytnkkdpmmnenncaa
