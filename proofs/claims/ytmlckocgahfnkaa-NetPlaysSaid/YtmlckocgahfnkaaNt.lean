/- Acts of a play on a net that came in: how they lie; are they few. -/
import Derived.Test.YtmlckocgahfnkaaRowT
import Derived.Test.YtmlckocgahfnkaaNs
import Derived.Deep.Strs
namespace Go.Proofs.Ytmlckocgahfnkaa
open Go.ChangeShapes Go.WideShapes Go.ChangeAt Go.RowKit Go.Deep

/-- An act of a play on a net: a net's act has four parts. -/
structure NAct where
  op : Int
  a : Int
  b : Int
  bA : Option Addr
  bc : Nat
  bs : List UInt8
instance : Inhabited NAct := ⟨⟨0, 0, 0, none, 0, []⟩⟩
def NAct.v (q : NAct) : Value := .agg #[.int .i64 q.op, .int .i64 q.a, .int .i64 q.b, .slice q.bA q.bs.length q.bc]
/-- An act at a place; B: what is older than the call. -/
structure NActAt (w : World) (B : Nat) (b o : Nat) (q : NAct) : Prop where
  c0 : w.cell? ⟨b, o, none⟩ = some (.int .i64 q.op)
  c1 : w.cell? ⟨b, o + 1, none⟩ = some (.int .i64 q.a)
  c2 : w.cell? ⟨b, o + 2, none⟩ = some (.int .i64 q.b)
  c3 : w.cell? ⟨b, o + 3, none⟩ = some (.slice q.bA q.bs.length q.bc)
  rb : Rd8 w q.bA q.bs
  lb : b < B
  bb : ∀ ad, q.bA = some ad → 0 < q.bs.length → ad.block < B
  o1 : -9223372036854775808 ≤ q.op
  o2 : q.op ≤ 9223372036854775807
  a1 : -9223372036854775808 ≤ q.a
  a2 : q.a ≤ 9223372036854775807
  b1 : -9223372036854775808 ≤ q.b
  b2 : q.b ≤ 9223372036854775807
  hb : q.bs.length ≤ 140737488355328
theorem NActAt.fr {S : Nat → Prop} {w w' : World} {B b o : Nat} {q : NAct} (h : NActAt w B b o q) (hf : Fr S w w') (hS : ∀ k, k < B → ¬ S k) : NActAt w' B b o q :=
  { h with
    c0 := (hf.cell (World.block_lt_of_cell? w _ h.c0) (hS _ h.lb)).trans h.c0
    c1 := (hf.cell (World.block_lt_of_cell? w _ h.c1) (hS _ h.lb)).trans h.c1
    c2 := (hf.cell (World.block_lt_of_cell? w _ h.c2) (hS _ h.lb)).trans h.c2
    c3 := (hf.cell (World.block_lt_of_cell? w _ h.c3) (hS _ h.lb)).trans h.c3
    rb := h.rb.fr hf (fun ad e h0 => hS _ (h.bb ad e h0)) }
/-- A list of acts. -/
def NActs (w : World) (B : Nat) (A : Option Addr) (l : List NAct) : Prop := 0 < l.length → ∃ b o, A = some ⟨b, o, none⟩ ∧ ∀ i (h : i < l.length), NActAt w B b (o + i * 4) l[i]
theorem NActs.fr {S : Nat → Prop} {w w' : World} {B : Nat} {A : Option Addr} {l : List NAct} (h : NActs w B A l) (hf : Fr S w w') (hS : ∀ k, k < B → ¬ S k) : NActs w' B A l := fun h0 => by
  obtain ⟨b, o, e, hc⟩ := h h0
  exact ⟨b, o, e, fun i hi => (hc i hi).fr hf hS⟩
theorem NActs.at_ {w : World} {B : Nat} {A : Option Addr} {l : List NAct} (h : NActs w B A l) {i : Nat} (hi : i < l.length) : ∃ b o, A = some ⟨b, o, none⟩ ∧ NActAt w B b (o + i * 4) (l.getD i default) := by
  obtain ⟨b, o, e, hc⟩ := h (by omega)
  refine ⟨b, o, e, ?_⟩
  rw [show l.getD i default = l[i] by simp [List.getD, hi]]
  exact hc i hi

theorem Try.cellsNAct : Try.prog.cellsOf 35 = 4 := by kernel_rfl
theorem Try.cellsI : Try.prog.cellsOf 3 = 1 := by kernel_rfl
theorem Try.cellsBs : Try.prog.cellsOf 33 = 1 := by kernel_rfl
theorem Try.bytesU8 : Try.prog.bytesOf 5 = 1 := by kernel_rfl
theorem weightsAll_at {H : Type} {P : Program} {e : TypeId} {d : DataW H} : ∀ {l : List (DataW H)}, d ∈ l → ∀ z ∈ d.weights P e, z ∈ DataW.weightsAll P e l
  | [], h, _, _ => by cases h
  | x :: r, h, z, hz => by
    rw [DataW.weightsAll]
    rcases List.mem_cons.1 h with e | e
    · subst e; exact List.mem_append_left _ hz
    · exact List.mem_append_right _ (weightsAll_at e z hz)

/-- What a reading of bytes among cells tells. -/
theorem bytes_trod {H : Type} {enc : TypeId × Value → H} {W : World} {fuel : Nat} {cs : List Value} {x : DataW H × List MemPlace} (hf : DataW.trod enc Try.prog W 0 (fun _ => true) true fuel 33 cs = some x) :
    ∃ A n c xs, cs = [.slice A n c] ∧ Rd8 W A xs ∧ xs.length = n ∧ n ≤ c ∧ c ≤ maxLen ∧ (∀ ad, A = some ad → 0 < n → ad.block < W.heap.size) ∧ ((∀ z ∈ x.1.weights Try.prog 33, z ≤ reachBytes) → n ≤ reachBytes) := by
  rcases open_ints Try.underlying33 Try.underlying5 Try.cellsU8 hf with ⟨hcs, hx⟩ | ⟨a, n, c, zs, hcs, _, hl, hm, hz, hx, hcell, hwz⟩
  · exact ⟨none, 0, 0, [], hcs, Rd8.nil _ _, rfl, Nat.le_refl _, Nat.zero_le _, fun ad e => (by cases e), fun _ => Nat.zero_le _⟩
  · simp only [if_true] at hz
    have hcl : ∀ j, j < n → (a.spot = none ∧ W.cell? ⟨a.block, a.off + j, none⟩ = some (.int .u8 (((zs.take n).map fun z => UInt8.ofNat z.toNat).getD j 0).toNat)) := by
      intro j hj
      have h0 := hcell j (by omega)
      have hsp := World.cell?_spot h0
      obtain ⟨b, o, sp⟩ := a
      have hsp0 : sp = none := by
        have := World.cell?_spot (hcell 0 (by omega))
        simpa [Addr.add] using this
      subst hsp0
      refine ⟨rfl, ?_⟩
      rw [add_at] at h0
      rw [h0]
      have hw := bounds_u8 (hwz (zs.getD j 0) (by simp [List.getD, show j < zs.length by omega]))
      have e : ((zs.take n).map fun z => UInt8.ofNat z.toNat).getD j 0 = UInt8.ofNat (zs.getD j 0).toNat := by
        simp [List.getD, show j < n from hj, show j < zs.length by omega]
      rw [e, UInt8.toNat_ofNat', Nat.mod_eq_of_lt (by omega)]
      congr 2
      omega
    refine ⟨some a, n, c, (zs.take n).map fun z => UInt8.ofNat z.toNat, hcs, fun h0 => ⟨a, rfl, ?_, fun j hj => ?_⟩, by simp; omega, hl, hm, fun ad e h0 => ?_, fun hw => ?_⟩
    · simp at h0; exact (hcl 0 (by omega)).1
    · simp at hj
      have := (hcl j (by omega)).2
      simpa [List.getD, show j < n by omega, show j < zs.length by omega] using this
    · injection e with e
      subst e
      have := World.block_lt_of_cell? W _ (hcl 0 h0).2
      exact this
    · subst hx
      have hw0 := hw ((lits (H := H) .u8 (zs.take n)).length + (lits (H := H) .u8 (zs.drop n)).length) (by simp [DataW.weights, Try.underlying33, Try.bytesU8])
      simp [lits] at hw0
      omega


theorem choose_lt4 {α : Type} [Inhabited α] {n : Nat} {p : Nat → α → Prop} (h : ∀ i, i < n → ∃ q, p i q) : ∃ f : Nat → α, ∀ i, i < n → p i (f i) :=
  ⟨fun i => if hi : i < n then (h i hi).choose else default, fun i hi => by simp only [dif_pos hi]; exact (h i hi).choose_spec⟩
set_option maxRecDepth 100000 in
set_option maxHeartbeats 2000000 in
theorem open_nacts {H : Type} {enc : TypeId × Value → H} {W : World} {base : Nat} {v : Value} {d : DataW H} {ps : List MemPlace} (hval : Value.okWide Try.prog W .any base 22 v) (h : DataW.Trod enc Try.prog W 0 (fun _ => true) true 22 v d ps)
    (hwt : ∀ z ∈ d.weights Try.prog 22, z ≤ reachBytes) :
    ∃ A n c l, v = .slice A n c ∧ NActs W W.heap.size A l ∧ l.length = n ∧ (n : Int) ≤ 9223372036854775807 := by
  obtain ⟨A, n, c, rfl⟩ := okWide_slice Try.underlying22 hval
  obtain ⟨fuel, hf⟩ := h
  rcases open_slice Try.underlying22 hf with ⟨hcs, hx⟩ | ⟨a, len, cap, m, k, D, Pl, hcs, _, hl, hm, hmm, hx, hall⟩
  · simp [Value.cells] at hcs
    obtain ⟨rfl, rfl, rfl⟩ := hcs
    exact ⟨none, 0, 0, [], rfl, fun h0 => by simp at h0, rfl, by omega⟩
  · simp [Value.cells] at hcs
    obtain ⟨rfl, rfl, rfl⟩ := hcs
    simp only [if_true] at hmm
    subst hmm
    simp only [Prod.mk.injEq] at hx
    obtain ⟨hd, _⟩ := hx
    subst hd
    unfold maxLen at hm
    have hwi : ∀ i, i < n → ∀ z ∈ (D i).weights Try.prog 35, z ≤ reachBytes := fun i hi z hz => hwt z (by
      simp only [DataW.weights, Try.underlying22]
      refine List.mem_cons_of_mem _ (List.mem_append_left _ (weightsAll_at (List.mem_map.2 ⟨i, List.mem_range.2 hi, rfl⟩) z hz)))
    have hsp0 : 0 < n → a.spot = none := fun h0 => by
      obtain ⟨cs', h1, _⟩ := hall 0 (by omega)
      rw [Try.cellsNAct] at h1
      obtain ⟨_, hlen, hcell⟩ := World.cells?_some h1
      have h7 := World.cell?_spot ((hcell 0 (by omega)).trans (List.getElem?_eq_getElem (by omega)))
      simpa [Addr.add] using h7
    have each : ∀ i, i < n → ∃ q : NAct, NActAt W W.heap.size a.block (a.off + i * 4) q ∧ a.spot = none := by
      intro i hi
      obtain ⟨cs', h1, h2⟩ := hall i (by omega)
      have hwi := hwi i hi
      rw [Try.cellsNAct] at h1
      obtain ⟨_, hlen, hcell⟩ := World.cells?_some h1
      obtain ⟨ys, j, _, hxy, _, hyl, hfl⟩ := DataW.trod_struct Try.underlying35 h2
      match cs', hlen with
      | [v0, v1, v2, v3], _ =>
        match ys, hyl with
        | [y0, y1, y2, y3], _ =>
          have u0 : DataW.trod enc Try.prog W 0 (fun _ => true) true j 3 (([v0, v1, v2, v3].drop 0).take (Try.prog.cellsOf 3)) = some y0 := hfl 0 _ rfl
          rw [Try.cellsI] at u0
          simp only [List.drop, List.take] at u0
          have u1 : DataW.trod enc Try.prog W 0 (fun _ => true) true j 3 (([v0, v1, v2, v3].drop 1).take (Try.prog.cellsOf 3)) = some y1 := hfl 1 _ rfl
          rw [Try.cellsI] at u1
          simp only [List.drop, List.take] at u1
          have u2 : DataW.trod enc Try.prog W 0 (fun _ => true) true j 3 (([v0, v1, v2, v3].drop 2).take (Try.prog.cellsOf 3)) = some y2 := hfl 2 _ rfl
          rw [Try.cellsI] at u2
          simp only [List.drop, List.take] at u2
          have u3 : DataW.trod enc Try.prog W 0 (fun _ => true) true j 33 (([v0, v1, v2, v3].drop 3).take (Try.prog.cellsOf 33)) = some y3 := hfl 3 _ rfl
          rw [Try.cellsBs] at u3
          simp only [List.drop, List.take] at u3
          obtain ⟨z0, e0, _, w0⟩ := DataW.trod_int Try.underlying3 u0
          obtain ⟨z1, e1, _, w1⟩ := DataW.trod_int Try.underlying3 u1
          obtain ⟨z2, e2, _, w2⟩ := DataW.trod_int Try.underlying3 u2
          obtain ⟨A3, n3, c3, xs, e3, r1, r2, r3, r4, r5, r6⟩ := bytes_trod u3
          simp only [List.cons.injEq, and_true] at e0 e1 e2 e3
          subst e0; subst e1; subst e2; subst e3
          have c0 := hcell 0 (by omega)
          have c1 := hcell 1 (by omega)
          have c2' := hcell 2 (by omega)
          have c3' := hcell 3 (by omega)
          have hsp : a.spot = none := hsp0 (by omega)
          obtain ⟨bl, o, sp⟩ := a
          cases hsp
          rw [add_add] at c0 c1 c2' c3'
          rw [add_at] at c0 c1 c2' c3'
          have b0 := bounds_i64 w0
          have b1 := bounds_i64 w1
          have b2 := bounds_i64 w2
          simp only [Prod.mk.injEq] at hxy
          have r7 := r6 (fun z hz => hwi z (by
            rw [hxy.1]
            simp only [DataW.weights, Try.underlying35, DataW.weightsEach]
            simp [DataW.weightsEach, hz]))
          subst r2
          unfold reachBytes at r7
          have hlb : bl < W.heap.size := World.block_lt_of_cell? W ⟨bl, o + i * 4 + 0, none⟩ (by simpa using c0)
          exact ⟨⟨z0, z1, z2, A3, c3, xs⟩, ⟨by simpa using c0, by simpa [Nat.add_assoc] using c1, by simpa [Nat.add_assoc] using c2', by simpa [Nat.add_assoc] using c3', r1, hlb, r5, b0.1, b0.2, b1.1, b1.2, b2.1, b2.2, by simp only; omega⟩, rfl⟩
    obtain ⟨q, hq⟩ := choose_lt4 each
    refine ⟨some a, n, m, (List.range n).map q, rfl, fun h0 => ?_, by simp, by omega⟩
    have h0' : 0 < n := by simpa using h0
    have hsp := (hq 0 (by omega)).2
    obtain ⟨bl, o, sp⟩ := a
    cases hsp
    refine ⟨bl, o, rfl, fun i hi => ?_⟩
    simp at hi
    simpa using (hq i (by omega)).1

/-- The sum of the data's lengths. -/
def nsum (l : List NAct) : Nat → Nat
  | 0 => 0
  | k + 1 => nsum l k + (l.getD k default).bs.length
theorem nsum_le {l : List NAct} {k i : Nat} (h : i < k) : (l.getD i default).bs.length ≤ nsum l k := by
  induction k with
  | zero => omega
  | succ k ih =>
    unfold nsum
    rcases Nat.lt_or_ge i k with h1 | h1
    · have := ih h1; omega
    · obtain rfl : i = k := by omega
      omega
def nfew (l : List NAct) : Bool := decide (l.length ≤ 200) && decide (nsum l l.length ≤ 16384)
theorem nfew_yes {l : List NAct} (h : nfew l = true) : l.length ≤ 200 ∧ ∀ i, i < l.length → (l.getD i default).bs.length ≤ 16384 := by
  simp [nfew] at h
  exact ⟨h.1, fun i hi => Nat.le_trans (nsum_le hi) h.2⟩

set_option maxRecDepth 100000 in
set_option maxHeartbeats 2000000 in
theorem nfew_any (A : Option Addr) (n c B : Nat) (l : List NAct) (w : World) (h : NActs w B A l) (hn : l.length = n) (hnb : (n : Int) ≤ 9223372036854775807) :
    Calls Try.prog 8 #[.slice A n c] w fun e w' => e = .returned (.bool (nfew l)) ∧ Fr (fun _ => False) w w' := by
  have H := Lib.hid h
  clear h
  by_cases hl : n ≤ 200
  · have hd1 : decide (l.length ≤ 200) = true := by simp; omega
    have hfe : nfew l = decide ((nsum l n : Int) ≤ 16384) := by
      unfold nfew; rw [hd1, hn, Bool.true_and]
      rw [Bool.eq_iff_iff]; simp; omega
    rw [hfe]
    have HB : Hid (∀ k, k ≤ n → (nsum l k : Int) ≤ k * 140737488355328) := Lib.hid (by
      intro k
      induction k with
      | zero => intro _; simp [nsum]
      | succ k ih =>
        intro hk
        have h1 := ih (by omega)
        obtain ⟨b, o, _, ha⟩ := H.out.at_ (i := k) (by omega)
        have h2 := ha.hb
        unfold nsum
        rw [Int.natCast_add]
        have : ((k + 1 : Nat) : Int) * 140737488355328 = k * 140737488355328 + 140737488355328 := by omega
        omega)
    have hn2 : (n : Int) ≤ 200 := by omega
    have HN := Lib.hid hn
    clear hd1 hfe hn hnb
    go_enter Try.func8, Try.ntmps8
    go_wp2_with fail
    go_loopw [3, 4] (fun s i wr => ∃ k : Nat, k ≤ n ∧ i = .int .i64 k ∧ s = .int .i64 (nsum l k : Int) ∧ Fr (fun _ => False) w wr) (fun _ i _ => n - (intOf i).toNat)
    case atStart => exact ⟨0, Nat.zero_le _, rfl, rfl, Fr.refl _ _⟩
    case round =>
      obtain ⟨k, hk, rfl, rfl, hf⟩ := hrel
      have HF := Lib.hid hf
      clear hf
      have hs1 := HB.out k hk
      have hs0 : (0 : Int) ≤ (nsum l k : Int) := by omega
      have hk0 : (0 : Int) ≤ (k : Int) := by omega
      by_cases hlt : k < n
      · obtain ⟨b, o, rfl, hat⟩ := (H.out.fr HF.out (fun _ _ h => h)).at_ (i := k) (by rw [HN.out]; exact hlt)
        have hs2 := HB.out (k + 1) (by omega)
        have HS : Hid (((nsum l k : Nat) : Int) + ((l.getD k default).bs.length : Int) = ((nsum l (k + 1) : Nat) : Int)) := Lib.hid (by
          conv => rhs; unfold nsum
          omega)
        have a3 := hat.c3
        have h2 : (((l.getD k default).bs.length : Nat) : Int) ≤ 140737488355328 := by have := hat.hb; omega
        have hlt' : (k : Int) < n := by omega
        clear hat HB
        generalize (l.getD k default).bs.length = x at *
        generalize nsum l k = s1 at *
        have e1 : IntKind.i64.wrap ((s1 : Int) + (x : Int)) = (s1 : Int) + (x : Int) := IntWalk.i64_in _ (by omega)
        go_wp2_with fail
        refine ⟨⟨k + 1, by omega, by simp, by rw [HS.out], HF.out⟩, ?_⟩
        first | omega | (show _ < _; simp [intOf]; omega)
      · obtain rfl : k = n := by omega
        have hkl : decide ((k : Int) ≤ 200) = true := by simp; omega
        go_wp2
        go_ret
        exact ⟨by simp, HF.out⟩
  · have hd1 : nfew l = false := by unfold nfew; rw [decide_eq_false (by omega), Bool.false_and]
    rw [hd1]
    have hn2 : decide ((n : Int) ≤ 200) = false := by simp; omega
    have HN := Lib.hid hn
    clear hd1 hn
    go_enter Try.func8, Try.ntmps8
    go_wp2_with fail
    go_loopw [3, 4] (fun s i wr => ∃ (k : Nat) (u : Int), k ≤ n ∧ i = .int .i64 k ∧ s = .int .i64 u ∧ Fr (fun _ => False) w wr) (fun _ i _ => n - (intOf i).toNat)
    case atStart => exact ⟨0, 0, Nat.zero_le _, rfl, rfl, Fr.refl _ _⟩
    case round =>
      obtain ⟨k, u, hk, rfl, rfl, hf⟩ := hrel
      have HF := Lib.hid hf
      clear hf
      have hk0 : (0 : Int) ≤ (k : Int) := by omega
      by_cases hlt : k < n
      · obtain ⟨b, o, rfl, hat⟩ := (H.out.fr HF.out (fun _ _ h => h)).at_ (i := k) (by rw [HN.out]; exact hlt)
        have a3 := hat.c3
        have hlt' : (k : Int) < n := by omega
        clear hat
        generalize (l.getD k default).bs.length = x at *
        go_wp2_with fail
        refine ⟨⟨k + 1, _, by omega, by simp, rfl, HF.out⟩, ?_⟩
        first | omega | (show _ < _; simp [intOf]; omega)
      · obtain rfl : k = n := by omega
        go_wp2
        go_ret
        exact ⟨rfl, HF.out⟩
end Go.Proofs.Ytmlckocgahfnkaa
