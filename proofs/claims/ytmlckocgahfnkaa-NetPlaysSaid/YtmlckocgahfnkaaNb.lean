/- A set of pairs: a map keyed by arrays of two ints. -/
import Derived.Test.YtmlckocgahfnkaaNa
import Derived.Maps.OwnOps
import Derived.Maps.OwnSet
import Derived.ChangeKeysEq
namespace Go.Proofs.Ytmlckocgahfnkaa
open Go.RowKit

/-- A pair as a key. -/
def keyV (p : Int × Int) : Value := .agg #[.int .i64 p.1, .int .i64 p.2]
theorem infoInt : (Try.prog.info? 3).map (fun i => (i.zero, i.size, i.bytes)) = some (some (.int .i64 0), 1, 8) := by kernel_rfl

theorem run_partI (w : World) (cs : Array Value) (v : Value) (i : Nat) (h : cs[i]? = some v) : (part 3 cs i).run Try.prog w = .ok v w := by
  unfold part
  simp only [Try.isAgg3, Sem.run_bind, Sem.run_pure, Result.andThen_ok, h]
  rfl
theorem run_eqI (w : World) (d : Nat) (a b : Int) : (Op.equalIn (d + 1) 3 (.int .i64 a) (.int .i64 b)).run Try.prog w = .ok (a == b) w := by
  simp [Op.equalIn, run_underlying Try.underlying3]
theorem run_items (w : World) (d : Nat) (p q : Int × Int) : (Op.eqItems (d + 1) 3 1 #[.int .i64 p.1, .int .i64 p.2] #[.int .i64 q.1, .int .i64 q.2] [0, 1]).run Try.prog w = .ok (p.1 == q.1 && p.2 == q.2) w := by
  simp only [Op.eqItems, Sem.run_bind, run_partI w _ _ _ (show #[Value.int .i64 p.1, .int .i64 p.2][0 * 1]? = some (.int .i64 p.1) from rfl), run_partI w _ _ _ (show #[Value.int .i64 q.1, .int .i64 q.2][0 * 1]? = some (.int .i64 q.1) from rfl),
    run_partI w _ _ _ (show #[Value.int .i64 p.1, .int .i64 p.2][1 * 1]? = some (.int .i64 p.2) from rfl), run_partI w _ _ _ (show #[Value.int .i64 q.1, .int .i64 q.2][1 * 1]? = some (.int .i64 q.2) from rfl), Result.andThen_ok, run_eqI]
  cases h1 : p.1 == q.1 <;> cases h2 : p.2 == q.2 <;> simp [run_eqI, h2, run_partI w _ _ 1 (show #[Value.int .i64 p.1, .int .i64 p.2][1]? = some (.int .i64 p.2) from rfl), run_partI w _ _ 1 (show #[Value.int .i64 q.1, .int .i64 q.2][1]? = some (.int .i64 q.2) from rfl)]
theorem run_equal_pair (w : World) (p q : Int × Int) : (Op.equal 69 (keyV p) (keyV q)).run Try.prog w = .ok (p.1 == q.1 && p.2 == q.2) w := by
  unfold Op.equal keyV
  obtain ⟨i, hi, hz, hsz, hby⟩ := info_parts infoInt
  rw [show Op.maxDepth = 9999 + 1 from rfl, run_equalIn_array w 9999 _ _ Try.underlying69 hi]
  have hc : Try.prog.cellsOf 3 = 1 := by kernel_rfl
  rw [hc]
  exact run_items w 9998 p q

theorem run_eql_pair (w : World) (p q : Int × Int) : (binOp .eql 69 (keyV p) (keyV q)).run Try.prog w = .ok (.bool (p.1 == q.1 && p.2 == q.2)) w := by
  have h := run_equal_pair w p q
  unfold keyV at *
  rw [run_eql_struct]
  unfold Op.equal at h
  rw [show (10000 : Nat) = Op.maxDepth from rfl, h]
  rfl

/-- Block b is a set of just these pairs. -/
def CM (w : World) (b : Nat) (ks : List (Int × Int)) : Prop := ∃ es clock, w.heap[b]? = some (.map es clock) ∧ es.toList.map (fun e => (e.key, e.val)) = ks.map fun k => (keyV k, Value.agg #[])
theorem CM.lt {w : World} {b : Nat} {ks : List (Int × Int)} (h : CM w b ks) : b < w.heap.size := by
  obtain ⟨es, clock, h1, _⟩ := h
  exact (Array.getElem?_eq_some_iff.1 h1).1
theorem CM.fr {S : Nat → Prop} {w w' : World} {b : Nat} {ks : List (Int × Int)} (h : CM w b ks) (hf : Fr S w w') (hb : ¬ S b) : CM w' b ks := by
  have hl := h.lt
  obtain ⟨es, clock, h1, h2⟩ := h
  exact ⟨es, clock, (hf.block b hl hb).trans h1, h2⟩
theorem CM.ne {w : World} {b g : Nat} {t : TypeId} {cs : Array Value} {ks : List (Int × Int)} (h : CM w b ks) (hg : Bk w g t cs) : g ≠ b := by
  rintro rfl
  obtain ⟨es, clock, h1, _⟩ := h
  unfold Bk at hg
  rw [hg] at h1
  cases h1
theorem CM.made (w : World) : CM (w.alloc (.map #[] 0)) w.heap.size [] := ⟨#[], 0, heap_alloc_new w _, rfl⟩

/-- Is the pair among them? -/
def hasP (ks : List (Int × Int)) (p : Int × Int) : Bool := ks.any fun k => p.1 == k.1 && p.2 == k.2
theorem findNow_arr (k : Value) (es : List MapEntry) (n : Nat) (e : TypeId) (i : Nat) : es = [] ∨ Instr.findNow (.array n e) k es i = none := by
  cases es with
  | nil => exact .inl rfl
  | cons x r => exact .inr (by simp [Instr.findNow, Instr.sameNow])
theorem findAsk (p : Int × Int) (w : World) : ∀ (es : List MapEntry) (ks : List (Int × Int)) (i : Nat), es.map (fun e => (e.key, e.val)) = ks.map (fun k => (keyV k, Value.agg #[])) →
    (hasP ks p = false ∧ (Instr.findAsking 69 (keyV p) es i).run Try.prog w = .ok none w) ∨ (hasP ks p = true ∧ ∃ j, j < ks.length ∧ ks[j]? = some p ∧ (Instr.findAsking 69 (keyV p) es i).run Try.prog w = .ok (some (i + j, .agg #[])) w)
  | [], [], i, _ => .inl ⟨rfl, rfl⟩
  | [], k :: ks, i, h => by simp at h
  | e :: es, [], i, h => by simp at h
  | e :: es, k :: ks, i, h => by
    simp only [List.map_cons, List.cons.injEq, Prod.mk.injEq] at h
    obtain ⟨⟨h1, h2⟩, h3⟩ := h
    have hq := run_equal_pair w p k
    unfold Instr.findAsking
    rw [h1]
    simp only [Sem.run_bind, hq, Result.andThen_ok]
    by_cases hk : (p.1 == k.1 && p.2 == k.2) = true
    · refine .inr ⟨by simp [hasP, List.any_cons, hk], 0, by simp, ?_, by simp [hk, h2]⟩
      have hk' : p = k := by
        rw [Bool.and_eq_true] at hk
        exact Prod.ext (by simpa using hk.1) (by simpa using hk.2)
      simp [hk']
    · have hk' : (p.1 == k.1 && p.2 == k.2) = false := by simpa using hk
      rcases findAsk p w es ks (i + 1) h3 with ⟨a1, a2⟩ | ⟨a1, j, a2, a3, a4⟩
      · refine .inl ⟨?_, by simp only [hk']; simpa using a2⟩
        unfold hasP at *; rw [List.any_cons, hk', a1]; rfl
      · refine .inr ⟨?_, j + 1, by simp; omega, by simpa using a3, by simp only [hk']; rw [show i + (j + 1) = i + 1 + j by omega]; simpa using a4⟩
        unfold hasP at *; rw [List.any_cons, a1]; simp

theorem run_findP (w : World) (p : Int × Int) (es : List MapEntry) (ks : List (Int × Int)) (h : es.map (fun e => (e.key, e.val)) = ks.map (fun k => (keyV k, Value.agg #[]))) :
    (hasP ks p = false ∧ (Instr.findKey 69 (keyV p) es).run Try.prog w = .ok none w) ∨ (hasP ks p = true ∧ ∃ j, j < ks.length ∧ ks[j]? = some p ∧ (Instr.findKey 69 (keyV p) es).run Try.prog w = .ok (some (j, .agg #[])) w) := by
  unfold Instr.findKey
  simp only [Sem.run_bind, run_underlying Try.underlying69, Result.andThen_ok]
  have hf := findAsk p w es ks 0 h
  cases es with
  | nil =>
    have : ks = [] := by cases ks with
      | nil => rfl
      | cons k ks => simp at h
    subst this
    exact .inl ⟨rfl, rfl⟩
  | cons x r =>
    rcases findNow_arr (keyV p) (x :: r) 2 3 0 with e | e
    · cases e
    · simp only [e]
      simpa using hf

theorem run_checkI (b : Bool) (w : World) (n : Nat) (x : Int) : (Instr.checkKey b (n + 1) 3 (.int .i64 x)).run Try.prog w = .ok () w := by
  simp [Instr.checkKey, run_underlying Try.underlying3]
theorem run_checkN (b : Bool) (w : World) (n : Nat) (p : Int × Int) : (Instr.checkKey b (n + 1 + 1) 69 (keyV p)).run Try.prog w = .ok () w := by
  unfold keyV
  have hs : (sizeOf 3).run Try.prog w = .ok 1 w := by kernel_rfl
  conv => lhs; unfold Instr.checkKey
  simp only [Sem.run_bind, run_underlying Try.underlying69, Result.andThen_ok, Std.Legacy.Range.forIn_eq_forIn_range', Std.Legacy.Range.size, Nat.sub_zero, Nat.add_one_sub_one, Nat.div_one, List.range', List.forIn_cons, hs, run_partI w _ _ _ (show #[Value.int .i64 p.1, .int .i64 p.2][0 * 1]? = some (.int .i64 p.1) from rfl), run_partI w _ _ _ (show #[Value.int .i64 p.1, .int .i64 p.2][(0 + 1) * 1]? = some (.int .i64 p.2) from rfl), run_checkI]
  simp [run_checkI, run_partI w _ _ 1 (show #[Value.int .i64 p.1, .int .i64 p.2][1]? = some (.int .i64 p.2) from rfl)]
theorem run_checkP (b : Bool) (w : World) (p : Int × Int) : (Instr.checkKey b 10000 69 (keyV p)).run Try.prog w = .ok () w := run_checkN b w 9998 p
theorem run_lookupP {w : World} {b : Nat} {ks : List (Int × Int)} (h : CM w b ks) (p : Int × Int) :
    (Instr.lookup 56 (.map (some b)) (keyV p) true).run Try.prog w = .ok (.tuple #[.agg #[], .bool (hasP ks p)]) w := by
  obtain ⟨es, clock, h1, h2⟩ := h
  have hz : (zeroValue 71).run Try.prog w = .ok (.agg #[]) w := by simp [go_sem]
  rcases run_findP w p es.toList ks h2 with ⟨a1, a2⟩ | ⟨a1, j, _, _, a2⟩
  · simp [Instr.lookup, run_underlying Try.underlying56, MapKept.run_getObj_map h1, run_checkP, a2, a1, hz, Result.andThen]
  · simp [Instr.lookup, run_underlying Try.underlying56, MapKept.run_getObj_map h1, run_checkP, a2, a1, Result.andThen]

theorem fr_setBlock {w : World} {b : Nat} {es : Array MapEntry} {c : Nat} (h1 : w.heap[b]? = some (.map es c)) (es' : Array MapEntry) (c' : Nat) : Fr (fun k => k = b) w (ChangeMaps.setBlock w b (.map es' c')) ∧ (ChangeMaps.setBlock w b (.map es' c')).heap[b]? = some (.map es' c') := by
  refine ⟨?_, ChangeMaps.heap_setBlock_same h1 _⟩
  exact (Fr.of_grown (World.mapTurned.grown ⟨es, c, es', c', h1, rfl⟩)).mono (fun _ _ e => (Option.some.inj e).symm)
theorem sameKeyBits (p : Int × Int) (n : Nat) : Instr.sameBits (n + 1 + 1) (keyV p) (keyV p) = true := by
  unfold keyV
  simp [Instr.sameBits]
/-- The pairs behind one more. -/
def putP (ks : List (Int × Int)) (p : Int × Int) : List (Int × Int) := if hasP ks p then ks else ks ++ [p]
theorem run_updateP {w : World} {b : Nat} {ks : List (Int × Int)} (h : CM w b ks) (p : Int × Int) :
    ∃ w', (Instr.mapUpdate 56 (.map (some b)) (keyV p) (.agg #[])).run Try.prog w = .ok () w' ∧ CM w' b (putP ks p) ∧ Fr (fun k => k = b) w w' := by
  obtain ⟨es, clock, h1, h2⟩ := h
  rcases run_findP w p es.toList ks h2 with ⟨a1, a2⟩ | ⟨a1, j, hj, hk, a2⟩
  · obtain ⟨f1, f2⟩ := fr_setBlock h1 (es.push { key := keyV p, val := .agg #[], born := clock }) (clock + 1)
    refine ⟨ChangeMaps.setBlock w b (.map (es.push { key := keyV p, val := .agg #[], born := clock }) (clock + 1)), ?_, ⟨_, _, f2, ?_⟩, f1⟩
    · simp [Instr.mapUpdate, run_underlying Try.underlying56, MapKept.run_getObj_map h1, run_checkP, a2, MapKept.run_setObj_map _ h1, Result.andThen, ChangeMaps.setBlock]
    · unfold putP; rw [if_neg (by simp [a1])]
      simp [h2]
  · obtain ⟨f1, f2⟩ := fr_setBlock h1 (es.modify j fun e => { e with key := keyV p, val := .agg #[] }) clock
    have hl : es.size = ks.length := by have := congrArg List.length h2; simpa using this
    have hat : ∀ i, i < ks.length → (es[i]?).map (fun e => (e.key, e.val)) = (ks[i]?).map fun k => (keyV k, Value.agg #[]) := fun i hi => by
      have := congrArg (fun l => l[i]?) h2
      simpa using this
    have hkey : (es[j]?).map (·.key) = some (keyV p) := by
      have h3 := hat j hj
      rw [hk] at h3
      cases he : es[j]? with
      | none => rw [he] at h3; cases h3
      | some e => rw [he] at h3; simp at h3 ⊢; exact h3.1
    refine ⟨ChangeMaps.setBlock w b (.map (es.modify j fun e => { e with key := keyV p, val := .agg #[] }) clock), ?_, ⟨_, _, f2, ?_⟩, f1⟩
    · have hb := sameKeyBits p 9998
      simp only [Nat.reduceAdd] at hb
      simp [Instr.mapUpdate, run_underlying Try.underlying56, MapKept.run_getObj_map h1, run_checkP, a2, Instr.keyThatStays, hkey, hb, MapKept.run_setObj_map _ h1, Result.andThen, ChangeMaps.setBlock]
    · unfold putP; rw [if_pos a1]
      rw [← h2]
      apply List.ext_getElem?
      intro i
      simp only [List.getElem?_map, Array.getElem?_toList, Array.getElem?_modify]
      by_cases hi : j = i
      · subst hi
        have h3 := hat j hj
        rw [hk] at h3
        cases he : es[j]? with
        | none => rw [he] at h3; cases h3
        | some e => rw [he] at h3; simp at h3; simp [h3.1, h3.2]
      · simp [hi]
theorem run_clearP {w : World} {b : Nat} {ks : List (Int × Int)} (h : CM w b ks) (ty : TypeId) :
    ∃ w', (Builtin.clear_ #[56] ty #[.map (some b)]).run Try.prog w = .ok (.tuple #[]) w' ∧ CM w' b [] ∧ Fr (fun k => k = b) w w' := by
  obtain ⟨es, clock, h1, h2⟩ := h
  obtain ⟨f1, f2⟩ := fr_setBlock h1 #[] clock
  refine ⟨ChangeMaps.setBlock w b (.map #[] clock), ?_, ⟨_, _, f2, rfl⟩, f1⟩
  simp [Builtin.clear_, run_underlying Try.underlying56, MapKept.run_getObj_map h1, MapKept.run_setObj_map _ h1, Result.andThen, ChangeMaps.setBlock]
end Go.Proofs.Ytmlckocgahfnkaa
