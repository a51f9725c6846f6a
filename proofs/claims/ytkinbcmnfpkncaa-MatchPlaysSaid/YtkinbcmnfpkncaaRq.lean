/- match: MatchKeeps, plain: what is kept, name by name. -/
import Derived.Test.YtkinbcmnfpkncaaRm
import Derived.Test.YtkinbcmnfpkncaaJa
namespace Go.Proofs.Ytkinbcmnfpkncaa
open Go.RowKit Go.Maps

/-- Is a number kept? -/
def kp (b : Int) (x : Int) : Bool := x.tmod b != 0
def keepR (f : Nat → Int) (n : Nat) (b : Int) (c : Int) : List (Nat × Int) := (ordR f n c).filter fun x => kp b x.2
theorem keepR_mem {f : Nat → Int} {n : Nat} {b c : Int} {p : Nat × Int} : p ∈ keepR f n b c ↔ ∃ i, i < n ∧ f i = c ∧ kp b (i : Int) = true ∧ p = (i, (i : Int)) := by
  unfold keepR
  rw [List.mem_filter, ordR_mem]
  constructor
  · rintro ⟨⟨i, h1, h2, rfl⟩, h3⟩; exact ⟨i, h1, h2, h3, rfl⟩
  · rintro ⟨i, h1, h2, h3, rfl⟩; exact ⟨⟨i, h1, h2, rfl⟩, h3⟩
theorem keepR_rise (f : Nat → Int) (n : Nat) (b c : Int) : (keepR f n b c).Pairwise fun p q => p.1 < q.1 := (ordR_rise f n c).sublist List.filter_sublist
theorem keepR_cnt (f : Nat → Int) (n : Nat) (b c : Int) : (keepR f n b c).length = cntP (fun i => decide (f i = c) && kp b (i : Int)) n := by
  unfold keepR ordR cntP
  rw [List.filter_map, List.length_map, List.filter_filter]
  congr 1
  refine List.filter_congr fun i _ => ?_
  show (kp b (i : Int) && decide (f i = c)) = _
  exact Bool.and_comm _ _
theorem keepR_le (f : Nat → Int) (n : Nat) (b c : Int) : (keepR f n b c).length ≤ n := by rw [keepR_cnt]; exact cntP_le _ _
/-- How many of a list are gone. -/
theorem keepR_gone (f : Nat → Int) (n : Nat) (b c : Int) : (ordR f n c).length - (keepR f n b c).length = cntP (fun i => decide (f i = c) && !kp b (i : Int)) n := by
  rw [ordR_cnt, keepR_cnt, cntP_add (p := fun i => decide (f i = c) && kp b (i : Int)) (q := fun i => decide (f i = c) && !kp b (i : Int))]
  · omega
  · intro i _
    cases kp b (i : Int) <;> cases decide (f i = c) <;> simp
/-- How many of the lists below k are gone; one list more. -/
def goneP (f : Nat → Int) (b k : Int) (i : Nat) : Bool := decide (f i < k) && !kp b (i : Int)
theorem gone_next (f : Nat → Int) (n : Nat) (b k : Int) : cntP (goneP f b (k + 1)) n = cntP (goneP f b k) n + ((ordR f n k).length - (keepR f n b k).length) := by
  rw [keepR_gone]
  refine cntP_add fun i _ => ?_
  unfold goneP
  have h1 : decide (f i < k + 1) = (decide (f i < k) || decide (f i = k)) := by
    by_cases h : f i < k
    · simp [h]; omega
    · by_cases h' : f i = k
      · have h3 : k < k + 1 := by omega
        simp [h', h3]
      · simp [h, h']; omega
  have h2 : ¬ (decide (f i < k) = true ∧ decide (f i = k) = true) := by simp; omega
  rw [h1]
  generalize decide (f i < k) = x at *
  generalize decide (f i = k) = y at *
  cases x <;> cases y <;> simp at h2 ⊢

/-- The lists when those below k were gone through. -/
structure Kpt (f : Nat → Int) (n : Nat) (b k : Int) (s : MT Int) : Prop where
  ok : s.ok
  ps : s.pushed = n
  lo : ∀ c, c < k → s.row c = keepR f n b c
  hi : ∀ c, k ≤ c → s.row c = ordR f n c
theorem ordR_none {f : Nat → Int} {n : Nat} {c : Int} (h : ∀ i, i < n → f i ≠ c) : ordR f n c = [] := by
  refine List.eq_nil_iff_forall_not_mem.2 fun p hp => ?_
  obtain ⟨i, h1, h2, _⟩ := ordR_mem.1 hp
  exact h i h1 h2
theorem Kpt.start {f : Nat → Int} {n : Nat} (h : n ≤ 300) (b : Int) (hf : ∀ i, 0 ≤ f i) : Kpt f n b 0 (ordT f n) :=
  ⟨ordT_ok h, rfl, fun c hc => by show ordR f n c = keepR f n b c; unfold keepR; rw [ordR_none (fun i _ => by have := hf i; omega)]; rfl, fun _ _ => rfl⟩
theorem Kpt.next {f : Nat → Int} {n : Nat} {b k : Int} {s : MT Int} (h : Kpt f n b k s) : Kpt f n b (k + 1) (s.drop k ((s.row k).filter fun x => kp b x.2)) := by
  refine ⟨h.ok.drop List.filter_sublist, h.ps, fun c hc => ?_, fun c hc => ?_⟩
  · show setR s.row k _ c = _
    by_cases e : c = k
    · subst e; rw [setR_same, h.hi c (Int.le_refl _)]; rfl
    · rw [setR_ne _ _ e]; exact h.lo c (by omega)
  · show setR s.row k _ c = _
    rw [setR_ne _ _ (by omega)]; exact h.hi c (by omega)
theorem Kpt.all {f : Nat → Int} {n : Nat} {b k : Int} {s : MT Int} (h : Kpt f n b k s) (hf : ∀ i, f i < k) (c : Int) : s.row c = keepR f n b c := by
  by_cases hc : c < k
  · exact h.lo c hc
  · rw [h.hi c (by omega)]
    unfold keepR
    rw [ordR_none (fun i _ => by have := hf i; omega)]; rfl

/-- The lists while the i-th name is emptied: p tasks of it are gone. -/
structure Pp (R : Int → List (Nat × Int)) (n : Nat) (ns : List Int) (i p : Nat) (s : MT Int) : Prop where
  ok : s.ok
  ps : s.pushed = n
  lo : ∀ c, c ∉ ns.drop i → s.row c = []
  hi : ∀ c, c ∈ ns.drop (i + 1) → s.row c = R c
  at_ : ∀ h : i < ns.length, s.row ns[i] = (R ns[i]).drop p
theorem Pp.start {R : Int → List (Nat × Int)} {n : Nat} {ns : List Int} {s : MT Int} (ok : s.ok) (ps : s.pushed = n) (hs : ∀ c, s.row c = R c) (hn : ∀ c, c ∉ ns → R c = []) : Pp R n ns 0 0 s :=
  ⟨ok, ps, fun c hc => by rw [hs]; exact hn c (by simpa using hc), fun c _ => hs c, fun h => by rw [hs]; rfl⟩
theorem Pp.pop {R : Int → List (Nat × Int)} {n : Nat} {ns : List Int} {i p : Nat} {s : MT Int} (h : Pp R n ns i p s) (hr : Rise ns) (hi : i < ns.length) : Pp R n ns i (p + 1) (s.pop ns[i]) := by
  have hd := List.drop_eq_getElem_cons hi
  have hr2 : Rise (ns[i] :: ns.drop (i + 1)) := by rw [← hd]; exact hr.sublist (List.drop_sublist _ _)
  have hlt := (List.pairwise_cons.1 hr2).1
  refine ⟨h.ok.pop _, h.ps, fun c hc => ?_, fun c hc => ?_, fun h' => ?_⟩
  · show setR s.row ns[i] _ c = []
    rw [setR_ne _ _ (fun e => hc (by rw [hd, e]; exact List.mem_cons_self ..))]
    exact h.lo c hc
  · show setR s.row ns[i] _ c = _
    rw [setR_ne _ _ (fun e => by have := hlt c hc; omega)]
    exact h.hi c hc
  · show setR s.row ns[i] _ ns[i] = _
    rw [setR_same, h.at_ hi, List.tail_drop]
theorem Pp.next {R : Int → List (Nat × Int)} {n : Nat} {ns : List Int} {i p : Nat} {s : MT Int} (h : Pp R n ns i p s) (hi : i < ns.length) (hp : (R ns[i]).length ≤ p) : Pp R n ns (i + 1) 0 s := by
  have hd := List.drop_eq_getElem_cons hi
  refine ⟨h.ok, h.ps, fun c hc => ?_, fun c hc => ?_, fun h' => ?_⟩
  · by_cases e : c = ns[i]
    · subst e; rw [h.at_ hi]; exact List.drop_of_length_le hp
    · exact h.lo c (by rw [hd, List.mem_cons]; exact fun e' => e'.elim e hc)
  · exact h.hi c (by
      have := List.drop_drop (l := ns) (i := 1) (j := i + 1)
      exact List.mem_of_mem_drop (i := 1) (by rw [this]; simpa [Nat.add_comm] using hc))
  · rw [List.drop_zero]
    exact h.hi _ (by rw [List.drop_eq_getElem_cons h']; exact List.mem_cons_self ..)
theorem Pp.head {f : Nat → Int} {n : Nat} {b : Int} {ns : List Int} {i p : Nat} {s : MT Int} (h : Pp (keepR f n b) n ns i p s) (hi : i < ns.length) (hp : p < (keepR f n b ns[i]).length) : ∃ t, t < n ∧ f t = ns[i] ∧ kp b (t : Int) = true ∧ s.row ns[i] = (t, (t : Int)) :: (keepR f n b ns[i]).drop (p + 1) ∧ ∀ x ∈ (keepR f n b ns[i]).drop (p + 1), t < x.1 := by
  have e := List.drop_eq_getElem_cons hp
  obtain ⟨t, h1, h2, h4, h3⟩ := keepR_mem.1 (List.getElem_mem hp)
  refine ⟨t, h1, h2, h4, by rw [h.at_ hi, e, h3], fun x hx => ?_⟩
  have hr := (keepR_rise f n b ns[i]).sublist (List.drop_sublist p _)
  rw [e, List.pairwise_cons, h3] at hr
  exact hr.1 x hx
/-- How many tasks the first names have. -/
def sumL (R : Int → List (Nat × Int)) (ns : List Int) : Nat := (ns.map fun c => (R c).length).sum
theorem sumL_next (R : Int → List (Nat × Int)) (ns : List Int) {i : Nat} (hi : i < ns.length) : sumL R (ns.take (i + 1)) = sumL R (ns.take i) + (R ns[i]).length := by
  unfold sumL
  rw [List.take_add_one, List.getElem?_eq_getElem hi, List.map_append, List.sum_append]
  simp
theorem sumL_cnt (f : Nat → Int) (n : Nat) (b : Int) : ∀ ns : List Int, ns.Nodup → sumL (keepR f n b) ns = cntP (fun i => decide (f i ∈ ns) && kp b (i : Int)) n
  | [], _ => by unfold sumL; simp; rw [cntP_none]; intro i _; simp
  | c :: r, h => by
    obtain ⟨h1, h2⟩ := List.nodup_cons.1 h
    have ih := sumL_cnt f n b r h2
    have e : sumL (keepR f n b) (c :: r) = (keepR f n b c).length + sumL (keepR f n b) r := by simp [sumL]
    rw [e, ih, keepR_cnt]
    refine (cntP_add fun i _ => ?_).symm
    by_cases hc : f i = c
    · have : f i ∉ r := by rw [hc]; exact h1
      simp [hc, h1]
    · simp [hc]
theorem sumL_mono (R : Int → List (Nat × Int)) (ns : List Int) (i : Nat) : sumL R (ns.take i) ≤ sumL R ns := by
  unfold sumL
  conv => rhs; rw [← List.take_append_drop i ns, List.map_append, List.sum_append]
  exact Nat.le_add_right _ _
/-- All names together: what is gone and what is left are all. -/
theorem keeps_all {f : Nat → Int} {n : Nat} {b k : Int} {ns : List Int} (hr : Rise ns) (hm : ∀ i, i < n → keepR f n b (f i) ≠ [] → f i ∈ ns) (hf : ∀ i, f i < k) : cntP (goneP f b k) n + sumL (keepR f n b) ns = n := by
  rw [sumL_cnt f n b ns (hr.imp (fun h e => by omega))]
  have h1 : cntP (goneP f b k) n = cntP (fun i => !kp b (i : Int)) n := cntP_congr fun i _ => by
    unfold goneP; simp [hf i]
  have h2 : cntP (fun i => decide (f i ∈ ns) && kp b (i : Int)) n = cntP (fun i => kp b (i : Int)) n := cntP_congr fun i hi => by
    cases h : kp b (i : Int)
    · simp
    · have : f i ∈ ns := hm i hi (fun e => by
        have : (i, (i : Int)) ∈ keepR f n b (f i) := keepR_mem.2 ⟨i, hi, rfl, h, rfl⟩
        rw [e] at this; cases this)
      simp [this]
  rw [h1, h2, ← cntP_add (r := fun _ => true), cntP_all (fun _ _ => rfl)]
  intro i _
  cases kp b (i : Int) <;> simp
end Go.Proofs.Ytkinbcmnfpkncaa
