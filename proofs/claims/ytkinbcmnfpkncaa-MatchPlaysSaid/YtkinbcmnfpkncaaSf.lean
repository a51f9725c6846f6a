/- match: lists and the reference's, side by side. -/
import Derived.Test.YtkinbcmnfpkncaaSe
import Derived.Test.YtkinbcmnfpkncaaRv
namespace Go.Proofs.Ytkinbcmnfpkncaa
open Go.RowKit Go.Maps Go.Shelf

/-- The tasks of a list, as the reference has them. -/
def ofL (L : List (Int × Int)) (c : Int) : List (Int × Int) := L.filter fun p => decide (p.1 = c)
theorem cntL_eq (L : List (Int × Int)) (c : Int) : cntL L c = (ofL L c).length := rfl
/-- Both hold the same. -/
structure Same (t : MT Int) (most : Int) (L : List (Int × Int)) : Prop where
  ms : t.most = most
  row : ∀ c, I64 c → (t.row c).map (·.2) = (ofL L c).map (·.2)
  rng : ∀ p ∈ L, I64 p.1
theorem Same.len {t : MT Int} {most : Int} {L : List (Int × Int)} (h : Same t most L) {c : Int} (hc : I64 c) : (t.row c).length = cntL L c := by
  have := congrArg List.length (h.row c hc)
  rwa [List.length_map, List.length_map] at this
theorem Same.hd {t : MT Int} {most : Int} {L : List (Int × Int)} (h : Same t most L) {c : Int} (hc : I64 c) : hd_I (t.row c) = hdL L c := by
  have h1 := h.row c hc
  unfold hdL
  rw [← List.head?_filter]
  unfold ofL at h1
  cases ha : t.row c with
  | nil =>
    rw [ha] at h1
    have : (L.filter fun p => decide (p.1 = c)) = [] := List.map_eq_nil_iff.1 h1.symm
    rw [this]; rfl
  | cons a r =>
    rw [ha] at h1
    cases hb : L.filter fun p => decide (p.1 = c) with
    | nil => rw [hb] at h1; cases h1
    | cons b s =>
      rw [hb] at h1
      simp only [List.map_cons, List.cons.injEq] at h1
      show #[Value.int .i64 a.2, .bool true] = #[Value.int .i64 b.2, .bool true]
      rw [h1.1]
theorem Same.names {t : MT Int} {most : Int} {L : List (Int × Int)} (h : Same t most L) {ns : List Int} (hn : NamesOf t ns) : nmL L L.length = ns := by
  refine rise_ext (nmL_rise L L.length) hn.1 (fun c => ?_)
  rw [nmL_mem L L.length (Nat.le_refl _) c, List.take_length, hn.2.1 c]
  constructor
  · rintro ⟨p, hp, rfl⟩
    refine ⟨h.rng p hp, fun e => ?_⟩
    have h1 := h.row _ (h.rng p hp)
    rw [e] at h1
    have h2 : ofL L p.1 = [] := List.map_eq_nil_iff.1 h1.symm
    have h3 : p ∈ ofL L p.1 := List.mem_filter.2 ⟨hp, by simp⟩
    rw [h2] at h3; cases h3
  · rintro ⟨hc, hr⟩
    have h1 := h.row c hc
    cases hb : ofL L c with
    | nil => rw [hb] at h1; exact absurd (List.map_eq_nil_iff.1 h1) hr
    | cons b s =>
      have : b ∈ ofL L c := by rw [hb]; simp
      obtain ⟨h2, h3⟩ := List.mem_filter.1 this
      exact ⟨b, h2, by simpa using h3⟩
theorem ofL_map (L : List (Int × Int)) (c : Int) : ((ofL L c).map (·.2)).map (fun y => (c, y)) = ofL L c := by
  rw [List.map_map]
  have : ∀ p ∈ ofL L c, ((fun y => (c, y)) ∘ fun p : Int × Int => p.2) p = p := fun p hp => by
    have := (List.mem_filter.1 hp).2
    simp at this
    exact Prod.ext this.symm rfl
  rw [List.map_congr_left this, List.map_id']
theorem Same.all {t : MT Int} {most : Int} {L : List (Int × Int)} (h : Same t most L) {ns : List Int} (hn : NamesOf t ns) : allM t ns = allL L (nmL L L.length) := by
  rw [h.names hn]
  unfold allM allL
  have : ∀ c ∈ ns, ((t.row c).map fun p => (c, p.2)) = L.filter fun p => decide (p.1 = c) := fun c hc => by
    have h1 := congrArg (List.map fun y => (c, y)) (h.row c ((hn.2.1 c).1 hc).1)
    rw [ofL_map, List.map_map] at h1
    exact h1
  clear h hn
  induction ns with
  | nil => rfl
  | cons c r ih => rw [List.flatMap_cons, List.flatMap_cons, this c (by simp), ih (fun c hc => this c (by simp [hc]))]
theorem ofL_app (L : List (Int × Int)) (c x c' : Int) : ofL (L ++ [(c, x)]) c' = ofL L c' ++ if c = c' then [(c, x)] else [] := by
  unfold ofL
  rw [List.filter_append]
  congr 1
  by_cases e : c = c' <;> simp [e]
theorem Same.push {t : MT Int} {most : Int} {L : List (Int × Int)} (h : Same t most L) {c : Int} (hc : I64 c) (x : Int) : Same (t.push c x) most (L ++ [(c, x)]) where
  ms := h.ms
  row c' hc' := by
    show (setR t.row c (t.row c ++ [(t.pushed, x)]) c').map (·.2) = _
    rw [ofL_app]
    by_cases e : c' = c
    · subst e
      rw [setR_same, if_pos rfl, List.map_append, List.map_append, h.row c' hc']
      rfl
    · rw [setR_ne _ _ e, if_neg (fun e' => e e'.symm), List.append_nil, h.row c' hc']
  rng p hp := by
    rcases List.mem_append.1 hp with hp | hp
    · exact h.rng p hp
    · simp at hp; subst hp; exact hc
theorem ofL_pop (L : List (Int × Int)) (c c' : Int) : ofL (popL L c) c' = if c' = c then (ofL L c').tail else ofL L c' := by
  unfold ofL popL
  induction L with
  | nil => split <;> rfl
  | cons p L ih =>
    by_cases hp : p.1 = c
    · rw [List.eraseP_cons_of_pos (by simp [hp])]
      by_cases e : c' = c
      · subst e; rw [if_pos rfl, List.filter_cons_of_pos (by simp [hp])]; rfl
      · rw [if_neg e, List.filter_cons_of_neg (by simp; rw [hp]; exact fun h => e h.symm)]
    · rw [List.eraseP_cons_of_neg (by simp [hp])]
      by_cases e : c' = c
      · subst e
        rw [if_pos rfl] at ih ⊢
        rw [List.filter_cons_of_neg (by simp [hp]), List.filter_cons_of_neg (by simp [hp]), ih]
      · rw [if_neg e] at ih ⊢
        by_cases h2 : p.1 = c'
        · rw [List.filter_cons_of_pos (by simp [h2]), List.filter_cons_of_pos (by simp [h2]), ih]
        · rw [List.filter_cons_of_neg (by simp [h2]), List.filter_cons_of_neg (by simp [h2]), ih]
theorem Same.pop {t : MT Int} {most : Int} {L : List (Int × Int)} (h : Same t most L) (c : Int) : Same (t.pop c) most (popL L c) where
  ms := h.ms
  row c' hc' := by
    show (setR t.row c (t.row c).tail c').map (·.2) = _
    rw [ofL_pop]
    by_cases e : c' = c
    · subst e; rw [setR_same, if_pos rfl, List.map_tail, List.map_tail, h.row c' hc']
    · rw [setR_ne _ _ e, if_neg e, h.row c' hc']
  rng p hp := h.rng p (List.mem_of_mem_eraseP hp)
theorem ofL_keep (L : List (Int × Int)) (c b rest c' : Int) : ofL (L.filter (keepQ c b rest)) c' = if c' = c then (ofL L c').filter (fun p => decide (p.2.tmod b = rest)) else ofL L c' := by
  unfold ofL
  rw [List.filter_filter]
  by_cases e : c' = c
  · subst e
    rw [if_pos rfl, List.filter_filter]
    refine List.filter_congr fun p _ => ?_
    unfold keepQ
    by_cases h1 : p.1 = c' <;> simp [h1]
  · rw [if_neg e]
    refine List.filter_congr fun p _ => ?_
    unfold keepQ
    by_cases h1 : p.1 = c' <;> simp [h1, e]
theorem Same.keep {t : MT Int} {most : Int} {L : List (Int × Int)} (h : Same t most L) (c b rest : Int) : Same (t.drop c ((t.row c).filter fun x => decide (x.2.tmod b = rest))) most (L.filter (keepQ c b rest)) where
  ms := h.ms
  row c' hc' := by
    show (setR t.row c ((t.row c).filter fun x => decide (x.2.tmod b = rest)) c').map (·.2) = _
    rw [ofL_keep]
    by_cases e : c' = c
    · subst e
      rw [setR_same, if_pos rfl]
      have h1 := congrArg (List.filter fun y => decide (y.tmod b = rest)) (h.row c' hc')
      rw [List.filter_map, List.filter_map] at h1
      exact h1
    · rw [setR_ne _ _ e, if_neg e, h.row c' hc']
  rng p hp := h.rng p (List.mem_filter.1 hp).1
theorem filt_split (f : Int × Int → Bool) (L : List (Int × Int)) : (L.filter fun p => !f p).length + (L.filter f).length = L.length := by
  induction L with
  | nil => rfl
  | cons a r ih => cases h : f a <;> simp [h] <;> omega
/-- As many leave it. -/
theorem Same.keep_cnt {t : MT Int} {most : Int} {L : List (Int × Int)} (h : Same t most L) {c : Int} (hc : I64 c) (b rest : Int) : (t.row c).length - ((t.row c).filter fun x => decide (x.2.tmod b = rest)).length = L.length - (L.filter (keepQ c b rest)).length := by
  have h1 := (h.keep c b rest).len hc
  have h0 := h.len hc
  have e1 : (t.drop c ((t.row c).filter fun x => decide (x.2.tmod b = rest))).row c = (t.row c).filter fun x => decide (x.2.tmod b = rest) := setR_same _ _ _
  rw [e1] at h1
  rw [h1, h0]
  have h2 := filt_split (fun p => decide (p.1 = c)) L
  have h3 := filt_split (fun p => decide (p.1 = c)) (L.filter (keepQ c b rest))
  have h4 : (L.filter (keepQ c b rest)).filter (fun p => !decide (p.1 = c)) = L.filter fun p => !decide (p.1 = c) := by
    rw [List.filter_filter]
    refine List.filter_congr fun p _ => ?_
    unfold keepQ
    by_cases e : p.1 = c <;> simp [e]
  rw [h4] at h3
  have h5 : (L.filter fun p => decide (p.1 = c)).length = cntL L c := rfl
  have h6 : ((L.filter (keepQ c b rest)).filter fun p => decide (p.1 = c)).length = cntL (L.filter (keepQ c b rest)) c := rfl
  omega
/-- All of a list gone, one by one. -/
theorem Same.clear {t : MT Int} {most : Int} {L L' : List (Int × Int)} (h : Same t most L) {c : Int} (h0 : cntL L' c = 0) (hrest : ∀ c', c' ≠ c → ofL L' c' = ofL L c') (hsub : ∀ p ∈ L', p ∈ L) : Same (t.drop c []) most L' where
  ms := h.ms
  row c' hc' := by
    show (setR t.row c [] c').map (·.2) = _
    by_cases e : c' = c
    · subst e
      rw [setR_same, List.eq_nil_of_length_eq_zero (l := ofL L' c') h0]
      rfl
    · rw [setR_ne _ _ e, hrest c' e, h.row c' hc']
  rng p hp := h.rng p (hsub p hp)

/-- Both in memory, apart from each other, since w0. -/
def PB (w0 w : World) (gm gr : Nat) (t : MT Int) (most : Int) (L : List (Int × Int)) : Prop :=
  ∃ F1 F2, Mt 55 tP IV w gm F1 t ∧ Rf w gr F2 most L ∧ (∀ k, F1 k → ¬ F2 k) ∧ (∀ k, F1 k → w0.heap.size ≤ k) ∧ (∀ k, F2 k → w0.heap.size ≤ k) ∧ Fr (fun _ => False) w0 w
theorem PB.old {w0 w : World} {gm gr : Nat} {t : MT Int} {most : Int} {L : List (Int × Int)} (h : PB w0 w gm gr t most L) : Fr (fun _ => False) w0 w := h.choose_spec.choose_spec.2.2.2.2.2
theorem PB.fr {w0 w w' : World} {gm gr : Nat} {t : MT Int} {most : Int} {L : List (Int × Int)} (h : PB w0 w gm gr t most L) (hf : Fr (fun _ => False) w w') : PB w0 w' gm gr t most L := by
  obtain ⟨F1, F2, h1, ⟨v, h2⟩, h3, h4, h5, h6⟩ := h
  exact ⟨F1, F2, h1.fr0 hf, ⟨v, h2.fr0 hf⟩, h3, h4, h5, h6.trans hf (fun _ _ h => h)⟩
theorem PB.m {w0 w w' : World} {gm gr : Nat} {t t' : MT Int} {most : Int} {L : List (Int × Int)} (h : PB w0 w gm gr t most L) (hto : ∀ F, Mt 55 tP IV w gm F t → MtTo 55 tP IV w gm F w' t') : PB w0 w' gm gr t' most L := by
  obtain ⟨F1, F2, h1, ⟨v, h2⟩, h3, h4, h5, h6⟩ := h
  obtain ⟨F', k1, k2, k3⟩ := hto F1 h1
  refine ⟨F', F2, k1, ⟨v, h2.fr k2 (fun k hk hk1 => h3 k hk1 hk)⟩, fun k hk hk2 => ?_, fun k hk => ?_, h5, h6.trans k2 (fun y hy e => by have := h4 y e; omega)⟩
  · rcases k3 k hk with e | e
    · exact h3 k e hk2
    · have := h2.flt k hk2; omega
  · rcases k3 k hk with e | e
    · exact h4 k e
    · have := h6.size; omega
theorem PB.r {w0 w w' : World} {gm gr : Nat} {t : MT Int} {most : Int} {L L' : List (Int × Int)} (h : PB w0 w gm gr t most L) (hto : ∀ F v, RfM w gr F most L v → RfTo w gr F w' most L') : PB w0 w' gm gr t most L' := by
  obtain ⟨F1, F2, h1, ⟨v, h2⟩, h3, h4, h5, h6⟩ := h
  obtain ⟨F', k1, k2, k3⟩ := hto F2 v h2
  have hl : ∀ k, F1 k → k < w.heap.size := fun k hk => h1.lt hk
  obtain ⟨br, D, h1⟩ := h1
  refine ⟨F1, F', ⟨br, D, h1.fr k2 (fun k hk hk2 => h3 k hk hk2)⟩, k1, fun k hk hk2 => ?_, h4, fun k hk => ?_, h6.trans k2 (fun y hy e => by have := h5 y e; omega)⟩
  · rcases k3 k hk2 with e | e
    · exact h3 k hk e
    · have := hl k hk; omega
  · rcases k3 k hk with e | e
    · exact h5 k e
    · have := h6.size; omega
end Go.Proofs.Ytkinbcmnfpkncaa
