/- A clock's alarms and the reference's list: what each call makes of both. -/
import Derived.Test.YtholaofgdahcbaaWt
import Derived.Test.YtholaofgdahcbaaWu
namespace Go.Proofs.Ytholaofgdahcbaa
open Go.RowKit Go.Maps

theorem key_i (x : Int) : WideAt.IsKeyLit (.int .i64 x) := trivial
theorem dels_at (D : DataW Unit) (ys : List Int) (x : Int) (z : DataW Unit) : (dels D ys).atKey (.int .i64 x) z = if x ∈ ys then z else D.atKey (.int .i64 x) z := by
  induction ys generalizing D with
  | nil => simp [dels]
  | cons y r ih =>
    show (dels (D.del (.int .i64 y)) r).atKey (.int .i64 x) z = _
    rw [ih]
    by_cases h : x = y
    · subst h; simp [atKey_del_same]
    · rw [atKey_del_other (by simpa using h)]; simp [h]
theorem dels_has (D : DataW Unit) (ys : List Int) (x : Int) : has (dels D ys) (.int .i64 x) = (has D (.int .i64 x) && !decide (x ∈ ys)) := by
  induction ys generalizing D with
  | nil => simp [dels]
  | cons y r ih =>
    show has (dels (D.del (.int .i64 y)) r) (.int .i64 x) = _
    rw [ih]
    by_cases h : x = y
    · subst h; simp [has_del_same]
    · rw [has_del_other (by simpa using h)]; simp [h]
theorem dels_map {D : DataW Unit} (h : IsMap D) (ys : List Int) : IsMap (dels D ys) := by
  induction ys generalizing D with
  | nil => exact h
  | cons y r ih => exact ih (h.del _)
theorem dels_tick (D : DataW Unit) (ys : List Int) {x : Int} (h : x ∉ ys) : tickOf (dels D ys) x = tickOf D x := by unfold tickOf; rw [dels_at, if_neg h]
theorem put_tick {D : DataW Unit} (h : IsMap D) (x y v : Int) : tickOf (D.put (.int .i64 y) (.lit (.int .i64 v))) x = if x = y then v else tickOf D x := by
  unfold tickOf
  by_cases e : x = y
  · subst e; rw [atKey_put_same h (key_i x)]; simp
  · rw [atKey_put_other (by simpa using e)]; simp [e]
theorem put_has {D : DataW Unit} (h : IsMap D) (x y v : Int) : has (D.put (.int .i64 y) (.lit (.int .i64 v))) (.int .i64 x) = (decide (x = y) || has D (.int .i64 x)) := by
  by_cases e : x = y
  · subst e; rw [has_put_same h (key_i x)]; simp
  · rw [has_put_other (by simpa using e)]; simp [e]
theorem del_has (D : DataW Unit) (x y : Int) : has (D.del (.int .i64 y)) (.int .i64 x) = (!decide (x = y) && has D (.int .i64 x)) := by
  by_cases e : x = y
  · subst e; rw [has_del_same]; simp
  · rw [has_del_other (by simpa using e)]; simp [e]
theorem del_tick (D : DataW Unit) {x y : Int} (e : x ≠ y) : tickOf (D.del (.int .i64 y)) x = tickOf D x := by unfold tickOf; rw [atKey_del_other (by simpa using e)]

theorem bef_iff (x c : Int × Int) : befB x c = true ↔ (c.2 < x.2 ∨ c.2 = x.2 ∧ c.1 < x.1) := by unfold befB; simp
/-- The reference's list is the clock's alarms, by tick, then id. -/
structure CL (D : DataW Unit) (l : List (Int × Int)) : Prop where
  ord : l.Pairwise (fun a b => befB b a = true)
  mem : ∀ c : Int × Int, c ∈ l ↔ has D (.int .i64 c.1) = true ∧ tickOf D c.1 = c.2
  map : IsMap D
section
variable {D : DataW Unit} {l : List (Int × Int)}
theorem CL.nil : CL (.map []) [] := ⟨List.Pairwise.nil, fun c => by simp [has], ⟨_, rfl⟩⟩
theorem CL.uniq (h : CL D l) {a b : Int × Int} (ha : a ∈ l) (hb : b ∈ l) (e : a.1 = b.1) : a = b := by
  have h1 := ((h.mem a).1 ha).2
  have h2 := ((h.mem b).1 hb).2
  exact Prod.ext e (by rw [← h1, ← h2, e])
theorem CL.nd (h : CL D l) : (l.map Prod.fst).Nodup := by
  unfold List.Nodup
  rw [List.pairwise_map]
  refine List.Pairwise.imp_of_mem (fun {a b} ha hb hab e => ?_) h.ord
  have := h.uniq ha hb e
  subst this
  rw [bef_iff] at hab
  omega
theorem CL.any (h : CL D l) (id : Int) : l.any (fun c => c.1 == id) = has D (.int .i64 id) := by
  rw [Bool.eq_iff_iff, List.any_eq_true]
  constructor
  · rintro ⟨c, hc, e⟩
    have : c.1 = id := by simpa using e
    rw [← this]; exact ((h.mem c).1 hc).1
  · intro hh
    exact ⟨(id, tickOf D id), (h.mem _).2 ⟨hh, rfl⟩, by simp⟩
theorem CL.drop (h : CL D l) (id : Int) : CL (D.del (.int .i64 id)) (l.filter (fun c => c.1 != id)) := by
  refine ⟨h.ord.sublist List.filter_sublist, fun c => ?_, h.map.del _⟩
  rw [List.mem_filter, h.mem, del_has]
  by_cases e : c.1 = id
  · simp [e]
  · rw [del_tick _ e]; simp [e]
theorem mem_ins {l : List (Int × Int)} {x c : Int × Int} : c ∈ insL l x ↔ c = x ∨ c ∈ l := by
  unfold insL
  have : c ∈ l ↔ c ∈ l.takeWhile (befB x) ∨ c ∈ l.dropWhile (befB x) := by
    conv => lhs; rw [← List.takeWhile_append_dropWhile (p := befB x) (l := l)]
    rw [List.mem_append]
  rw [List.mem_append, List.mem_cons, this]
  constructor
  · rintro (h | h | h)
    · exact .inr (.inl h)
    · exact .inl h
    · exact .inr (.inr h)
  · rintro (h | h | h)
    · exact .inr (.inl h)
    · exact .inl h
    · exact .inr (.inr h)
theorem ins_ord {l : List (Int × Int)} {x : Int × Int} (h : l.Pairwise (fun a b => befB b a = true)) (hx : ∀ c ∈ l, c.1 ≠ x.1) : (insL l x).Pairwise (fun a b => befB b a = true) := by
  induction l with
  | nil => exact List.pairwise_singleton ..
  | cons c r ih =>
    rw [List.pairwise_cons] at h
    have hr := ih h.2 (fun d hd => hx d (List.mem_cons_of_mem _ hd))
    by_cases hc : befB x c = true
    · have e : insL (c :: r) x = c :: insL r x := by unfold insL; simp [List.takeWhile_cons, List.dropWhile_cons, hc]
      rw [e, List.pairwise_cons]
      refine ⟨fun d hd => ?_, hr⟩
      rcases mem_ins.1 hd with rfl | hd
      · exact hc
      · exact h.1 d hd
    · have hc' : befB x c = false := by simpa using hc
      have e : insL (c :: r) x = x :: c :: r := by unfold insL; simp [List.takeWhile_cons, List.dropWhile_cons, hc']
      have hcx : befB c x = true := by
        have h1 : ¬ (c.2 < x.2 ∨ c.2 = x.2 ∧ c.1 < x.1) := fun h => hc ((bef_iff x c).2 h)
        have h2 := hx c (List.mem_cons_self ..)
        rw [bef_iff]; omega
      rw [e, List.pairwise_cons, List.pairwise_cons]
      refine ⟨fun d hd => ?_, h⟩
      rcases List.mem_cons.1 hd with rfl | hd
      · exact hcx
      · have h3 := h.1 d hd
        rw [bef_iff] at *
        omega
theorem CL.set (h : CL D l) (now id at_ : Int) : CL (setD now D id at_) (setL now l (id, at_)) := by
  have hd := h.drop id
  unfold setD setL
  by_cases hs : setB now at_ = true
  · rw [if_pos hs, if_pos hs]
    refine ⟨ins_ord hd.ord (fun c hc => ?_), fun c => ?_, h.map.put _ _⟩
    · have := (List.mem_filter.1 hc).2; simpa using this
    · rw [mem_ins, hd.mem, put_has h.map, put_tick h.map, del_has]
      by_cases e : c.1 = id
      · have : c = (id, at_) ↔ at_ = c.2 := ⟨fun h => by rw [h], fun h => Prod.ext e h.symm⟩
        simp [e, this]
      · have : c ≠ (id, at_) := fun h => e (by rw [h])
        rw [del_tick _ e]
        simp [e, this]
  · rw [if_neg hs, if_neg hs]
    exact hd
theorem CL.next (h : CL D l) {t : Int} {is : Bool} (hn : NextOf D t is) : t = nextL l ∧ is = !l.isEmpty := by
  rcases hn with ⟨rfl, rfl, h3⟩ | ⟨rfl, ⟨x, hx, hxt⟩, h3⟩
  · match l, h with
    | [], _ => exact ⟨rfl, rfl⟩
    | c :: r, h =>
      have := ((h.mem c).1 (List.mem_cons_self ..)).1
      rw [h3] at this; cases this
  · match l, h with
    | [], h =>
      have := (h.mem (x, t)).2 ⟨hx, hxt⟩
      cases this
    | c :: r, h =>
      refine ⟨?_, rfl⟩
      have h1 := (h.mem c).1 (List.mem_cons_self ..)
      have h2 := h3 c.1 h1.1
      rw [h1.2] at h2
      show t = c.2
      rcases List.mem_cons.1 ((h.mem (x, t)).2 ⟨hx, hxt⟩) with e | hm
      · rw [← e]
      · have h4 := (List.pairwise_cons.1 h.ord).1 _ hm
        rw [bef_iff] at h4
        simp only at h4
        omega
theorem sorted_ext {r : Int → Int → Prop} (hi : ∀ x, ¬ r x x) (ha : ∀ x y, r x y → r y x → False) : ∀ (a b : List Int), a.Pairwise r → b.Pairwise r → (∀ x, x ∈ a ↔ x ∈ b) → a = b
  | [], [], _, _, _ => rfl
  | [], y :: s, _, _, h => by have := (h y).2 (List.mem_cons_self ..); cases this
  | x :: q, [], _, _, h => by have := (h x).1 (List.mem_cons_self ..); cases this
  | x :: q, y :: s, h1, h2, h => by
    rw [List.pairwise_cons] at h1 h2
    have e : x = y := by
      rcases List.mem_cons.1 ((h x).1 (List.mem_cons_self ..)) with e | e
      · exact e
      · rcases List.mem_cons.1 ((h y).2 (List.mem_cons_self ..)) with e2 | e2
        · exact e2.symm
        · exact (ha _ _ (h1.1 y e2) (h2.1 x e)).elim
    subst e
    rw [sorted_ext hi ha q s h1.2 h2.2 (fun z => by
      constructor
      · intro hz
        rcases List.mem_cons.1 ((h z).1 (List.mem_cons_of_mem _ hz)) with e | e
        · subst e; exact (hi _ (h1.1 _ hz)).elim
        · exact e
      · intro hz
        rcases List.mem_cons.1 ((h z).2 (List.mem_cons_of_mem _ hz)) with e | e
        · subst e; exact (hi _ (h2.1 _ hz)).elim
        · exact e)]
theorem CL.due (h : CL D l) {now : Int} {ys : List Int} {i : Nat} (hd : DueOf D now ys) (hi : i ≤ l.length) (h1 : ∀ j, j < i → (l.getD j default).2 ≤ now) (h2 : i = l.length ∨ now < (l.getD i default).2) :
    ys = (l.take i).map Prod.fst ∧ CL (dels D ys) (l.drop i) := by
  have hta : ∀ c ∈ l.take i, c.2 ≤ now := fun c hc => by
    obtain ⟨j, hj, rfl⟩ := List.mem_iff_getElem.1 hc
    have hj2 : j < i ∧ j < l.length := by simp at hj; omega
    have := h1 j hj2.1
    rw [List.getElem_take]
    simpa [List.getD, hj2.2] using this
  have hdr : ∀ c ∈ l.drop i, now < c.2 := fun c hc => by
    obtain ⟨j, hj, rfl⟩ := List.mem_iff_getElem.1 hc
    have hil : i < l.length := by simp at hj; omega
    have h3 : now < l[i].2 := by
      rcases h2 with e | e
      · omega
      · simpa [List.getD, hil] using e
    rw [List.getElem_drop]
    rcases Nat.eq_zero_or_pos j with e | e
    · subst e; simpa using h3
    · have := List.pairwise_iff_getElem.1 h.ord i (i + j) hil (by simp at hj; omega) (by omega)
      rw [bef_iff] at this
      omega
  have hsplit : ∀ c, c ∈ l ↔ c ∈ l.take i ∨ c ∈ l.drop i := fun c => by
    conv => lhs; rw [← List.take_append_drop i l]
    rw [List.mem_append]
  have hys : ys = (l.take i).map Prod.fst := by
    refine sorted_ext (r := fun x y => ltC D x y = true) (fun x hx => by rw [(ltC_swo D).irrefl] at hx; cases hx) (fun x y a b => by
      have := (ltC_swo D).trans _ _ _ a b
      rw [(ltC_swo D).irrefl] at this; cases this) _ _ hd.1 ?_ (fun x => ?_)
    · rw [List.pairwise_map]
      refine List.Pairwise.imp_of_mem (fun {a b} ha hb hab => ?_) (h.ord.sublist (List.take_sublist ..))
      have ma := ((h.mem a).1 (List.mem_of_mem_take ha)).2
      have mb := ((h.mem b).1 (List.mem_of_mem_take hb)).2
      rw [ltC_iff, ma, mb]
      exact (bef_iff b a).1 hab
    · rw [hd.2.1, List.mem_map]
      constructor
      · rintro ⟨hx, ht⟩
        have := (h.mem (x, tickOf D x)).2 ⟨hx, rfl⟩
        rcases (hsplit _).1 this with hm | hm
        · exact ⟨_, hm, rfl⟩
        · have := hdr _ hm; simp only at this; omega
      · rintro ⟨c, hc, rfl⟩
        have := (h.mem c).1 (List.mem_of_mem_take hc)
        exact ⟨this.1, by rw [this.2]; exact hta c hc⟩
  refine ⟨hys, h.ord.sublist (List.drop_sublist ..), fun c => ?_, dels_map h.map _⟩
  rw [dels_has]
  constructor
  · intro hc
    have hm := (h.mem c).1 ((hsplit c).2 (.inr hc))
    have hno : c.1 ∉ ys := fun hy => by
      rw [hys, List.mem_map] at hy
      obtain ⟨c', hc', e⟩ := hy
      have := h.uniq (List.mem_of_mem_take hc') ((hsplit c).2 (.inr hc)) e
      subst this
      have a1 := hta _ hc'
      have a2 := hdr _ hc
      omega
    rw [dels_tick _ _ hno]
    exact ⟨by simp [hm.1, hno], hm.2⟩
  · rintro ⟨hx, ht⟩
    have hx' : has D (.int .i64 c.1) = true ∧ c.1 ∉ ys := by simpa using hx
    rw [dels_tick _ _ hx'.2] at ht
    rcases (hsplit c).1 ((h.mem c).2 ⟨hx'.1, ht⟩) with hm | hm
    · exact absurd (by rw [hys]; exact List.mem_map_of_mem hm) hx'.2
    · exact hm
end
theorem setL_len (now : Int) (l : List (Int × Int)) (x : Int × Int) : (setL now l x).length ≤ l.length + 1 := by
  unfold setL
  have h1 := List.length_filter_le (fun c => c.1 != x.1) l
  split
  · unfold insL
    have : (List.takeWhile (befB x) (l.filter (fun c => c.1 != x.1))).length + (List.dropWhile (befB x) (l.filter (fun c => c.1 != x.1))).length = (l.filter (fun c => c.1 != x.1)).length := by
      rw [← List.length_append, List.takeWhile_append_dropWhile]
    simp only [List.length_append, List.length_cons]
    omega
  · omega
end Go.Proofs.Ytholaofgdahcbaa
