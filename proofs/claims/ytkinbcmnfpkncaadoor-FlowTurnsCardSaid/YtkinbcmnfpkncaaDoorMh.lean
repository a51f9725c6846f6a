/- event: add. -/
import Derived.Test.YtkinbcmnfpkncaaDoorMg
namespace Go.Proofs.YtkinbcmnfpkncaaDoor
open Go.RowKit Go.Maps

def OpnR (f : Int → Sta) (D : DV) : Prop := ∀ p, I64 p → (has D (.int .i64 p) = false ∧ f p = Sta.none) ∨ At D (.int .i64 p) (stV (f p))
theorem lit_ne {p q : Int} (h : p ≠ q) : (Lit.int .i64 p) ≠ .int .i64 q := fun e => h (by injection e)
theorem OpnR.del {f : Int → Sta} {D : DV} (h : OpnR f D) (r : Int) : OpnR (fun p => if p = r then Sta.none else f p) (D.del (.int .i64 r)) := fun p hp => by
  by_cases e : p = r
  · subst e; exact .inl ⟨has_del_same, by simp⟩
  · simp only [if_neg e]
    rcases h p hp with ⟨h1, h2⟩ | h1
    · exact .inl ⟨(has_del_other (lit_ne e)).trans h1, h2⟩
    · exact .inr (h1.del_ne (lit_ne e))
theorem OpnR.put {w : World} {b : Nat} {f : Int → Sta} {D : DV} (h : OpnR f D) (hm : MV w 3 b D) (c : Int) (s : Sta) : OpnR (fun p => if p = c then s else f p) (D.put (.int .i64 c) (.held (stV s))) := fun p hp => by
  by_cases e : p = c
  · subst e; simp only [if_true]; exact .inr (At.put hm (i_key _) _)
  · simp only [if_neg e]
    rcases h p hp with ⟨h1, h2⟩ | h1
    · exact .inl ⟨(has_put_other (lit_ne e) _).trans h1, h2⟩
    · exact .inr (h1.put_ne (lit_ne e))
def UseR (u : List (Int × Int)) (D : DV) : Prop := ∀ t i, I64 t → I64 i → ((t, i) ∈ u → At D (th t i) (.agg #[])) ∧ ((t, i) ∉ u → has D (th t i) = false)
theorem th_ne {t i t' i' : Int} (ht : I64 t) (hi : I64 i) (ht' : I64 t') (hi' : I64 i') (h : (t, i) ≠ (t', i')) : th t i ≠ th t' i' := fun e => h (by
  obtain ⟨e1, e2⟩ := th_inj ht hi ht' hi' e
  rw [e1, e2])
theorem UseR.put {w : World} {b : Nat} {u : List (Int × Int)} {D : DV} (h : UseR u D) (hm : MV w 145 b D) {t i : Int} (ht : I64 t) (hi : I64 i) : UseR (if (t, i) ∈ u then u else (t, i) :: u) (D.put (th t i) (.held (.agg #[]))) := fun t' i' ht' hi' => by
  have hmem : (t', i') ∈ (if (t, i) ∈ u then u else (t, i) :: u) ↔ ((t', i') = (t, i) ∨ (t', i') ∈ u) := by
    by_cases hu : (t, i) ∈ u
    · rw [if_pos hu]
      constructor
      · exact .inr
      · rintro (e | h)
        · rw [e]; exact hu
        · exact h
    · rw [if_neg hu, List.mem_cons]
  by_cases e : (t', i') = (t, i)
  · injection e with e1 e2
    subst e1 e2
    exact ⟨fun _ => At.put hm (th_key ht hi) _, fun hn => absurd (hmem.2 (.inl rfl)) hn⟩
  · obtain ⟨h1, h2⟩ := h t' i' ht' hi'
    have hne := th_ne ht' hi' ht hi e
    refine ⟨fun hi => (h1 ((hmem.1 hi).resolve_left e)).put_ne hne, fun hn => ?_⟩
    exact (has_put_other hne _).trans (h2 (fun hx => hn (hmem.2 (.inr hx))))
theorem UseR.del {u : List (Int × Int)} {D : DV} (h : UseR u D) (hnd : u.Nodup) {t i : Int} (ht : I64 t) (hi : I64 i) : UseR (u.erase (t, i)) (D.del (th t i)) := fun t' i' ht' hi' => by
  obtain ⟨h1, h2⟩ := h t' i' ht' hi'
  by_cases e : (t', i') = (t, i)
  · injection e with e1 e2
    subst e1 e2
    exact ⟨fun hm => absurd rfl (hnd.mem_erase_iff.1 hm).1, fun _ => has_del_same⟩
  · have hne := th_ne ht' hi' ht hi e
    exact ⟨fun hm => (h1 (hnd.mem_erase_iff.1 hm).2).del_ne hne, fun hn => (has_del_other hne).trans (h2 (fun hm => hn (hnd.mem_erase_iff.2 ⟨e, hm⟩)))⟩

/-- What add makes of a book, step by step. -/
theorem BoM.added {w w' : World} {g bo bu : Nat} {b : Bo} {Do Du : DV} (h : BoM w g bo bu b Do Du) (e : Ev) (hk : I64 e.k) (hi : I64 e.i)
    {D1 D2 : DV} (hb : Bk w' g 117 #[.int .i64 ((b.count : Int) + 1), .int .i64 e.a, .bool (closesK e.k), .map (some bo), .map (some bu)])
    (hmo : MV w' 3 bo D1) (hmu : MV w' 145 bu D2)
    (ho : D1 = if opensK e.k = true then (Do.del (.int .i64 e.r)).put (.int .i64 ((b.count : Int) + 1)) (.held (stV ⟨(thingOf e).1, (thingOf e).2, e.k⟩))
      else if e.k = 3 ∨ e.k = 8 then (Do.del (.int .i64 e.r)).put (.int .i64 ((b.count : Int) + 1)) (.held (stV ⟨(b.opn e.r).tk, (b.opn e.r).ti, e.k⟩)) else Do.del (.int .i64 e.r))
    (hu : D2 = if opensK e.k = true then Du.put (th (thingOf e).1 (thingOf e).2) (.held (.agg #[])) else if e.k = 3 ∨ e.k = 8 then Du else Du.del (th (b.opn e.r).tk (b.opn e.r).ti)) :
    BoM w' g bo bu (b.add e) D1 D2 := by
  have hth : I64 (thingOf e).1 ∧ I64 (thingOf e).2 := by
    unfold thingOf; split
    · exact ⟨⟨by decide, by decide⟩, ⟨by decide, by decide⟩⟩
    · exact ⟨hk, hi⟩
  have hop := h.op e.r
  have hO : OpnR b.opn Do := h.opn
  have hU : UseR b.used Du := h.used
  have hO1 : OpnR (fun p => if p = e.r then Sta.none else b.opn p) (Do.del (.int .i64 e.r)) := hO.del e.r
  -- the first map's world
  have hz : ∀ s : Sta, IsMap (Do.del (.int .i64 e.r)) → OpnR (fun p => if p = (b.count : Int) + 1 then s else if p = e.r then Sta.none else b.opn p) ((Do.del (.int .i64 e.r)).put (.int .i64 ((b.count : Int) + 1)) (.held (stV s))) := fun s hm p hp => by
    by_cases e1 : p = (b.count : Int) + 1
    · subst e1; simp only [if_true]
      exact .inr ⟨has_put_same hm (i_key _) _, fun z => atKey_put_same hm (i_key _) _ z⟩
    · simp only [if_neg e1]
      rcases hO1 p hp with ⟨h1, h2⟩ | h1
      · exact .inl ⟨(has_put_other (lit_ne e1) _).trans h1, h2⟩
      · exact .inr (h1.put_ne (lit_ne e1))
  have hdm : IsMap (Do.del (.int .i64 e.r)) := IsMap.del h.mo.isMap _
  have htd : Tidy Do := h.mo.tidy kInt
  have htu : Tidy Du := h.mu.tidy kThg
  have hsd : Maps.size (Do.del (.int .i64 e.r)) ≤ Maps.size Do := by have := size_del (k := .int .i64 e.r) htd; omega
  have htdd : Tidy (Do.del (.int .i64 e.r)) := Tidy.del htd _
  have hso := h.so
  have hsu := h.su
  have hsp : ∀ s : Sta, Maps.size ((Do.del (.int .i64 e.r)).put (.int .i64 ((b.count : Int) + 1)) (.held (stV s))) ≤ b.count + 1 := fun s => by
    have := size_put (k := .int .i64 ((b.count : Int) + 1)) htdd (.held (stV s)); split at this <;> omega
  constructor
  case blk => simpa [Bo.add] using hb
  case mo => exact hmo
  case mu => exact hmu
  case ne => exact h.ne
  case opn =>
    show OpnR (b.add e).opn D1
    subst ho
    unfold Bo.add
    by_cases c1 : opensK e.k = true
    · simp only [c1, and_true, if_true]
      intro p hp
      have := hz ⟨(thingOf e).1, (thingOf e).2, e.k⟩ hdm p hp
      by_cases e1 : p = (b.count : Int) + 1
      · simpa [e1] using this
      · have c2 : ¬ (e.k = 3 ∨ e.k = 8) := by have := (opens_of _).1 c1; omega
        simpa [e1, c2] using this
    · have c1' : opensK e.k = false := by simpa using c1
      simp only [c1', Bool.false_eq_true, and_false, if_false]
      by_cases c2 : e.k = 3 ∨ e.k = 8
      · simp only [c2, and_true, if_true]
        exact hz ⟨(b.opn e.r).tk, (b.opn e.r).ti, e.k⟩ hdm
      · simp only [c2, and_false, if_false]
        exact hO1
  case used =>
    show UseR (b.add e).used D2
    subst hu
    unfold Bo.add
    by_cases c1 : opensK e.k = true
    · simp only [c1, if_true]
      intro t i ht hi2
      exact hU.put h.mu hth.1 hth.2 t i ht hi2
    · simp only [c1, if_false]
      by_cases c2 : e.k = 3 ∨ e.k = 8
      · simp only [c2, if_true]; exact hU
      · simp only [c2, if_false]; exact hU.del h.nd hop.1 hop.2
  case us =>
    intro x hx
    simp only [Bo.add] at hx
    split at hx
    · split at hx
      · exact h.us x hx
      · rcases List.mem_cons.1 hx with rfl | hx
        · exact hth
        · exact h.us x hx
    · split at hx
      · exact h.us x hx
      · exact h.us x (List.mem_of_mem_erase hx)
  case op =>
    intro p
    simp only [Bo.add]
    split
    · exact hth
    · split
      · exact hop
      · split
        · exact ⟨⟨by decide, by decide⟩, ⟨by decide, by decide⟩⟩
        · exact h.op p
  case nd =>
    have := h.nd
    simp only [Bo.add]
    split
    · split
      · exact this
      · exact List.nodup_cons.2 ⟨by assumption, this⟩
    · split
      · exact this
      · exact this.erase _
  case so =>
    show _ ≤ b.count + 1
    subst ho
    split
    · exact hsp _
    · split
      · exact hsp _
      · omega
  case su =>
    show _ ≤ b.count + 1
    subst hu
    split
    · have := size_put (k := th (thingOf e).1 (thingOf e).2) htu (.held (.agg #[])); split at this <;> omega
    · split
      · omega
      · have := size_del (k := th (b.opn e.r).tk (b.opn e.r).ti) htu; omega
end Go.Proofs.YtkinbcmnfpkncaaDoor
