import Derived.Test.YtieoeoonopcjbaaGreatDoorKs05
import Derived.Shelf.Strconv.Itoa0
import Derived.Shelf.Strconv.Itoa1
import Derived.Shelf.LaysM
import Derived.Shelf.Strconv.Itoa2
import Derived.Shelf.Strconv.Itoa3
import Derived.Test.YtieoeoonopcjbaaGreatDoorProg

/- event: add. -/
namespace Go.Proofs.YtieoeoonopcjbaaGreatDoor
open Go.RowKit Go.Maps

def OpnR (f : Int → Sta) (D : DV) : Prop := ∀ p, I64 p → (has D (.int .i64 p) = false ∧ f p = Sta.none) ∨ At D (.int .i64 p) (stV (f p))
theorem lit_ne {p q : Int} (h : p ≠ q) : (Lit.int .i64 p) ≠ .int .i64 q := fun e => h (by injection e)
theorem OpnR.del {f : Int → Sta} {D : DV} (h : OpnR f D) (r : Int) : OpnR (fun p => if p = r then Sta.none else f p) (D.del (.int .i64 r)) := fun p hp => by
  by_cases e : p = r
  · subst e; exact .inl ⟨has_del_same, by simp⟩
  · simp only [if_neg e]
    rcases h p hp with ⟨h1, h2⟩ | h1
    · exact .inl ⟨(has_del_other (lit_ne e)).trans h1, h2⟩
    · exact .inr (h1.del_ne (lit_ne e))
theorem OpnR.put {w : World} {b : Nat} {f : Int → Sta} {D : DV} (h : OpnR f D) (hm : MV w 3 b D) (c : Int) (s : Sta) : OpnR (fun p => if p = c then s else f p) (D.put (.int .i64 c) (.held (stV s))) := fun p hp => by
  by_cases e : p = c
  · subst e; simp only [if_true]; exact .inr (At.put hm (i_key _) _)
  · simp only [if_neg e]
    rcases h p hp with ⟨h1, h2⟩ | h1
    · exact .inl ⟨(has_put_other (lit_ne e) _).trans h1, h2⟩
    · exact .inr (h1.put_ne (lit_ne e))
def UseR (u : List (Int × Int)) (D : DV) : Prop := ∀ t i, I64 t → I64 i → ((t, i) ∈ u → At D (th t i) (.agg #[])) ∧ ((t, i) ∉ u → has D (th t i) = false)
theorem th_ne {t i t' i' : Int} (ht : I64 t) (hi : I64 i) (ht' : I64 t') (hi' : I64 i') (h : (t, i) ≠ (t', i')) : th t i ≠ th t' i' := fun e => h (by
  obtain ⟨e1, e2⟩ := th_inj ht hi ht' hi' e
  rw [e1, e2])
theorem UseR.put {w : World} {b : Nat} {u : List (Int × Int)} {D : DV} (h : UseR u D) (hm : MV w 211 b D) {t i : Int} (ht : I64 t) (hi : I64 i) : UseR (if (t, i) ∈ u then u else (t, i) :: u) (D.put (th t i) (.held (.agg #[]))) := fun t' i' ht' hi' => by
  have hmem : (t', i') ∈ (if (t, i) ∈ u then u else (t, i) :: u) ↔ ((t', i') = (t, i) ∨ (t', i') ∈ u) := by
    by_cases hu : (t, i) ∈ u
    · rw [if_pos hu]
      constructor
      · exact .inr
      · rintro (e | h)
        · rw [e]; exact hu
        · exact h
    · rw [if_neg hu, List.mem_cons]
  by_cases e : (t', i') = (t, i)
  · injection e with e1 e2
    subst e1 e2
    exact ⟨fun _ => At.put hm (th_key ht hi) _, fun hn => absurd (hmem.2 (.inl rfl)) hn⟩
  · obtain ⟨h1, h2⟩ := h t' i' ht' hi'
    have hne := th_ne ht' hi' ht hi e
    refine ⟨fun hi => (h1 ((hmem.1 hi).resolve_left e)).put_ne hne, fun hn => ?_⟩
    exact (has_put_other hne _).trans (h2 (fun hx => hn (hmem.2 (.inr hx))))
theorem UseR.del {u : List (Int × Int)} {D : DV} (h : UseR u D) (hnd : u.Nodup) {t i : Int} (ht : I64 t) (hi : I64 i) : UseR (u.erase (t, i)) (D.del (th t i)) := fun t' i' ht' hi' => by
  obtain ⟨h1, h2⟩ := h t' i' ht' hi'
  by_cases e : (t', i') = (t, i)
  · injection e with e1 e2
    subst e1 e2
    exact ⟨fun hm => absurd rfl (hnd.mem_erase_iff.1 hm).1, fun _ => has_del_same⟩
  · have hne := th_ne ht' hi' ht hi e
    exact ⟨fun hm => (h1 (hnd.mem_erase_iff.1 hm).2).del_ne hne, fun hn => (has_del_other hne).trans (h2 (fun hm => hn (hnd.mem_erase_iff.2 ⟨e, hm⟩)))⟩

/-- What add makes of a book, step by step. -/
theorem BoM.added {w w' : World} {g bo bu : Nat} {b : Bo} {Do Du : DV} (h : BoM w g bo bu b Do Du) (e : Ev) (hk : I64 e.k) (hi : I64 e.i)
    {D1 D2 : DV} (hb : Bk w' g 157 #[.int .i64 ((b.count : Int) + 1), .int .i64 e.a, .bool (closesK e.k), .map (some bo), .map (some bu)])
    (hmo : MV w' 3 bo D1) (hmu : MV w' 211 bu D2)
    (ho : D1 = if opensK e.k = true then (Do.del (.int .i64 e.r)).put (.int .i64 ((b.count : Int) + 1)) (.held (stV ⟨(thingOf e).1, (thingOf e).2, e.k⟩))
      else if e.k = 3 ∨ e.k = 8 then (Do.del (.int .i64 e.r)).put (.int .i64 ((b.count : Int) + 1)) (.held (stV ⟨(b.opn e.r).tk, (b.opn e.r).ti, e.k⟩)) else Do.del (.int .i64 e.r))
    (hu : D2 = if opensK e.k = true then Du.put (th (thingOf e).1 (thingOf e).2) (.held (.agg #[])) else if e.k = 3 ∨ e.k = 8 then Du else Du.del (th (b.opn e.r).tk (b.opn e.r).ti)) :
    BoM w' g bo bu (b.add e) D1 D2 := by
  have hth : I64 (thingOf e).1 ∧ I64 (thingOf e).2 := by
    unfold thingOf; split
    · exact ⟨⟨by decide, by decide⟩, ⟨by decide, by decide⟩⟩
    · exact ⟨hk, hi⟩
  have hop := h.op e.r
  have hO : OpnR b.opn Do := h.opn
  have hU : UseR b.used Du := h.used
  have hO1 : OpnR (fun p => if p = e.r then Sta.none else b.opn p) (Do.del (.int .i64 e.r)) := hO.del e.r
  -- the first map's world
  have hz : ∀ s : Sta, IsMap (Do.del (.int .i64 e.r)) → OpnR (fun p => if p = (b.count : Int) + 1 then s else if p = e.r then Sta.none else b.opn p) ((Do.del (.int .i64 e.r)).put (.int .i64 ((b.count : Int) + 1)) (.held (stV s))) := fun s hm p hp => by
    by_cases e1 : p = (b.count : Int) + 1
    · subst e1; simp only [if_true]
      exact .inr ⟨has_put_same hm (i_key _) _, fun z => atKey_put_same hm (i_key _) _ z⟩
    · simp only [if_neg e1]
      rcases hO1 p hp with ⟨h1, h2⟩ | h1
      · exact .inl ⟨(has_put_other (lit_ne e1) _).trans h1, h2⟩
      · exact .inr (h1.put_ne (lit_ne e1))
  have hdm : IsMap (Do.del (.int .i64 e.r)) := IsMap.del h.mo.isMap _
  have htd : Tidy Do := h.mo.tidy kInt
  have htu : Tidy Du := h.mu.tidy kThg
  have hsd : Maps.size (Do.del (.int .i64 e.r)) ≤ Maps.size Do := by have := size_del (k := .int .i64 e.r) htd; omega
  have htdd : Tidy (Do.del (.int .i64 e.r)) := Tidy.del htd _
  have hso := h.so
  have hsu := h.su
  have hsp : ∀ s : Sta, Maps.size ((Do.del (.int .i64 e.r)).put (.int .i64 ((b.count : Int) + 1)) (.held (stV s))) ≤ b.count + 1 := fun s => by
    have := size_put (k := .int .i64 ((b.count : Int) + 1)) htdd (.held (stV s)); split at this <;> omega
  constructor
  case blk => simpa [Bo.add] using hb
  case mo => exact hmo
  case mu => exact hmu
  case ne => exact h.ne
  case opn =>
    show OpnR (b.add e).opn D1
    subst ho
    unfold Bo.add
    by_cases c1 : opensK e.k = true
    · simp only [c1, and_true, if_true]
      intro p hp
      have := hz ⟨(thingOf e).1, (thingOf e).2, e.k⟩ hdm p hp
      by_cases e1 : p = (b.count : Int) + 1
      · simpa [e1] using this
      · have c2 : ¬ (e.k = 3 ∨ e.k = 8) := by have := (opens_of _).1 c1; omega
        simpa [e1, c2] using this
    · have c1' : opensK e.k = false := by simpa using c1
      simp only [c1', Bool.false_eq_true, and_false, if_false]
      by_cases c2 : e.k = 3 ∨ e.k = 8
      · simp only [c2, and_true, if_true]
        exact hz ⟨(b.opn e.r).tk, (b.opn e.r).ti, e.k⟩ hdm
      · simp only [c2, and_false, if_false]
        exact hO1
  case used =>
    show UseR (b.add e).used D2
    subst hu
    unfold Bo.add
    by_cases c1 : opensK e.k = true
    · simp only [c1, if_true]
      intro t i ht hi2
      exact hU.put h.mu hth.1 hth.2 t i ht hi2
    · simp only [c1, if_false]
      by_cases c2 : e.k = 3 ∨ e.k = 8
      · simp only [c2, if_true]; exact hU
      · simp only [c2, if_false]; exact hU.del h.nd hop.1 hop.2
  case us =>
    intro x hx
    simp only [Bo.add] at hx
    split at hx
    · split at hx
      · exact h.us x hx
      · rcases List.mem_cons.1 hx with rfl | hx
        · exact hth
        · exact h.us x hx
    · split at hx
      · exact h.us x hx
      · exact h.us x (List.mem_of_mem_erase hx)
  case op =>
    intro p
    simp only [Bo.add]
    split
    · exact hth
    · split
      · exact hop
      · split
        · exact ⟨⟨by decide, by decide⟩, ⟨by decide, by decide⟩⟩
        · exact h.op p
  case nd =>
    have := h.nd
    simp only [Bo.add]
    split
    · split
      · exact this
      · exact List.nodup_cons.2 ⟨by assumption, this⟩
    · split
      · exact this
      · exact this.erase _
  case so =>
    show _ ≤ b.count + 1
    subst ho
    split
    · exact hsp _
    · split
      · exact hsp _
      · omega
  case su =>
    show _ ≤ b.count + 1
    subst hu
    split
    · have := size_put (k := th (thingOf e).1 (thingOf e).2) htu (.held (.agg #[])); split at this <;> omega
    · split
      · omega
      · have := size_del (k := th (b.opn e.r).tk (b.opn e.r).ti) htu; omega
end Go.Proofs.YtieoeoonopcjbaaGreatDoor

/- event: add, the walk. -/
namespace Go.Proofs.YtieoeoonopcjbaaGreatDoor
open Go.RowKit Go.Maps

set_option maxRecDepth 100000 in
set_option maxHeartbeats 8000000 in
theorem add_any {w : World} {g bo bu : Nat} {b : Bo} (h : Book w g bo bu b) (p : VL) (ok : p.ok) (hc : b.count ≤ 1048576) :
    Calls Tryz.prog 98 #[.pointer (some ⟨g, 0, none⟩), p.val] w fun e w' => e = .returned (.tuple #[]) ∧ Book w' g bo bu (b.add p.e) ∧ Fr (BS g bo bu) w w' := by
  obtain ⟨Do, Du, hb⟩ := h
  obtain ⟨W, hW⟩ : ∃ W, w.alloc (.cells p.cells.toArray 68) = W := ⟨_, rfl⟩
  obtain ⟨g0, hg0⟩ : ∃ g0, w.heap.size = g0 := ⟨_, rfl⟩
  obtain ⟨W1, hW1⟩ : ∃ W1, W.setCell ⟨g, 0, none⟩ (.int .i64 ((b.count : Int) + 1)) = W1 := ⟨_, rfl⟩
  have FW : Fr (fun _ => False) w W := by rw [← hW]; exact (Fr.refl _ _).alloc _
  have F1 : Hid (Fr (fun k => k = g) W W1) := Lib.hid (by rw [← hW1]; exact Fr.setCell (S := fun k => k = g) (p := ⟨g, 0, none⟩) (Fr.refl _ _) (fun _ => rfl) _)
  have KW0 : Bk W g0 68 p.cells.toArray := by rw [← hW, ← hg0]; exact Bk.new _ _ _
  have HNE : Hid (g0 ≠ g ∧ bo ≠ g ∧ bu ≠ g ∧ bo ≠ bu ∧ g0 ≠ bo ∧ g0 ≠ bu) := Lib.hid ⟨by have := hb.blk.lt; omega, (hb.mo.ne hb.blk).symm, (hb.mu.ne hb.blk).symm, hb.ne, by have := hb.mo.lt; omega, by have := hb.mu.lt; omega⟩
  have FW1 : Hid (Fr (fun k => k = g) w W1) := Lib.hid ((FW.mono (fun _ _ h => h.elim)).trans F1.out (fun _ _ h => h))
  have K1 : Hid (Bk W1 g0 68 p.cells.toArray) := Lib.hid (KW0.fr F1.out HNE.out.1)
  have B0 := hb.blk.fr FW (fun h => h)
  have B1 : Hid (Bk W1 g 157 #[.int .i64 ((b.count : Int) + 1), .int .i64 b.now, .bool b.closed, .map (some bo), .map (some bu)]) := Lib.hid (by
    rw [← hW1]; exact B0.set 0 _)
  have MO1 := Lib.hid (hb.mo.fr FW1.out HNE.out.2.1)
  have MU1 := Lib.hid (hb.mu.fr FW1.out HNE.out.2.2.1)
  have z0 : W.frozen? ⟨g, 0, none⟩ = false := B0.frozen 0
  have q0 : W.cell? ⟨g, 0, none⟩ = some (.int .i64 (b.count : Int)) := B0.cell 0
  have hcnt : (b.count : Int) ≤ 1048576 := by omega
  have hcn0 : (0 : Int) ≤ (b.count : Int) := by omega
  have w1 : IntKind.i64.wrap ((b.count : Int) + 1) = (b.count : Int) + 1 := IntWalk.i64_in _ (by omega)
  have HBO := Lib.hid hb
  have HOK := Lib.hid ok
  have CO := Lib.hid (fun w' => opened_any p w')
  have CC := Lib.hid (fun w' => closes_any p.e.k w')
  obtain ⟨e, he⟩ : ∃ e, p.e = e := ⟨_, rfl⟩
  have HFIN : Hid (∀ w' D1 D2, Bk w' g 157 #[.int .i64 ((b.count : Int) + 1), .int .i64 e.a, .bool (closesK e.k), .map (some bo), .map (some bu)] → MV w' 3 bo D1 → MV w' 211 bu D2 →
      D1 = (if opensK e.k = true then (Do.del (.int .i64 e.r)).put (.int .i64 ((b.count : Int) + 1)) (.held (stV ⟨(thingOf e).1, (thingOf e).2, e.k⟩))
        else if e.k = 3 ∨ e.k = 8 then (Do.del (.int .i64 e.r)).put (.int .i64 ((b.count : Int) + 1)) (.held (stV ⟨(b.opn e.r).tk, (b.opn e.r).ti, e.k⟩)) else Do.del (.int .i64 e.r)) →
      D2 = (if opensK e.k = true then Du.put (th (thingOf e).1 (thingOf e).2) (.held (.agg #[])) else if e.k = 3 ∨ e.k = 8 then Du else Du.del (th (b.opn e.r).tk (b.opn e.r).ti)) → Book w' g bo bu (b.add e)) := Lib.hid (fun w' D1 D2 x1 x2 x3 x4 x5 => by
    subst he
    exact ⟨D1, D2, HBO.out.added p.e ok.k ok.i x1 x2 x3 x4 x5⟩)
  have HLK : Hid (∀ w', Fr (fun k => k = g) W1 w' → (Instr.lookup 154 (.map (some bo)) (.int .i64 e.r) false).run Tryz.prog w' = .ok (.agg #[.int .i64 (b.opn e.r).tk, .int .i64 (b.opn e.r).ti, .int .i64 (b.opn e.r).k]) w') := Lib.hid (fun w' hf => by
    subst he
    have hm := MO1.out.fr hf HNE.out.2.1
    rcases HBO.out.opn p.e.r ok.r with ⟨h1, h2⟩ | h1
    · have := (hm.at0 kInt tOpen (zeroSta w') (I64.key ok.r) h1).2
      rw [h2]; exact this
    · exact (hm.at1 kInt tOpen (zeroSta w') (I64.key ok.r) h1).2)
  have HI : Hid (I64 e.k ∧ I64 e.r ∧ I64 (b.opn e.r).tk ∧ I64 (b.opn e.r).ti ∧ I64 (thingOf e).1 ∧ I64 (thingOf e).2) := Lib.hid (by
    subst he
    refine ⟨ok.k, ok.r, (HBO.out.op _).1, (HBO.out.op _).2, ?_⟩
    unfold thingOf; split
    · exact ⟨⟨by decide, by decide⟩, ⟨by decide, by decide⟩⟩
    · exact ⟨ok.k, ok.i⟩)
  have HSZ : Hid (Maps.size Do < 9223372036854775807 - 1 ∧ Maps.size Du < 9223372036854775807 - 1 ∧ Maps.size (Do.del (.int .i64 e.r)) < 9223372036854775807) := Lib.hid (by
    have h1 := hb.so; have h2 := hb.su
    have := size_del (k := .int .i64 e.r) (hb.mo.tidy kInt)
    omega)
  obtain ⟨p, A, c⟩ := p
  simp only at he
  subst he
  obtain ⟨k, a, r, i, l, m, d⟩ := p
  unfold VL.val VL.cells VL.bv thV at *
  simp only at *
  have hfk := fun w' => fieldT (b.opn r).tk (b.opn r).ti (b.opn r).k w'
  clear hb ok KW0 B0 FW
  obtain ⟨cl, hcl⟩ : ∃ cl, closesK k = cl := ⟨_, rfl⟩
  rw [hcl] at HFIN CC
  clear hcl
  obtain ⟨tk, htk⟩ : ∃ x, (b.opn r).tk = x := ⟨_, rfl⟩
  obtain ⟨ti, hti⟩ : ∃ x, (b.opn r).ti = x := ⟨_, rfl⟩
  obtain ⟨sk, hsk⟩ : ∃ x, (b.opn r).k = x := ⟨_, rfl⟩
  rw [htk, hti] at HFIN HI
  rw [htk, hti, hsk] at HLK hfk
  obtain ⟨t1, ht1⟩ : ∃ x, (thingOf ⟨k, a, r, i, l, m, d⟩).1 = x := ⟨_, rfl⟩
  obtain ⟨t2, ht2⟩ : ∃ x, (thingOf ⟨k, a, r, i, l, m, d⟩).2 = x := ⟨_, rfl⟩
  rw [ht1, ht2] at HFIN HI CO
  clear htk hti hsk ht1 ht2
  go_enter Tryz.func98, Tryz.ntmps98
  go_wp2_with fail
  clear hW hW1 hg0 q0 z0 w1
  obtain ⟨W2, hW2⟩ : ∃ W2, ((W1.setCell ⟨g, 1, none⟩ (.int .i64 a)).setCell ⟨g, 2, none⟩ (.bool cl)).drew = W2 := ⟨_, rfl⟩
  have F2 : Hid (Fr (fun k => k = g) W1 W2) := Lib.hid (by rw [← hW2]; exact (Fr.setCell (S := fun k => k = g) (p := ⟨g, 2, none⟩) (Fr.setCell (S := fun k => k = g) (p := ⟨g, 1, none⟩) (Fr.refl _ _) (fun _ => rfl) _) (fun _ => rfl) _).drew)
  have B2 : Hid (Bk W2 g 157 #[.int .i64 ((b.count : Int) + 1), .int .i64 a, .bool cl, .map (some bo), .map (some bu)]) := Lib.hid (by rw [← hW2]; exact ((B1.out.set 1 (.int .i64 a)).set 2 (.bool cl)).drew)
  have K2 := Lib.hid (K1.out.fr F2.out HNE.out.1)
  have HW2 := Lib.hid hW2
  clear hW2
  refine wp_region_Z [9, 12] ((fun w' => Fr (fun _ => False) W1 w')) (by kernel_rfl) ((Fr.refl _ _).drew) (fun hHeld => ?_)
  refine anyZ_pure (i := 0) (v := ?_) (some 12) rfl rfl (by kernel_rfl) (by kernel_rfl) (by kernel_rfl) (by kernel_rfl) (fun _ _ _ h => h) (Or.inl ⟨by rfl, ?_⟩) (fun _ => hHeld) ?_
  rotate_left
  · intro w' _
    go_simp
    first | done | with_reducible rfl
  try simp only [Go.Act.put, List.setIfInBounds_toArray, List.set_cons_zero, List.set_cons_succ]
  refine anyZ_pure (i := 1) (v := ?_) (some 13) rfl rfl (by kernel_rfl) (by kernel_rfl) (by kernel_rfl) (by kernel_rfl) (fun _ _ _ h => h) (Or.inl ⟨by rfl, ?_⟩) (fun _ => hHeld) ?_
  rotate_left
  · intro w' _
    go_simp
    first | done | with_reducible rfl
  try simp only [Go.Act.put, List.setIfInBounds_toArray, List.set_cons_zero, List.set_cons_succ]
  refine anyZ_pure (i := 2) (v := ?_) (some 14) rfl rfl (by kernel_rfl) (by kernel_rfl) (by kernel_rfl) (by kernel_rfl) (fun _ _ _ h => h) (Or.inl ⟨by rfl, ?_⟩) (fun _ => hHeld) ?_
  rotate_left
  · intro w' _
    go_simp
    first | done | with_reducible rfl
  try simp only [Go.Act.put, List.setIfInBounds_toArray, List.set_cons_zero, List.set_cons_succ]
  refine anyZ_read (i := 3) (v := ?_) (some 15) [7, 8, 9, 10, 11, 12] rfl rfl (by kernel_rfl) (by kernel_rfl) (by kernel_rfl) (by kernel_rfl) (by kernel_rfl) (by kernel_rfl) (fun _ _ _ h => h) (Or.inl ⟨by rfl, ?_⟩) hHeld ?_
  rotate_left
  · intro w' hSw
    have k1 := (K1.out.fr hSw (fun h => h)).cell 1
    go_simp
    first | done | with_reducible rfl
  try simp only [Go.Act.put, List.setIfInBounds_toArray, List.set_cons_zero, List.set_cons_succ]
  refine anyZ_pure (i := 4) (v := ?_) (some 16) rfl rfl (by kernel_rfl) (by kernel_rfl) (by kernel_rfl) (by kernel_rfl) (fun _ _ _ h => h) (Or.inl ⟨by rfl, ?_⟩) (fun _ => hHeld) ?_
  rotate_left
  · intro w' _
    go_simp
    first | done | with_reducible rfl
  try simp only [Go.Act.put, List.setIfInBounds_toArray, List.set_cons_zero, List.set_cons_succ]
  refine anyZ_read (i := 5) (v := ?_) (some 17) [6, 7, 8, 9, 10, 11, 12] rfl rfl (by kernel_rfl) (by kernel_rfl) (by kernel_rfl) (by kernel_rfl) (by kernel_rfl) (by kernel_rfl) (fun _ _ _ h => h) (Or.inl ⟨by rfl, ?_⟩) hHeld ?_
  rotate_left
  · intro w' hSw
    have k0 := (K1.out.fr hSw (fun h => h)).cell 0
    go_simp
    first | done | with_reducible rfl
  try simp only [Go.Act.put, List.setIfInBounds_toArray, List.set_cons_zero, List.set_cons_succ]
  refine anyZ_ready (rs := [6]) (by kernel_rfl) (by simp) ?_
  refine AllZ.step rfl (fun K hK => ?_) AllZ.nil
  go_simp
  refine (CC.out _).mono ?_; rintro e w2 ⟨rfl, rfl⟩
  try go_simp
  refine hK.out _ _ (hHeld) (fun hHeld => ?_)
  clear hK K
  try change anyZ _ _ _ _ _ _ _ _ (Go.Act.put _ (some 18) _) _
  try simp only [Go.Act.put, List.setIfInBounds_toArray, List.set_cons_zero, List.set_cons_succ]
  refine anyZ_pure (i := 7) (v := ?_) (some 19) rfl rfl (by kernel_rfl) (by kernel_rfl) (by kernel_rfl) (by kernel_rfl) (fun _ _ _ h => h) (Or.inl ⟨by rfl, ?_⟩) (fun _ => hHeld) ?_
  rotate_left
  · intro w' _
    go_simp
    first | done | with_reducible rfl
  try simp only [Go.Act.put, List.setIfInBounds_toArray, List.set_cons_zero, List.set_cons_succ]
  refine anyZ_pure (i := 8) (v := ?_) (some 20) rfl rfl (by kernel_rfl) (by kernel_rfl) (by kernel_rfl) (by kernel_rfl) (fun _ _ _ h => h) (Or.inl ⟨by rfl, ?_⟩) (fun _ => hHeld) ?_
  rotate_left
  · intro w' _
    go_simp
    first | done | with_reducible rfl
  try simp only [Go.Act.put, List.setIfInBounds_toArray, List.set_cons_zero, List.set_cons_succ]
  refine anyZ_ready (rs := [9]) (by kernel_rfl) (by simp) ?_
  refine AllZ.last rfl (by kernel_rfl) (fun K hK => ?_) AllZ.nil
  have b1 : W1.cell? ⟨g, 1, none⟩ = some (.int .i64 b.now) := B1.out.cell 1
  have b2 : W1.cell? ⟨g, 2, none⟩ = some (.bool b.closed) := B1.out.cell 2
  have z1 : W1.frozen? ⟨g, 1, none⟩ = false := B1.out.frozen 1
  have z2 : W1.frozen? ⟨g, 2, none⟩ = false := B1.out.frozen 2
  go_simp
  refine hK.out _ _ ?_
  clear hK K
  try change anyZ _ _ _ _ _ _ _ _ (Go.Act.put _ none _) _
  try simp only [Go.Act.put, List.setIfInBounds_toArray, List.set_cons_zero, List.set_cons_succ]
  refine anyZ_pure (i := 10) (v := ?_) (some 21) rfl rfl (by kernel_rfl) (by kernel_rfl) (by kernel_rfl) (by kernel_rfl) (fun _ _ _ h => h) (Or.inl ⟨by rfl, ?_⟩) (notYet (by kernel_rfl)) ?_
  rotate_left
  · intro w' _
    go_simp
    first | done | with_reducible rfl
  try simp only [Go.Act.put, List.setIfInBounds_toArray, List.set_cons_zero, List.set_cons_succ]
  refine anyZ_pure (i := 11) (v := ?_) (some 22) rfl rfl (by kernel_rfl) (by kernel_rfl) (by kernel_rfl) (by kernel_rfl) (fun _ _ _ h => h) (Or.inl ⟨by rfl, ?_⟩) (notYet (by kernel_rfl)) ?_
  rotate_left
  · intro w' _
    go_simp
    first | done | with_reducible rfl
  try simp only [Go.Act.put, List.setIfInBounds_toArray, List.set_cons_zero, List.set_cons_succ]
  refine anyZ_ready (rs := [12]) (by kernel_rfl) (by simp) ?_
  refine AllZ.last rfl (by kernel_rfl) (fun K hK => ?_) AllZ.nil
  go_simp
  refine hK.out _ _ ?_
  clear hK K
  try change anyZ _ _ _ _ _ _ _ _ (Go.Act.put _ none _) _
  try simp only [Go.Act.put, List.setIfInBounds_toArray, List.set_cons_zero, List.set_cons_succ]
  refine anyZ_done (by kernel_rfl) ?_ _
  clear b1 b2 z1 z2 CC
  rw [HW2.out]
  clear HW2 B1 K1 F1
  obtain ⟨gt, hgt⟩ : ∃ gt, W2.heap.size = gt := ⟨_, rfl⟩
  have T3 : Hid (Bk (W2.alloc (.cells #[.int .i64 tk, .int .i64 ti] 211)).drew gt 211 #[.int .i64 tk, .int .i64 ti]) := Lib.hid (by rw [← hgt]; exact (Bk.new _ _ _).drew)
  have HGT : Hid (gt ≠ g ∧ gt ≠ g0 ∧ gt ≠ bo ∧ gt ≠ bu ∧ w.heap.size ≤ gt) := Lib.hid (by
    have e1 := B2.out.lt; have e2 := K2.out.lt; have e3 := (MO1.out.fr F2.out HNE.out.2.1).lt; have e4 := (MU1.out.fr F2.out HNE.out.2.2.1).lt
    have e5 := FW1.out.size; have e6 := F2.out.size
    exact ⟨by omega, by omega, by omega, by omega, by omega⟩)
  go_wp2_with fail
  refine wp_region_held_drew (S := (fun w' => Fr (fun _ => False) W2 w')) (by kernel_rfl) ((Fr.refl _ _).drew) (fun hHeld => ?_)
  refine wpAnyH_takeD (i := 0) (v := ?_) (some 23) rfl rfl (by kernel_rfl) (by kernel_rfl) (by kernel_rfl) (fun _ _ _ h => h) (Or.inl ⟨by rfl, ?_⟩) (by assumption) ?_
  rotate_left
  · intro w' hSw
    go_simp
    first | done | with_reducible rfl
  try simp only [Go.Act.put, List.setIfInBounds_toArray, List.set_cons_zero, List.set_cons_succ]
  refine wpAnyH_takeD (i := 1) (v := ?_) (some 24) rfl rfl (by kernel_rfl) (by kernel_rfl) (by kernel_rfl) (fun _ _ _ h => h) (Or.inl ⟨by rfl, ?_⟩) (by assumption) ?_
  rotate_left
  · intro w' hSw
    go_simp
    first | done | with_reducible rfl
  try simp only [Go.Act.put, List.setIfInBounds_toArray, List.set_cons_zero, List.set_cons_succ]
  refine wpAnyH_takeD (i := 2) (v := ?_) (some 25) rfl rfl (by kernel_rfl) (by kernel_rfl) (by kernel_rfl) (fun _ _ _ h => h) (Or.inl ⟨by rfl, ?_⟩) (by assumption) ?_
  rotate_left
  · intro w' hSw
    go_simp
    first | done | with_reducible rfl
  try simp only [Go.Act.put, List.setIfInBounds_toArray, List.set_cons_zero, List.set_cons_succ]
  refine wpAnyH_takeD (i := 3) (v := ?_) (some 26) rfl rfl (by kernel_rfl) (by kernel_rfl) (by kernel_rfl) (fun _ _ _ h => h) (Or.inl ⟨by rfl, ?_⟩) (by assumption) ?_
  rotate_left
  · intro w' hSw
    have b3 := (B2.out.fr hSw (fun h => h)).cell 3
    go_simp
    first | done | with_reducible rfl
  try simp only [Go.Act.put, List.setIfInBounds_toArray, List.set_cons_zero, List.set_cons_succ]
  refine wpAnyH_takeD (i := 4) (v := ?_) (some 27) rfl rfl (by kernel_rfl) (by kernel_rfl) (by kernel_rfl) (fun _ _ _ h => h) (Or.inl ⟨by rfl, ?_⟩) (by assumption) ?_
  rotate_left
  · intro w' hSw
    go_simp
    first | done | with_reducible rfl
  try simp only [Go.Act.put, List.setIfInBounds_toArray, List.set_cons_zero, List.set_cons_succ]
  refine wpAnyH_takeD (i := 5) (v := ?_) (some 28) rfl rfl (by kernel_rfl) (by kernel_rfl) (by kernel_rfl) (fun _ _ _ h => h) (Or.inl ⟨by rfl, ?_⟩) (by assumption) ?_
  rotate_left
  · intro w' hSw
    have k2 := (K2.out.fr hSw (fun h => h)).cell 2
    go_simp
    first | done | with_reducible rfl
  try simp only [Go.Act.put, List.setIfInBounds_toArray, List.set_cons_zero, List.set_cons_succ]
  refine wpAnyH_takeD (i := 6) (v := ?_) (some 29) rfl rfl (by kernel_rfl) (by kernel_rfl) (by kernel_rfl) (fun _ _ _ h => h) (Or.inl ⟨by rfl, ?_⟩) (by assumption) ?_
  rotate_left
  · intro w' hSw
    have hlk := HLK.out w' (F2.out.trans (hSw.mono (T := fun k => k = g) (fun _ _ h => h.elim)) (fun _ _ h => h))
    go_simp
    first | done | with_reducible rfl
  try simp only [Go.Act.put, List.setIfInBounds_toArray, List.set_cons_zero, List.set_cons_succ]
  refine wpAnyH_takeD (i := 7) (v := ?_) (some 30) rfl rfl (by kernel_rfl) (by kernel_rfl) (by kernel_rfl) (fun _ _ _ h => h) (Or.inl ⟨by rfl, ?_⟩) (by assumption) ?_
  rotate_left
  · intro w' hSw
    go_simp
    first | done | with_reducible rfl
  try simp only [Go.Act.put, List.setIfInBounds_toArray, List.set_cons_zero, List.set_cons_succ]
  refine wpAnyH_ready (rs := [8]) (by kernel_rfl) (by simp) ?_
  refine AllReadyH.cons rfl (fun K hK => ?_) AllReadyH.nil
  go_simp
  refine hK.out _ _ (hHeld.alloc _) (fun hHeld => ?_)
  clear hK K
  try change wpAnyH _ _ _ _ _ _ _ (Go.Act.put _ (some 4) _) _
  try simp only [Go.Act.put, List.setIfInBounds_toArray, List.set_cons_zero, List.set_cons_succ]
  refine wpAnyH_ready (rs := [9]) (by kernel_rfl) (by simp) ?_
  refine AllReadyH.cons rfl (fun K hK => ?_) AllReadyH.nil
  go_simp
  refine hK.out _ _ (((Fr.refl (fun _ => False) _).alloc _).drew) (fun hHeld => ?_)
  clear hK K
  try change wpAnyH _ _ _ _ _ _ _ (Go.Act.put _ none _) _
  try simp only [Go.Act.put, List.setIfInBounds_toArray, List.set_cons_zero, List.set_cons_succ]
  refine wpAnyH_done (by kernel_rfl) ?_ _
  clear HLK hfk
  obtain ⟨W3, hW3⟩ : ∃ W3, (W2.alloc (.cells #[.int .i64 tk, .int .i64 ti] 211)).drew = W3 := ⟨_, rfl⟩
  rw [hW3] at T3 hHeld ⊢
  have F3 : Hid (Fr (fun k => k = g) w W3) := Lib.hid ((FW1.out.trans F2.out (fun _ _ h => h)).trans (hHeld.mono (T := fun k => k = g) (fun _ _ h => h.elim)) (fun _ _ h => h))
  have B3 := Lib.hid (B2.out.fr hHeld (fun h => h))
  have K3 := Lib.hid (K2.out.fr hHeld (fun h => h))
  have MO3 := Lib.hid ((MO1.out.fr F2.out HNE.out.2.1).fr hHeld (fun h => h))
  have MU3 := Lib.hid ((MU1.out.fr F2.out HNE.out.2.2.1).fr hHeld (fun h => h))
  clear hW3 hHeld hgt MO1 MU1 F2 FW1 B2 K2
  have HDO : Hid (∀ w', Fr (fun _ => False) W3 w' → ∃ w1, (Builtin.delete_ #[154, 3] 0 #[.map (some bo), .int .i64 r]).run Tryz.prog w' = .ok (.tuple #[]) w1 ∧ MV w1 3 bo (Do.del (.int .i64 r)) ∧ Fr (fun x => x = bo) w' w1) := Lib.hid (fun w' hf =>
    (MO3.out.fr hf (fun h => h)).delete kInt tOpen (I64.key HI.out.2.1) 0)
  go_wp2_with fail
  refine wp_region_Z [6] ((fun w' => Fr (fun _ => False) W3 w')) (by kernel_rfl) ((Fr.refl _ _).drew) (fun hHeld => ?_)
  refine anyZ_pure (i := 0) (v := ?_) (some 31) rfl rfl (by kernel_rfl) (by kernel_rfl) (by kernel_rfl) (by kernel_rfl) (fun _ _ _ h => h) (Or.inl ⟨by rfl, ?_⟩) (fun _ => hHeld) ?_
  rotate_left
  · intro w' _
    go_simp
    first | done | with_reducible rfl
  try simp only [Go.Act.put, List.setIfInBounds_toArray, List.set_cons_zero, List.set_cons_succ]
  refine anyZ_pure (i := 1) (v := ?_) (some 32) rfl rfl (by kernel_rfl) (by kernel_rfl) (by kernel_rfl) (by kernel_rfl) (fun _ _ _ h => h) (Or.inl ⟨by rfl, ?_⟩) (fun _ => hHeld) ?_
  rotate_left
  · intro w' _
    go_simp
    first | done | with_reducible rfl
  try simp only [Go.Act.put, List.setIfInBounds_toArray, List.set_cons_zero, List.set_cons_succ]
  refine anyZ_pure (i := 2) (v := ?_) (some 33) rfl rfl (by kernel_rfl) (by kernel_rfl) (by kernel_rfl) (by kernel_rfl) (fun _ _ _ h => h) (Or.inl ⟨by rfl, ?_⟩) (fun _ => hHeld) ?_
  rotate_left
  · intro w' _
    go_simp
    first | done | with_reducible rfl
  try simp only [Go.Act.put, List.setIfInBounds_toArray, List.set_cons_zero, List.set_cons_succ]
  refine anyZ_read (i := 3) (v := ?_) (some 34) [6] rfl rfl (by kernel_rfl) (by kernel_rfl) (by kernel_rfl) (by kernel_rfl) (by kernel_rfl) (by kernel_rfl) (fun _ _ _ h => h) (Or.inl ⟨by rfl, ?_⟩) hHeld ?_
  rotate_left
  · intro w' hSw
    have b3 := (B3.out.fr hSw (fun h => h)).cell 3
    go_simp
    first | done | with_reducible rfl
  try simp only [Go.Act.put, List.setIfInBounds_toArray, List.set_cons_zero, List.set_cons_succ]
  refine anyZ_pure (i := 4) (v := ?_) (some 35) rfl rfl (by kernel_rfl) (by kernel_rfl) (by kernel_rfl) (by kernel_rfl) (fun _ _ _ h => h) (Or.inl ⟨by rfl, ?_⟩) (fun _ => hHeld) ?_
  rotate_left
  · intro w' _
    go_simp
    first | done | with_reducible rfl
  try simp only [Go.Act.put, List.setIfInBounds_toArray, List.set_cons_zero, List.set_cons_succ]
  refine anyZ_read (i := 5) (v := ?_) (some 36) [6] rfl rfl (by kernel_rfl) (by kernel_rfl) (by kernel_rfl) (by kernel_rfl) (by kernel_rfl) (by kernel_rfl) (fun _ _ _ h => h) (Or.inl ⟨by rfl, ?_⟩) hHeld ?_
  rotate_left
  · intro w' hSw
    have k2 := (K3.out.fr hSw (fun h => h)).cell 2
    go_simp
    first | done | with_reducible rfl
  try simp only [Go.Act.put, List.setIfInBounds_toArray, List.set_cons_zero, List.set_cons_succ]
  refine anyZ_ready (rs := [6]) (by kernel_rfl) (by simp) ?_
  refine AllZ.last rfl (by kernel_rfl) (fun K hK => ?_) AllZ.nil
  obtain ⟨w1, hrun, hm1, hf1⟩ := HDO.out _ hHeld
  go_simp
  have HM1 := Lib.hid hm1
  have HF1 := Lib.hid ((hHeld.mono (T := fun k => k = bo) (fun _ _ h => h.elim)).trans hf1 (fun _ _ h => h))
  clear hm1 hf1 hrun
  refine hK.out _ _ ?_
  clear hK K
  try change anyZ _ _ _ _ _ _ _ _ (Go.Act.put _ none _) _
  try simp only [Go.Act.put, List.setIfInBounds_toArray, List.set_cons_zero, List.set_cons_succ]
  refine anyZ_done (by kernel_rfl) ?_ _

  clear HDO MO3
  have B4 := Lib.hid (B3.out.fr HF1.out HNE.out.2.1.symm)
  have K4 := Lib.hid (K3.out.fr HF1.out HNE.out.2.2.2.2.1)
  have T4 := Lib.hid (T3.out.fr HF1.out HGT.out.2.2.1)
  have MU4 := Lib.hid (MU3.out.fr HF1.out HNE.out.2.2.2.1.symm)
  have F4 : Hid (Fr (BS g bo bu) w w1) := Lib.hid ((F3.out.mono (T := BS g bo bu) (fun _ _ h => .inl h)).trans HF1.out (fun _ _ h => .inr (.inl h)))
  clear HF1 B3 K3 T3 MU3 F3
  have k0 : w1.cell? ⟨g0, 0, none⟩ = some (.int .i64 k) := K4.out.cell 0
  by_cases ho : k = 2 ∨ k = 7 ∨ k = 12 ∨ k = 17
  · have k1 : w1.cell? ⟨g0, 1, none⟩ = some (.int .i64 a) := K4.out.cell 1
    have k2 : w1.cell? ⟨g0, 2, none⟩ = some (.int .i64 r) := K4.out.cell 2
    have k3 : w1.cell? ⟨g0, 3, none⟩ = some (.int .i64 i) := K4.out.cell 3
    have k4 : w1.cell? ⟨g0, 4, none⟩ = some (.int .i64 l) := K4.out.cell 4
    have k5 : w1.cell? ⟨g0, 5, none⟩ = some (.int .i64 m) := K4.out.cell 5
    have k6 : w1.cell? ⟨g0, 6, none⟩ = some (.slice A d.length c) := K4.out.cell 6
    have HO : Hid (opensK k = true) := Lib.hid ((opens_of k).2 ho)
    rcases ho with hk | hk | hk | hk
    all_goals
      first | (have d2 : (k == 2) = true := by (rw [hk]; rfl)) | (have d2 : (k == 2) = false := by (rw [hk]; rfl))
      first | (have d7 : (k == 7) = true := by (rw [hk]; rfl)) | (have d7 : (k == 7) = false := by (rw [hk]; rfl))
      first | (have d12 : (k == 12) = true := by (rw [hk]; rfl)) | (have d12 : (k == 12) = false := by (rw [hk]; rfl))
      first | (have d17 : (k == 17) = true := by (rw [hk]; rfl)) | (have d17 : (k == 17) = false := by (rw [hk]; rfl))
      clear hk
      go_wp2_with fail
      refine (CO.out _).mono ?_; rintro e w5 ⟨rfl, hf5⟩
      have HF5 := Lib.hid hf5
      clear hf5 CO k0 k1 k2 k3 k4 k5 k6 d2 d7 d12 d17
      have T5 := Lib.hid (T4.out.fr HF5.out (fun h => h))
      have q0 : w5.cell? ⟨gt, 0, none⟩ = some (.int .i64 tk) := T5.out.cell 0
      have q1 : w5.cell? ⟨gt, 1, none⟩ = some (.int .i64 ti) := T5.out.cell 1
      have z0 : w5.frozen? ⟨gt, 0, none⟩ = false := T5.out.frozen 0
      have z1 : w5.frozen? ⟨gt, 1, none⟩ = false := T5.out.frozen 1
      obtain ⟨W6, hW6⟩ : ∃ W6, (w5.setCell ⟨gt, 0, none⟩ (.int .i64 t1)).setCell ⟨gt, 1, none⟩ (.int .i64 t2) = W6 := ⟨_, rfl⟩
      have F6 : Hid (Fr (fun x => x = gt) w1 W6) := Lib.hid (by rw [← hW6]; exact Fr.setCell (S := fun k => k = gt) (p := ⟨gt, 1, none⟩) (Fr.setCell (S := fun k => k = gt) (p := ⟨gt, 0, none⟩) (HF5.out.mono (fun _ _ h => h.elim)) (fun _ => rfl) _) (fun _ => rfl) _)
      have T6 : Hid (Bk W6 gt 211 #[.int .i64 t1, .int .i64 t2]) := Lib.hid (by rw [← hW6]; exact (T5.out.set 0 (.int .i64 t1)).set 1 (.int .i64 t2))
      have B6 := Lib.hid (B4.out.fr F6.out (fun e => HGT.out.1 e.symm))
      have K6 := Lib.hid (K4.out.fr F6.out (fun e => HGT.out.2.1 e.symm))
      have MU6 := Lib.hid (MU4.out.fr F6.out (fun e => HGT.out.2.2.2.1 e.symm))
      have MO6 := Lib.hid (HM1.out.fr F6.out (fun e => HGT.out.2.2.1 e.symm))
      have HPU : Hid (∀ w', Fr (fun _ => False) W6 w' → ∃ w7, (Instr.mapUpdate 155 (.map (some bu)) (.agg #[.int .i64 t1, .int .i64 t2]) (.agg #[])).run Tryz.prog w' = .ok () w7 ∧ MV w7 211 bu (Du.put (th t1 t2) (.held (.agg #[]))) ∧ Fr (fun x => x = bu) w' w7) := Lib.hid (fun w' hf =>
        (MU6.out.fr hf (fun h => h)).update kThg tUsed (by have := HSZ.out.2.1; omega) (th_of HI.out.2.2.2.2.1 HI.out.2.2.2.2.2))
      go_wp2_with fail
      clear q0 q1 z0 z1 hW6
      refine wp_region_Z [6] ((fun w' => Fr (fun _ => False) W6 w')) (by kernel_rfl) ((Fr.refl _ _).drew) (fun hHeld => ?_)
      refine anyZ_pure (i := 0) (v := ?_) (some 49) rfl rfl (by kernel_rfl) (by kernel_rfl) (by kernel_rfl) (by kernel_rfl) (fun _ _ _ h => h) (Or.inl ⟨by rfl, ?_⟩) (fun _ => hHeld) ?_
      rotate_left
      · intro w' _
        go_simp
        first | done | with_reducible rfl
      try simp only [Go.Act.put, List.setIfInBounds_toArray, List.set_cons_zero, List.set_cons_succ]
      refine anyZ_pure (i := 1) (v := ?_) (some 50) rfl rfl (by kernel_rfl) (by kernel_rfl) (by kernel_rfl) (by kernel_rfl) (fun _ _ _ h => h) (Or.inl ⟨by rfl, ?_⟩) (fun _ => hHeld) ?_
      rotate_left
      · intro w' _
        go_simp
        first | done | with_reducible rfl
      try simp only [Go.Act.put, List.setIfInBounds_toArray, List.set_cons_zero, List.set_cons_succ]
      refine anyZ_pure (i := 2) (v := ?_) (some 51) rfl rfl (by kernel_rfl) (by kernel_rfl) (by kernel_rfl) (by kernel_rfl) (fun _ _ _ h => h) (Or.inl ⟨by rfl, ?_⟩) (fun _ => hHeld) ?_
      rotate_left
      · intro w' _
        go_simp
        first | done | with_reducible rfl
      try simp only [Go.Act.put, List.setIfInBounds_toArray, List.set_cons_zero, List.set_cons_succ]
      refine anyZ_read (i := 3) (v := ?_) (some 52) [6] rfl rfl (by kernel_rfl) (by kernel_rfl) (by kernel_rfl) (by kernel_rfl) (by kernel_rfl) (by kernel_rfl) (fun _ _ _ h => h) (Or.inl ⟨by rfl, ?_⟩) hHeld ?_
      rotate_left
      · intro w' hSw
        have b4 := (B6.out.fr hSw (fun h => h)).cell 4
        go_simp
        first | done | with_reducible rfl
      try simp only [Go.Act.put, List.setIfInBounds_toArray, List.set_cons_zero, List.set_cons_succ]
      refine anyZ_read (i := 4) (v := ?_) (some 53) [6] rfl rfl (by kernel_rfl) (by kernel_rfl) (by kernel_rfl) (by kernel_rfl) (by kernel_rfl) (by kernel_rfl) (fun _ _ _ h => h) (Or.inl ⟨by rfl, ?_⟩) hHeld ?_
      rotate_left
      · intro w' hSw
        have t0 := (T6.out.fr hSw (fun h => h)).cell 0; have t1 := (T6.out.fr hSw (fun h => h)).cell 1
        go_simp
        first | done | with_reducible rfl
      try simp only [Go.Act.put, List.setIfInBounds_toArray, List.set_cons_zero, List.set_cons_succ]
      refine anyZ_pure (i := 5) (v := ?_) (some 54) rfl rfl (by kernel_rfl) (by kernel_rfl) (by kernel_rfl) (by kernel_rfl) (fun _ _ _ h => h) (Or.inl ⟨by rfl, ?_⟩) (fun _ => hHeld) ?_
      rotate_left
      · intro w' _
        go_simp
        first | done | with_reducible rfl
      try simp only [Go.Act.put, List.setIfInBounds_toArray, List.set_cons_zero, List.set_cons_succ]
      refine anyZ_ready (rs := [6]) (by kernel_rfl) (by simp) ?_
      refine AllZ.last rfl (by kernel_rfl) (fun K hK => ?_) AllZ.nil
      obtain ⟨w2, hrun, hm2, hf2⟩ := HPU.out _ hHeld
      go_simp
      have HM2 := Lib.hid hm2
      have HF2 := Lib.hid ((hHeld.mono (T := fun k => k = bu) (fun _ _ h => h.elim)).trans hf2 (fun _ _ h => h))
      clear hm2 hf2 hrun
      refine hK.out _ _ ?_
      clear hK K
      try change anyZ _ _ _ _ _ _ _ _ (Go.Act.put _ none _) _
      try simp only [Go.Act.put, List.setIfInBounds_toArray, List.set_cons_zero, List.set_cons_succ]
      refine anyZ_done (by kernel_rfl) ?_ _
      clear HPU
      have HM7 := HM2
      have B7 := Lib.hid (B6.out.fr HF2.out HNE.out.2.2.1.symm)
      have K7 := Lib.hid (K6.out.fr HF2.out HNE.out.2.2.2.2.2)
      have T7 := Lib.hid (T6.out.fr HF2.out HGT.out.2.2.2.1)
      have MO7 := Lib.hid (MO6.out.fr HF2.out HNE.out.2.2.2.1)
      have HPO : Hid (∀ w', Fr (fun _ => False) w2 w' → ∃ w8, (Instr.mapUpdate 154 (.map (some bo)) (.int .i64 ((b.count : Int) + 1)) (.agg #[.int .i64 t1, .int .i64 t2, .int .i64 k])).run Tryz.prog w' = .ok () w8 ∧ MV w8 3 bo ((Do.del (.int .i64 r)).put (.int .i64 ((b.count : Int) + 1)) (.held (stV ⟨t1, t2, k⟩))) ∧ Fr (fun x => x = bo) w' w8) := Lib.hid (fun w' hf =>
        (MO7.out.fr hf (fun h => h)).update kInt tOpen HSZ.out.2.2 (I64.key ⟨by omega, by omega⟩) (val := stV ⟨t1, t2, k⟩))
      go_wp2_with fail
      refine wp_region_Z [12] ((fun w' => Fr (fun _ => False) w2 w')) (by kernel_rfl) ((Fr.refl _ _).drew) (fun hHeld => ?_)
      refine anyZ_pure (i := 0) (v := ?_) (some 55) rfl rfl (by kernel_rfl) (by kernel_rfl) (by kernel_rfl) (by kernel_rfl) (fun _ _ _ h => h) (Or.inl ⟨by rfl, ?_⟩) (fun _ => hHeld) ?_
      rotate_left
      · intro w' _
        go_simp
        first | done | with_reducible rfl
      try simp only [Go.Act.put, List.setIfInBounds_toArray, List.set_cons_zero, List.set_cons_succ]
      refine anyZ_pure (i := 1) (v := ?_) (some 56) rfl rfl (by kernel_rfl) (by kernel_rfl) (by kernel_rfl) (by kernel_rfl) (fun _ _ _ h => h) (Or.inl ⟨by rfl, ?_⟩) (fun _ => hHeld) ?_
      rotate_left
      · intro w' _
        go_simp
        first | done | with_reducible rfl
      try simp only [Go.Act.put, List.setIfInBounds_toArray, List.set_cons_zero, List.set_cons_succ]
      refine anyZ_pure (i := 2) (v := ?_) (some 57) rfl rfl (by kernel_rfl) (by kernel_rfl) (by kernel_rfl) (by kernel_rfl) (fun _ _ _ h => h) (Or.inl ⟨by rfl, ?_⟩) (fun _ => hHeld) ?_
      rotate_left
      · intro w' _
        go_simp
        first | done | with_reducible rfl
      try simp only [Go.Act.put, List.setIfInBounds_toArray, List.set_cons_zero, List.set_cons_succ]
      refine anyZ_read (i := 3) (v := ?_) (some 58) [12] rfl rfl (by kernel_rfl) (by kernel_rfl) (by kernel_rfl) (by kernel_rfl) (by kernel_rfl) (by kernel_rfl) (fun _ _ _ h => h) (Or.inl ⟨by rfl, ?_⟩) hHeld ?_
      rotate_left
      · intro w' hSw
        have b3 := (B7.out.fr hSw (fun h => h)).cell 3
        go_simp
        first | done | with_reducible rfl
      try simp only [Go.Act.put, List.setIfInBounds_toArray, List.set_cons_zero, List.set_cons_succ]
      refine anyZ_pure (i := 4) (v := ?_) (some 59) rfl rfl (by kernel_rfl) (by kernel_rfl) (by kernel_rfl) (by kernel_rfl) (fun _ _ _ h => h) (Or.inl ⟨by rfl, ?_⟩) (fun _ => hHeld) ?_
      rotate_left
      · intro w' _
        go_simp
        first | done | with_reducible rfl
      try simp only [Go.Act.put, List.setIfInBounds_toArray, List.set_cons_zero, List.set_cons_succ]
      refine anyZ_pure (i := 5) (v := ?_) (some 60) rfl rfl (by kernel_rfl) (by kernel_rfl) (by kernel_rfl) (by kernel_rfl) (fun _ _ _ h => h) (Or.inl ⟨by rfl, ?_⟩) (fun _ => hHeld) ?_
      rotate_left
      · intro w' _
        go_simp
        first | done | with_reducible rfl
      try simp only [Go.Act.put, List.setIfInBounds_toArray, List.set_cons_zero, List.set_cons_succ]
      refine anyZ_pure (i := 6) (v := ?_) (some 61) rfl rfl (by kernel_rfl) (by kernel_rfl) (by kernel_rfl) (by kernel_rfl) (fun _ _ _ h => h) (Or.inl ⟨by rfl, ?_⟩) (fun _ => hHeld) ?_
      rotate_left
      · intro w' _
        go_simp
        first | done | with_reducible rfl
      try simp only [Go.Act.put, List.setIfInBounds_toArray, List.set_cons_zero, List.set_cons_succ]
      refine anyZ_read (i := 7) (v := ?_) (some 62) [12] rfl rfl (by kernel_rfl) (by kernel_rfl) (by kernel_rfl) (by kernel_rfl) (by kernel_rfl) (by kernel_rfl) (fun _ _ _ h => h) (Or.inl ⟨by rfl, ?_⟩) hHeld ?_
      rotate_left
      · intro w' hSw
        have b0 := (B7.out.fr hSw (fun h => h)).cell 0
        go_simp
        first | done | with_reducible rfl
      try simp only [Go.Act.put, List.setIfInBounds_toArray, List.set_cons_zero, List.set_cons_succ]
      refine anyZ_read (i := 8) (v := ?_) (some 63) [11, 12] rfl rfl (by kernel_rfl) (by kernel_rfl) (by kernel_rfl) (by kernel_rfl) (by kernel_rfl) (by kernel_rfl) (fun _ _ _ h => h) (Or.inl ⟨by rfl, ?_⟩) hHeld ?_
      rotate_left
      · intro w' hSw
        have t0 := (T7.out.fr hSw (fun h => h)).cell 0; have t1 := (T7.out.fr hSw (fun h => h)).cell 1
        go_simp
        first | done | with_reducible rfl
      try simp only [Go.Act.put, List.setIfInBounds_toArray, List.set_cons_zero, List.set_cons_succ]
      refine anyZ_pure (i := 9) (v := ?_) (some 64) rfl rfl (by kernel_rfl) (by kernel_rfl) (by kernel_rfl) (by kernel_rfl) (fun _ _ _ h => h) (Or.inl ⟨by rfl, ?_⟩) (fun _ => hHeld) ?_
      rotate_left
      · intro w' _
        go_simp
        first | done | with_reducible rfl
      try simp only [Go.Act.put, List.setIfInBounds_toArray, List.set_cons_zero, List.set_cons_succ]
      refine anyZ_read (i := 10) (v := ?_) (some 65) [11, 12] rfl rfl (by kernel_rfl) (by kernel_rfl) (by kernel_rfl) (by kernel_rfl) (by kernel_rfl) (by kernel_rfl) (fun _ _ _ h => h) (Or.inl ⟨by rfl, ?_⟩) hHeld ?_
      rotate_left
      · intro w' hSw
        have k0 := (K7.out.fr hSw (fun h => h)).cell 0
        go_simp
        first | done | with_reducible rfl
      try simp only [Go.Act.put, List.setIfInBounds_toArray, List.set_cons_zero, List.set_cons_succ]
      refine anyZ_pure (i := 11) (v := ?_) (some 66) rfl rfl (by kernel_rfl) (by kernel_rfl) (by kernel_rfl) (by kernel_rfl) (fun _ _ _ h => h) (Or.inl ⟨by rfl, ?_⟩) (fun _ => hHeld) ?_
      rotate_left
      · intro w' _
        go_simp
        first | done | with_reducible rfl
      try simp only [Go.Act.put, List.setIfInBounds_toArray, List.set_cons_zero, List.set_cons_succ]
      refine anyZ_ready (rs := [12]) (by kernel_rfl) (by simp) ?_
      refine AllZ.last rfl (by kernel_rfl) (fun K hK => ?_) AllZ.nil
      obtain ⟨w3, hrun, hm3, hf3⟩ := HPO.out _ hHeld
      go_simp
      have HM3 := Lib.hid hm3
      have HF3 := Lib.hid ((hHeld.mono (T := fun k => k = bo) (fun _ _ h => h.elim)).trans hf3 (fun _ _ h => h))
      clear hm3 hf3 hrun
      refine hK.out _ _ ?_
      clear hK K
      try change anyZ _ _ _ _ _ _ _ _ (Go.Act.put _ none _) _
      try simp only [Go.Act.put, List.setIfInBounds_toArray, List.set_cons_zero, List.set_cons_succ]
      refine anyZ_done (by kernel_rfl) ?_ _

      clear HPO
      have FEND : Hid (Fr (BS g bo bu) w w3) := Lib.hid (((F4.out.trans F6.out (fun x hx e => by have := HGT.out.2.2.2.2; have e' : x = gt := e; omega)).trans HF2.out (fun _ _ e => .inr (.inr e))).trans HF3.out (fun _ _ e => .inr (.inl e)))
      have BEND := Lib.hid (B7.out.fr HF3.out HNE.out.2.1.symm)
      have MUEND := Lib.hid (HM2.out.fr HF3.out HNE.out.2.2.2.1.symm)
      go_wp2
      refine bodyPost_end (results_none rfl _ _ _) rfl ⟨rfl, HFIN.out _ _ _ BEND.out HM3.out MUEND.out ?_ ?_, FEND.out⟩
      · rw [if_pos HO.out]
      · rw [if_pos HO.out]
  · have HO : Hid (¬ opensK k = true) := Lib.hid (fun h => ho ((opens_of k).1 h))
    have T7 := T4
    have B7 := B4
    have K7 := K4
    have d2 : (k == 2) = false := by simp; omega
    have d7 : (k == 7) = false := by simp; omega
    have d12 : (k == 12) = false := by simp; omega
    have d17 : (k == 17) = false := by simp; omega
    clear ho CO T4 B4 K4
    by_cases h38 : k = 3 ∨ k = 8
    · have H38 := Lib.hid h38
      rcases h38 with hk | hk
      all_goals
        first | (have d3 : (k == 3) = true := by (rw [hk]; rfl)) | (have d3 : (k == 3) = false := by (rw [hk]; rfl))
        first | (have d8 : (k == 8) = true := by (rw [hk]; rfl)) | (have d8 : (k == 8) = false := by (rw [hk]; rfl))
        clear hk
        have HPO : Hid (∀ w', Fr (fun _ => False) w1 w' → ∃ w8, (Instr.mapUpdate 154 (.map (some bo)) (.int .i64 ((b.count : Int) + 1)) (.agg #[.int .i64 tk, .int .i64 ti, .int .i64 k])).run Tryz.prog w' = .ok () w8 ∧ MV w8 3 bo ((Do.del (.int .i64 r)).put (.int .i64 ((b.count : Int) + 1)) (.held (stV ⟨tk, ti, k⟩))) ∧ Fr (fun x => x = bo) w' w8) := Lib.hid (fun w' hf =>
          (HM1.out.fr hf (fun h => h)).update kInt tOpen HSZ.out.2.2 (I64.key ⟨by omega, by omega⟩) (val := stV ⟨tk, ti, k⟩))
        go_wp2_with fail
        clear k0 d2 d7 d12 d17 d3 d8
        refine wp_region_Z [12] ((fun w' => Fr (fun _ => False) w1 w')) (by kernel_rfl) ((Fr.refl _ _).drew) (fun hHeld => ?_)
        refine anyZ_pure (i := 0) (v := ?_) (some 55) rfl rfl (by kernel_rfl) (by kernel_rfl) (by kernel_rfl) (by kernel_rfl) (fun _ _ _ h => h) (Or.inl ⟨by rfl, ?_⟩) (fun _ => hHeld) ?_
        rotate_left
        · intro w' _
          go_simp
          first | done | with_reducible rfl
        try simp only [Go.Act.put, List.setIfInBounds_toArray, List.set_cons_zero, List.set_cons_succ]
        refine anyZ_pure (i := 1) (v := ?_) (some 56) rfl rfl (by kernel_rfl) (by kernel_rfl) (by kernel_rfl) (by kernel_rfl) (fun _ _ _ h => h) (Or.inl ⟨by rfl, ?_⟩) (fun _ => hHeld) ?_
        rotate_left
        · intro w' _
          go_simp
          first | done | with_reducible rfl
        try simp only [Go.Act.put, List.setIfInBounds_toArray, List.set_cons_zero, List.set_cons_succ]
        refine anyZ_pure (i := 2) (v := ?_) (some 57) rfl rfl (by kernel_rfl) (by kernel_rfl) (by kernel_rfl) (by kernel_rfl) (fun _ _ _ h => h) (Or.inl ⟨by rfl, ?_⟩) (fun _ => hHeld) ?_
        rotate_left
        · intro w' _
          go_simp
          first | done | with_reducible rfl
        try simp only [Go.Act.put, List.setIfInBounds_toArray, List.set_cons_zero, List.set_cons_succ]
        refine anyZ_read (i := 3) (v := ?_) (some 58) [12] rfl rfl (by kernel_rfl) (by kernel_rfl) (by kernel_rfl) (by kernel_rfl) (by kernel_rfl) (by kernel_rfl) (fun _ _ _ h => h) (Or.inl ⟨by rfl, ?_⟩) hHeld ?_
        rotate_left
        · intro w' hSw
          have b3 := (B7.out.fr hSw (fun h => h)).cell 3
          go_simp
          first | done | with_reducible rfl
        try simp only [Go.Act.put, List.setIfInBounds_toArray, List.set_cons_zero, List.set_cons_succ]
        refine anyZ_pure (i := 4) (v := ?_) (some 59) rfl rfl (by kernel_rfl) (by kernel_rfl) (by kernel_rfl) (by kernel_rfl) (fun _ _ _ h => h) (Or.inl ⟨by rfl, ?_⟩) (fun _ => hHeld) ?_
        rotate_left
        · intro w' _
          go_simp
          first | done | with_reducible rfl
        try simp only [Go.Act.put, List.setIfInBounds_toArray, List.set_cons_zero, List.set_cons_succ]
        refine anyZ_pure (i := 5) (v := ?_) (some 60) rfl rfl (by kernel_rfl) (by kernel_rfl) (by kernel_rfl) (by kernel_rfl) (fun _ _ _ h => h) (Or.inl ⟨by rfl, ?_⟩) (fun _ => hHeld) ?_
        rotate_left
        · intro w' _
          go_simp
          first | done | with_reducible rfl
        try simp only [Go.Act.put, List.setIfInBounds_toArray, List.set_cons_zero, List.set_cons_succ]
        refine anyZ_pure (i := 6) (v := ?_) (some 61) rfl rfl (by kernel_rfl) (by kernel_rfl) (by kernel_rfl) (by kernel_rfl) (fun _ _ _ h => h) (Or.inl ⟨by rfl, ?_⟩) (fun _ => hHeld) ?_
        rotate_left
        · intro w' _
          go_simp
          first | done | with_reducible rfl
        try simp only [Go.Act.put, List.setIfInBounds_toArray, List.set_cons_zero, List.set_cons_succ]
        refine anyZ_read (i := 7) (v := ?_) (some 62) [12] rfl rfl (by kernel_rfl) (by kernel_rfl) (by kernel_rfl) (by kernel_rfl) (by kernel_rfl) (by kernel_rfl) (fun _ _ _ h => h) (Or.inl ⟨by rfl, ?_⟩) hHeld ?_
        rotate_left
        · intro w' hSw
          have b0 := (B7.out.fr hSw (fun h => h)).cell 0
          go_simp
          first | done | with_reducible rfl
        try simp only [Go.Act.put, List.setIfInBounds_toArray, List.set_cons_zero, List.set_cons_succ]
        refine anyZ_read (i := 8) (v := ?_) (some 63) [11, 12] rfl rfl (by kernel_rfl) (by kernel_rfl) (by kernel_rfl) (by kernel_rfl) (by kernel_rfl) (by kernel_rfl) (fun _ _ _ h => h) (Or.inl ⟨by rfl, ?_⟩) hHeld ?_
        rotate_left
        · intro w' hSw
          have t0 := (T7.out.fr hSw (fun h => h)).cell 0; have t1 := (T7.out.fr hSw (fun h => h)).cell 1
          go_simp
          first | done | with_reducible rfl
        try simp only [Go.Act.put, List.setIfInBounds_toArray, List.set_cons_zero, List.set_cons_succ]
        refine anyZ_pure (i := 9) (v := ?_) (some 64) rfl rfl (by kernel_rfl) (by kernel_rfl) (by kernel_rfl) (by kernel_rfl) (fun _ _ _ h => h) (Or.inl ⟨by rfl, ?_⟩) (fun _ => hHeld) ?_
        rotate_left
        · intro w' _
          go_simp
          first | done | with_reducible rfl
        try simp only [Go.Act.put, List.setIfInBounds_toArray, List.set_cons_zero, List.set_cons_succ]
        refine anyZ_read (i := 10) (v := ?_) (some 65) [11, 12] rfl rfl (by kernel_rfl) (by kernel_rfl) (by kernel_rfl) (by kernel_rfl) (by kernel_rfl) (by kernel_rfl) (fun _ _ _ h => h) (Or.inl ⟨by rfl, ?_⟩) hHeld ?_
        rotate_left
        · intro w' hSw
          have k0 := (K7.out.fr hSw (fun h => h)).cell 0
          go_simp
          first | done | with_reducible rfl
        try simp only [Go.Act.put, List.setIfInBounds_toArray, List.set_cons_zero, List.set_cons_succ]
        refine anyZ_pure (i := 11) (v := ?_) (some 66) rfl rfl (by kernel_rfl) (by kernel_rfl) (by kernel_rfl) (by kernel_rfl) (fun _ _ _ h => h) (Or.inl ⟨by rfl, ?_⟩) (fun _ => hHeld) ?_
        rotate_left
        · intro w' _
          go_simp
          first | done | with_reducible rfl
        try simp only [Go.Act.put, List.setIfInBounds_toArray, List.set_cons_zero, List.set_cons_succ]
        refine anyZ_ready (rs := [12]) (by kernel_rfl) (by simp) ?_
        refine AllZ.last rfl (by kernel_rfl) (fun K hK => ?_) AllZ.nil
        obtain ⟨w3, hrun, hm3, hf3⟩ := HPO.out _ hHeld
        go_simp
        have HM3 := Lib.hid hm3
        have HF3 := Lib.hid ((hHeld.mono (T := fun k => k = bo) (fun _ _ h => h.elim)).trans hf3 (fun _ _ h => h))
        clear hm3 hf3 hrun
        refine hK.out _ _ ?_
        clear hK K
        try change anyZ _ _ _ _ _ _ _ _ (Go.Act.put _ none _) _
        try simp only [Go.Act.put, List.setIfInBounds_toArray, List.set_cons_zero, List.set_cons_succ]
        refine anyZ_done (by kernel_rfl) ?_ _

        clear HPO
        have FEND : Hid (Fr (BS g bo bu) w w3) := Lib.hid (F4.out.trans HF3.out (fun _ _ e => .inr (.inl e)))
        have BEND := Lib.hid (B7.out.fr HF3.out HNE.out.2.1.symm)
        have MUEND := Lib.hid (MU4.out.fr HF3.out HNE.out.2.2.2.1.symm)
        go_wp2
        refine bodyPost_end (results_none rfl _ _ _) rfl ⟨rfl, HFIN.out _ _ _ BEND.out HM3.out MUEND.out ?_ ?_, FEND.out⟩
        · rw [if_neg HO.out, if_pos H38.out]
        · rw [if_neg HO.out, if_pos H38.out]
    · have H38 := Lib.hid h38
      have d3 : (k == 3) = false := by simp; omega
      have d8 : (k == 8) = false := by simp; omega
      have HDU : Hid (∀ w', Fr (fun _ => False) w1 w' → ∃ w8, (Builtin.delete_ #[155, 211] 0 #[.map (some bu), .agg #[.int .i64 tk, .int .i64 ti]]).run Tryz.prog w' = .ok (.tuple #[]) w8 ∧ MV w8 211 bu (Du.del (th tk ti)) ∧ Fr (fun x => x = bu) w' w8) := Lib.hid (fun w' hf =>
        (MU4.out.fr hf (fun h => h)).delete kThg tUsed (th_of HI.out.2.2.1 HI.out.2.2.2.1) 0)
      clear h38
      go_wp2_with fail
      clear k0 d2 d7 d12 d17 d3 d8
      refine wp_region_Z [5] ((fun w' => Fr (fun _ => False) w1 w')) (by kernel_rfl) ((Fr.refl _ _).drew) (fun hHeld => ?_)
      refine anyZ_pure (i := 0) (v := ?_) (some 67) rfl rfl (by kernel_rfl) (by kernel_rfl) (by kernel_rfl) (by kernel_rfl) (fun _ _ _ h => h) (Or.inl ⟨by rfl, ?_⟩) (fun _ => hHeld) ?_
      rotate_left
      · intro w' _
        go_simp
        first | done | with_reducible rfl
      try simp only [Go.Act.put, List.setIfInBounds_toArray, List.set_cons_zero, List.set_cons_succ]
      refine anyZ_pure (i := 1) (v := ?_) (some 68) rfl rfl (by kernel_rfl) (by kernel_rfl) (by kernel_rfl) (by kernel_rfl) (fun _ _ _ h => h) (Or.inl ⟨by rfl, ?_⟩) (fun _ => hHeld) ?_
      rotate_left
      · intro w' _
        go_simp
        first | done | with_reducible rfl
      try simp only [Go.Act.put, List.setIfInBounds_toArray, List.set_cons_zero, List.set_cons_succ]
      refine anyZ_pure (i := 2) (v := ?_) (some 69) rfl rfl (by kernel_rfl) (by kernel_rfl) (by kernel_rfl) (by kernel_rfl) (fun _ _ _ h => h) (Or.inl ⟨by rfl, ?_⟩) (fun _ => hHeld) ?_
      rotate_left
      · intro w' _
        go_simp
        first | done | with_reducible rfl
      try simp only [Go.Act.put, List.setIfInBounds_toArray, List.set_cons_zero, List.set_cons_succ]
      refine anyZ_read (i := 3) (v := ?_) (some 70) [5] rfl rfl (by kernel_rfl) (by kernel_rfl) (by kernel_rfl) (by kernel_rfl) (by kernel_rfl) (by kernel_rfl) (fun _ _ _ h => h) (Or.inl ⟨by rfl, ?_⟩) hHeld ?_
      rotate_left
      · intro w' hSw
        have b4 := (B7.out.fr hSw (fun h => h)).cell 4
        go_simp
        first | done | with_reducible rfl
      try simp only [Go.Act.put, List.setIfInBounds_toArray, List.set_cons_zero, List.set_cons_succ]
      refine anyZ_read (i := 4) (v := ?_) (some 71) [5] rfl rfl (by kernel_rfl) (by kernel_rfl) (by kernel_rfl) (by kernel_rfl) (by kernel_rfl) (by kernel_rfl) (fun _ _ _ h => h) (Or.inl ⟨by rfl, ?_⟩) hHeld ?_
      rotate_left
      · intro w' hSw
        have t0 := (T7.out.fr hSw (fun h => h)).cell 0; have t1 := (T7.out.fr hSw (fun h => h)).cell 1
        go_simp
        first | done | with_reducible rfl
      try simp only [Go.Act.put, List.setIfInBounds_toArray, List.set_cons_zero, List.set_cons_succ]
      refine anyZ_ready (rs := [5]) (by kernel_rfl) (by simp) ?_
      refine AllZ.last rfl (by kernel_rfl) (fun K hK => ?_) AllZ.nil
      obtain ⟨w3, hrun, hm3, hf3⟩ := HDU.out _ hHeld
      go_simp
      have HM3 := Lib.hid hm3
      have HF3 := Lib.hid ((hHeld.mono (T := fun k => k = bu) (fun _ _ h => h.elim)).trans hf3 (fun _ _ h => h))
      clear hm3 hf3 hrun
      refine hK.out _ _ ?_
      clear hK K
      try change anyZ _ _ _ _ _ _ _ _ (Go.Act.put _ none _) _
      try simp only [Go.Act.put, List.setIfInBounds_toArray, List.set_cons_zero, List.set_cons_succ]
      refine anyZ_done (by kernel_rfl) ?_ _

      clear HDU
      have FEND : Hid (Fr (BS g bo bu) w w3) := Lib.hid (F4.out.trans HF3.out (fun _ _ e => .inr (.inr e)))
      have BEND := Lib.hid (B7.out.fr HF3.out HNE.out.2.2.1.symm)
      have MOEND := Lib.hid (HM1.out.fr HF3.out HNE.out.2.2.2.1)
      go_wp2
      refine bodyPost_end (results_none rfl _ _ _) rfl ⟨rfl, HFIN.out _ _ _ BEND.out MOEND.out HM3.out ?_ ?_, FEND.out⟩
      · rw [if_neg HO.out, if_neg H38.out]
      · rw [if_neg HO.out, if_neg H38.out]
end Go.Proofs.YtieoeoonopcjbaaGreatDoor

/- event: Check. -/
namespace Go.Proofs.YtieoeoonopcjbaaGreatDoor
open Go.RowKit Go.Maps

theorem wordW_zero : wordW 0 = ⟨#[]⟩ := rfl
theorem wordW_ne {c : Nat} (h : c ≠ 0) : (!(wordW c).toList.isEmpty) = true := by
  unfold wordW
  split
  · exact absurd rfl h
  all_goals first | kernel_rfl | simp [wTask, wId, ByteArray.toList, ByteArray.toList.loop] | decide +kernel
/-- What Check answers. -/
def BrkE (w w' : World) (v : Value) (r : Option (Nat × Nat)) : Prop := match r with
  | none => v = .nilIface
  | some (p, c) => ∃ g, v = .iface 69 (.pointer (some ⟨g, 0, none⟩)) ∧ Bk w' g 73 #[.int .i64 (p : Int), .string (wordW c), .iface 43 (.int .i64 8)] ∧ w.heap.size ≤ g
theorem BrkE.fr0 {w w' w2 : World} {v : Value} {r : Option (Nat × Nat)} (h : BrkE w w' v r) (hf : Fr (fun _ => False) w' w2) : BrkE w w2 v r := by
  unfold BrkE at h ⊢
  cases r with
  | none => exact h
  | some x =>
    obtain ⟨g, e, hb, hl⟩ := h
    exact ⟨g, e, hb.fr hf (fun h => h), hl⟩
def evs (ps : List VL) : List Ev := ps.map VL.e
/-- The book behind the first k events. -/
def bookK (ps : List VL) (k : Nat) : Bo := ((evs ps).take k).foldl Bo.add Bo.new
theorem bookK_zero (ps : List VL) : bookK ps 0 = Bo.new := by unfold bookK; simp
theorem bookK_succ {ps : List VL} {k : Nat} (h : k < ps.length) : bookK ps (k + 1) = (bookK ps k).add (ps.getD k default).e := by
  unfold bookK evs
  rw [List.take_add_one, List.getElem?_map, List.getElem?_eq_getElem h]
  simp [List.getD, h]
theorem count_add (b : Bo) (e : Ev) : (b.add e).count = b.count + 1 := rfl
theorem bookK_count (ps : List VL) : ∀ k, k ≤ ps.length → (bookK ps k).count = k
  | 0, _ => by rw [bookK_zero]; rfl
  | k + 1, h => by rw [bookK_succ (by omega), count_add, bookK_count ps k (by omega)]
theorem check_at {ps : List VL} {k : Nat} (h : k < ps.length) : (bookK ps k).check ((evs ps).drop k) = if (bookK ps k).misfit (ps.getD k default).e ≠ 0 then some (k + 1, (bookK ps k).misfit (ps.getD k default).e) else (bookK ps (k + 1)).check ((evs ps).drop (k + 1)) := by
  have hl : k < (evs ps).length := by unfold evs; simpa using h
  rw [List.drop_eq_getElem_cons hl]
  rw [Bo.check, bookK_count ps k (by omega)]
  have e : (evs ps)[k] = (ps.getD k default).e := by simp only [evs, List.getElem_map]; simp [List.getD, h]
  rw [e, bookK_succ h]

set_option maxRecDepth 100000 in
set_option maxHeartbeats 8000000 in
theorem check_any (A : Option Addr) (n c : Nat) (ps : List VL) (F : Nat → Prop) (w : World) (h : Vs w A n ps F) (hn : n ≤ 1048576) :
    Calls Tryz.prog 29 #[.slice A n c] w fun e w' => ∃ v, e = .returned v ∧ BrkE w w' v (Bo.new.check (evs ps)) ∧ Fr (fun _ => False) w w' := by
  have HN := Lib.hid (newBook_any w)
  obtain ⟨R, hR⟩ : ∃ R, Bo.new.check (evs ps) = R := ⟨_, rfl⟩
  rw [hR]
  have H0 : Hid ((bookK ps 0).check ((evs ps).drop 0) = R) := Lib.hid (by rw [bookK_zero]; simpa using hR)
  have HL := Lib.hid h.len
  have HVS := Lib.hid h
  have hnI : (n : Int) ≤ 1048576 := by omega
  clear hR h
  go_enter Tryz.func29, Tryz.ntmps29
  go_wp2_with fail
  refine HN.out.mono ?_; rintro e w1 ⟨g, bo, bu, rfl, hb1, hf1, hg1⟩
  have HB1 := Lib.hid hb1
  have HF1 := Lib.hid hf1
  have HG1 := Lib.hid hg1
  clear hb1 hf1 hg1 HN
  go_wp2_with fail
  go_loopw [10] (fun i wr => ∃ (k : Nat), i = .int .i64 (k : Int) ∧ k ≤ n ∧ Hid ((bookK ps k).check ((evs ps).drop k) = R ∧ Book wr g bo bu (bookK ps k) ∧ Fr (fun _ => False) w wr)) (fun i _ => n - (intOf i).toNat)
  case atStart => exact ⟨0, rfl, Nat.zero_le _, ⟨H0.out, by rw [bookK_zero]; exact HB1.out, HF1.out⟩⟩
  case round =>
    obtain ⟨k, rfl, hk, HK⟩ := hrel
    clear H0 HB1 HF1
    have hk0 : (0 : Int) ≤ (k : Int) := by omega
    by_cases hlt : k < n
    · have hlt' : (k : Int) < n := by omega
      have hkI : (k : Int) ≤ 1048576 := by omega
      obtain ⟨b, off, rfl, -, hcs, hrd⟩ := (HVS.out.fr0 HK.out.2.2).at hlt
      have hnx := check_at (ps := ps) (k := k) (by rw [HL.out]; exact hlt)
      have hsu := bookK_succ (ps := ps) (k := k) (by rw [HL.out]; exact hlt)
      have hct := bookK_count ps k (by rw [HL.out]; exact hk)
      generalize ps.getD k default = p at *
      have hrel := HK.out.1.symm.trans hnx
      have HBK := Lib.hid HK.out.2.1
      have HFK := Lib.hid HK.out.2.2
      have HOK := Lib.hid hrd.ok
      generalize bookK ps k = bk at *
      have CM := Lib.hid (fun w' (hf : Fr (fun _ => False) wr w') => misfit_any (HBK.out.fr0 hf) p hrd.ok)
      have CA := Lib.hid (fun w' (hf : Fr (fun _ => False) wr w') => add_any (HBK.out.fr0 hf) p hrd.ok (by omega))
      have HC0 : Hid (∀ w', Fr (fun _ => False) wr w' → w'.cell? ⟨g, 0, none⟩ = some (.int .i64 (k : Int))) := Lib.hid (fun w' hf => by
        obtain ⟨Do, Du, hb⟩ := HBK.out.fr0 hf
        have := hb.blk.cell 0
        rw [hct] at this
        exact this)
      have hv : p.val = .agg #[.int .i64 p.e.k, .int .i64 p.e.a, .int .i64 p.e.r, .int .i64 p.e.i, .int .i64 p.e.l, .int .i64 p.e.n, .slice p.A p.e.d.length p.c] := rfl
      rw [hv] at CM CA
      have q0 : wr.cell? ⟨b, off + k * 7, none⟩ = some (.int .i64 p.e.k) := hcs 0 _ rfl
      have q1 : wr.cell? ⟨b, off + k * 7 + 1, none⟩ = some (.int .i64 p.e.a) := hcs 1 _ rfl
      have q2 : wr.cell? ⟨b, off + k * 7 + 2, none⟩ = some (.int .i64 p.e.r) := hcs 2 _ rfl
      have q3 : wr.cell? ⟨b, off + k * 7 + 3, none⟩ = some (.int .i64 p.e.i) := hcs 3 _ rfl
      have q4 : wr.cell? ⟨b, off + k * 7 + 4, none⟩ = some (.int .i64 p.e.l) := hcs 4 _ rfl
      have q5 : wr.cell? ⟨b, off + k * 7 + 5, none⟩ = some (.int .i64 p.e.n) := hcs 5 _ rfl
      have q6 : wr.cell? ⟨b, off + k * 7 + 6, none⟩ = some (.slice p.A p.e.d.length p.c) := hcs 6 _ rfl
      have HSU := Lib.hid hsu
      have w1 : IntKind.i64.wrap ((k : Int) + 1) = (k : Int) + 1 := IntWalk.i64_in _ (by omega)
      have hbsz := World.block_lt_of_cell? wr _ q0
      clear hcs hrd hv hnx hsu hct HK
      obtain ⟨mf, hmf⟩ : ∃ mf, bk.misfit p.e = mf := ⟨_, rfl⟩
      rw [hmf] at CM hrel
      clear hmf
      obtain ⟨bn, hbn⟩ : ∃ bn, bk.add p.e = bn := ⟨_, rfl⟩
      rw [hbn] at CA HSU
      clear hbn
      generalize p.e.k = ek at *
      generalize p.e.a = ea at *
      generalize p.e.r = er at *
      generalize p.e.i = ei at *
      generalize p.e.l = el at *
      generalize p.e.n = en at *
      generalize p.e.d.length = ed at *
      generalize p.A = pA at *
      generalize p.c = pc at *
      obtain ⟨gw, hgw⟩ : ∃ gw, wr.heap.size = gw := ⟨_, rfl⟩
      obtain ⟨W, hW⟩ : ∃ W, wr.alloc (.cells #[.int .i64 ek, .int .i64 ea, .int .i64 er, .int .i64 ei, .int .i64 el, .int .i64 en, .slice pA ed pc] 68) = W := ⟨_, rfl⟩
      have FW : Hid (Fr (fun _ => False) wr W) := Lib.hid (by rw [← hW]; exact (Fr.refl _ _).alloc _)
      have KW : Hid (Bk W gw 68 #[.int .i64 ek, .int .i64 ea, .int .i64 er, .int .i64 ei, .int .i64 el, .int .i64 en, .slice pA ed pc]) := Lib.hid (by rw [← hW, ← hgw]; exact Bk.new _ _ _)
      have m0 : W.cell? ⟨gw, 0, none⟩ = some (.int .i64 ek) := KW.out.cell 0
      have m1 : W.cell? ⟨gw, 1, none⟩ = some (.int .i64 ea) := KW.out.cell 1
      have m2 : W.cell? ⟨gw, 2, none⟩ = some (.int .i64 er) := KW.out.cell 2
      have m3 : W.cell? ⟨gw, 3, none⟩ = some (.int .i64 ei) := KW.out.cell 3
      have m4 : W.cell? ⟨gw, 4, none⟩ = some (.int .i64 el) := KW.out.cell 4
      have m5 : W.cell? ⟨gw, 5, none⟩ = some (.int .i64 en) := KW.out.cell 5
      have m6 : W.cell? ⟨gw, 6, none⟩ = some (.slice pA ed pc) := KW.out.cell 6
      have HREL := Lib.hid hrel
      clear hrel
      go_wp2_with fail
      clear hW hgw q0 q1 q2 q3 q4 q5 q6 m0 m1 m2 m3 m4 m5 m6
      refine (CM.out _ FW.out).mono ?_; rintro e w2 ⟨rfl, hf2⟩
      have HF2 := Lib.hid (FW.out.trans hf2 (fun _ _ h => h))
      have HF2W := Lib.hid hf2
      clear hf2 CM
      by_cases hm : mf = 0
      · subst hm
        have hs0 : wordW 0 = ⟨#[]⟩ := rfl
        have hs1 : ((⟨#[]⟩ : ByteArray) != ⟨#[]⟩) = false := by decide
        rw [hs0]
        have K2 := KW.out.fr HF2W.out (fun h => h)
        have m0 : w2.cell? ⟨gw, 0, none⟩ = some (.int .i64 ek) := K2.cell 0
        have m1 : w2.cell? ⟨gw, 1, none⟩ = some (.int .i64 ea) := K2.cell 1
        have m2 : w2.cell? ⟨gw, 2, none⟩ = some (.int .i64 er) := K2.cell 2
        have m3 : w2.cell? ⟨gw, 3, none⟩ = some (.int .i64 ei) := K2.cell 3
        have m4 : w2.cell? ⟨gw, 4, none⟩ = some (.int .i64 el) := K2.cell 4
        have m5 : w2.cell? ⟨gw, 5, none⟩ = some (.int .i64 en) := K2.cell 5
        have m6 : w2.cell? ⟨gw, 6, none⟩ = some (.slice pA ed pc) := K2.cell 6
        clear K2
        go_wp2_with fail
        clear m0 m1 m2 m3 m4 m5 m6
        refine (CA.out _ HF2.out).mono ?_; rintro e w3 ⟨rfl, hb3, hf3⟩
        have HB3 := Lib.hid hb3
        have HF3 : Hid (Fr (fun _ => False) w w3) := Lib.hid ((HFK.out.trans HF2.out (fun _ _ h => h)).trans hf3 (fun x hx e => by
          rcases e with e | e | e
          · have := HG1.out x (.inl e); omega
          · have := HG1.out x (.inr (.inl e)); omega
          · have := HG1.out x (.inr (.inr e)); omega))
        clear hb3 hf3 CA
        go_wp2
        go_roundw
        case rel => exact ⟨k + 1, by first | rfl | (go_num; done) | (congr 1; omega), by omega, ⟨by rw [HREL.out]; simp, by rw [HSU.out]; exact HB3.out, HF3.out⟩⟩
        case measure => (simp [intOf]) <;> omega
      · obtain ⟨s, hs⟩ : ∃ s, wordW mf = s := ⟨_, rfl⟩
        have hs1 : (!s.toList.isEmpty) = true := by rw [← hs]; exact wordW_ne hm
        rw [hs]
        have HM := Lib.hid hm
        have HS := Lib.hid hs
        have c0 := HC0.out w2 HF2.out
        clear hs hm HC0 CA
        go_wp2
        go_ret
        refine ⟨_, rfl, ?_, (HFK.out.trans HF2.out (fun _ _ h => h)).trans ((Fr.refl (fun _ => False) _).alloc _) (fun _ _ h => h)⟩
        rw [HREL.out, if_pos HM.out]
        have hz := (HFK.out.trans HF2.out (fun _ _ h => h)).size
        exact ⟨w2.heap.size, rfl, by rw [HS.out]; exact Bk.new _ _ _, hz⟩
    · obtain rfl : k = n := by omega
      have hd : (evs ps).drop k = [] := by rw [← HL.out]; unfold evs; simp
      have hr := HK.out.1
      rw [hd] at hr
      have HR := Lib.hid hr
      have HF := Lib.hid HK.out.2.2
      clear hd hr HK hlt
      go_wp2
      go_ret
      refine ⟨_, rfl, ?_, HF.out⟩
      rw [← HR.out]; rfl
end Go.Proofs.YtieoeoonopcjbaaGreatDoor

/- errors.As, errors.Is at an event.Broken; its text. -/
namespace Go.Proofs.YtieoeoonopcjbaaGreatDoor
open Go.RowKit Go.Extern.Stop Go.Stop Go.Extern

theorem Tryz.abTypeOf (v : Value) (w : World) : (callFunc 105 #[.iface 69 v]).run Tryz.prog w = .ok (.value (.iface 217 (.agg #[.pointer (some ⟨6, 69, none⟩)]))) w := by kernel_rfl
theorem Tryz.abValueOfP (t : Addr) (w : World) : (callFunc 101 #[.iface 71 (.pointer (some t))]).run Tryz.prog w
    = .ok (.value (.agg #[.pointer (some ⟨6, 71, none⟩), .pointer (some ⟨w.heap.size, 0, none⟩), .int .u64 150])) (w.alloc (.cells #[.pointer (some t)] 71)) := by kernel_rfl
theorem Tryz.abTypeP (a : Addr) (w : World) : (callFunc 102 #[.agg #[.pointer (some ⟨6, 71, none⟩), .pointer (some a), .int .u64 150]]).run Tryz.prog w
    = .ok (.value (.iface 217 (.agg #[.pointer (some ⟨6, 71, none⟩)]))) w := by kernel_rfl
theorem Tryz.abKindP (w : World) : (callFunc 214 #[.pointer (some ⟨6, 71, none⟩)]).run Tryz.prog w = .ok (.value (.int .u8 22)) w := by kernel_rfl
theorem Tryz.abKindN (w : World) : (callFunc 214 #[.pointer (some ⟨6, 69, none⟩)]).run Tryz.prog w = .ok (.value (.int .u8 22)) w := by kernel_rfl
theorem Tryz.abElemP (w : World) : (callFunc 225 #[.agg #[.pointer (some ⟨6, 71, none⟩)]]).run Tryz.prog w = .ok (.value (.iface 217 (.agg #[.pointer (some ⟨6, 69, none⟩)]))) w := by kernel_rfl
theorem Tryz.abImplementsN (w : World) : (callFunc 226 #[.agg #[.pointer (some ⟨6, 69, none⟩)], .iface 217 (.agg #[.pointer (some ⟨6, 27, none⟩)])]).run Tryz.prog w = .ok (.value (.bool true)) w := by kernel_rfl
theorem Tryz.abAssignableN (w : World) : (callFunc 223 #[.agg #[.pointer (some ⟨6, 69, none⟩)], .iface 217 (.agg #[.pointer (some ⟨6, 69, none⟩)])]).run Tryz.prog w = .ok (.value (.bool true)) w := by kernel_rfl
theorem Tryz.abValueOfN (k : Addr) (w : World) : (callFunc 101 #[.iface 69 (.pointer (some k))]).run Tryz.prog w
    = .ok (.value (.agg #[.pointer (some ⟨6, 69, none⟩), .pointer (some ⟨w.heap.size, 0, none⟩), .int .u64 150])) (w.alloc (.cells #[.pointer (some k)] 69)) := by kernel_rfl

theorem Tryz.abPartsP (a : Addr) (w : World) : (ReflectliteValue.parts (.agg #[.pointer (some ⟨6, 71, none⟩), .pointer (some a), .int .u64 150])).run Tryz.prog w = .ok (some (71, a, 150)) w := by kernel_rfl
theorem Tryz.abPartsN (a : Addr) (w : World) : (ReflectliteValue.parts (.agg #[.pointer (some ⟨6, 69, none⟩), .pointer (some a), .int .u64 406])).run Tryz.prog w = .ok (some (69, a, 406)) w := by kernel_rfl
theorem Tryz.abPartsM (a : Addr) (w : World) : (ReflectliteValue.parts (.agg #[.pointer (some ⟨6, 69, none⟩), .pointer (some a), .int .u64 150])).run Tryz.prog w = .ok (some (69, a, 150)) w := by kernel_rfl
theorem Tryz.abElemOf (w : World) : (Rtype.elem? 71).run Tryz.prog w = .ok (some 69) w := by kernel_rfl
theorem Tryz.abMk (p : Addr) (w : World) : (ReflectliteValue.mk 69 p ReflectliteValue.flagAddr).run Tryz.prog w = .ok (.agg #[.pointer (some ⟨6, 69, none⟩), .pointer (some p), .int .u64 406]) w := by kernel_rfl
theorem Tryz.abDirect (w : World) : (Rtype.directlyAssignable 69 69).run Tryz.prog w = .ok true w := by kernel_rfl

theorem Tryz.abIsNil (a p : Addr) (W : World) (ha : W.cell? a = some (.pointer (some p))) :
    (callFunc 103 #[.agg #[.pointer (some ⟨6, 71, none⟩), .pointer (some a), .int .u64 150]]).run Tryz.prog W = .ok (.value (.bool false)) W := by
  rw [@run_callFunc_extern Tryz.prog 103 _ (ReflectliteValue.method (ReflectliteValue.valueError "reflectlite.Value.IsNil" 0) ReflectliteValue.isNil) Tryz.func103 (by kernel_rfl) (by kernel_rfl) (by kernel_rfl) (by kernel_rfl)]
  change (Sem.run _ (ReflectliteValue.parts (.agg #[.pointer (some ⟨6, 71, none⟩), .pointer (some a), .int .u64 150]) >>= _) _).andThen _ = _
  simp only [Sem.run_bind, Tryz.abPartsP, Result.andThen]
  simp [ReflectliteValue.isNil, loadVar, isAgg, underlying, Tryz.underlying71, ha, Result.andThen]
theorem Tryz.abElemV (a p : Addr) (W : World) (ha : W.cell? a = some (.pointer (some p))) :
    (callFunc 158 #[.agg #[.pointer (some ⟨6, 71, none⟩), .pointer (some a), .int .u64 150]]).run Tryz.prog W = .ok (.value (.agg #[.pointer (some ⟨6, 69, none⟩), .pointer (some p), .int .u64 406])) W := by
  rw [@run_callFunc_extern Tryz.prog 158 _ (ReflectliteValue.method (ReflectliteValue.valueError "reflectlite.Value.Elem" 0) ReflectliteValue.elem) Tryz.func158 (by kernel_rfl) (by kernel_rfl) (by kernel_rfl) (by kernel_rfl)]
  change (Sem.run _ (ReflectliteValue.parts (.agg #[.pointer (some ⟨6, 71, none⟩), .pointer (some a), .int .u64 150]) >>= _) _).andThen _ = _
  simp only [Sem.run_bind, Tryz.abPartsP, Result.andThen]
  simp [ReflectliteValue.elem, loadVar, isAgg, underlying, Tryz.underlying71, ha, Result.andThen, Tryz.abElemOf, Tryz.abMk]
theorem Tryz.abSet (ta b : Addr) (k : Addr) (old : Value) (W : World) (hb : W.cell? b = some (.pointer (some k))) (ht : W.cell? ta = some old) (hf : W.frozen? ta = false) :
    (callFunc 159 #[.agg #[.pointer (some ⟨6, 69, none⟩), .pointer (some ta), .int .u64 406], .agg #[.pointer (some ⟨6, 69, none⟩), .pointer (some b), .int .u64 150]]).run Tryz.prog W
      = .ok (.value (.tuple #[])) (W.setCell ta (.pointer (some k))) := by
  rw [@run_callFunc_extern Tryz.prog 159 _ ReflectliteValue.set Tryz.func159 (by kernel_rfl) (by kernel_rfl) (by kernel_rfl) (by kernel_rfl)]
  change (Sem.run _ (ReflectliteValue.parts (.agg #[.pointer (some ⟨6, 69, none⟩), .pointer (some ta), .int .u64 406]) >>= fun _ => ReflectliteValue.parts (.agg #[.pointer (some ⟨6, 69, none⟩), .pointer (some b), .int .u64 150]) >>= fun _ => _) _).andThen _ = _
  simp only [Sem.run_bind, Tryz.abPartsN, Tryz.abPartsM, Result.andThen]
  simp [ReflectliteValue.flagAddr, loadVar, isAgg, underlying, Tryz.underlying69, hb, Result.andThen, Tryz.abDirect, storeVar, Value.cells, storeCells, Addr.add]
  rw [run_store Tryz.prog W ta _ _ (by rfl)]
  simp [ht, hf]
set_option maxRecDepth 100000 in
set_option maxHeartbeats 4000000 in
theorem as_broken (t : Addr) (k : Addr) (old : Value) (w : World) (hg : w.cell? ⟨0, 0, none⟩ = some (.iface 217 (.agg #[.pointer (some ⟨6, 27, none⟩)]))) (ht0 : w.cell? t = some old) (hf0 : w.frozen? t = false) :
    Calls Tryz.prog 31 #[.iface 69 (.pointer (some k)), .iface 71 (.pointer (some t))] w fun ev w' => ev = .returned (.bool true) ∧ Fr (fun x => x = t.block) w w' ∧ w'.cell? t = some (.pointer (some k)) := by
  have tO := Tryz.abTypeOf
  have mA := Tryz.asMethodAssignable
  have a25 := Tryz.abAssignableN
  have v25 := Tryz.abValueOfN
  have f6 := Tryz.abValueOfP
  have f7 := Tryz.abTypeP
  have mK := Tryz.asMethodKind
  have mE := Tryz.asMethodElem
  have mI := Tryz.asMethodImplements
  have k27 := Tryz.abKindP
  have k25 := Tryz.abKindN
  have e27 := Tryz.abElemP
  have i25 := Tryz.abImplementsN
  have htl : t.block < w.heap.size := World.block_lt_of_cell? w _ ht0
  have hlt : 0 < w.heap.size := World.block_lt_of_cell? w _ hg
  have n8 := Tryz.abIsNil ⟨w.heap.size, 0, none⟩ t ((w.alloc (.cells #[.pointer (some t)] 71)).alloc (.cells #[.pointer (some ⟨6, 71, none⟩), .pointer (some ⟨w.heap.size, 0, none⟩), .int .u64 150] 164)) (by simp)
  have hg2 : ((w.alloc (.cells #[.pointer (some t)] 71)).alloc (.cells #[.pointer (some ⟨6, 71, none⟩), .pointer (some ⟨w.heap.size, 0, none⟩), .int .u64 150] 164)).cell? ⟨0, 0, none⟩ = some (.iface 217 (.agg #[.pointer (some ⟨6, 27, none⟩)])) := by
    rw [World.cell?_alloc_lt _ _ ⟨0, 0, none⟩ (by first | (simp; omega) | simp), World.cell?_alloc_lt _ _ ⟨0, 0, none⟩ hlt]; exact hg
  have el := Tryz.abElemV ⟨w.heap.size, 0, none⟩ t (((w.alloc (.cells #[.pointer (some t)] 71)).alloc (.cells #[.pointer (some ⟨6, 71, none⟩), .pointer (some ⟨w.heap.size, 0, none⟩), .int .u64 150] 164)).alloc (.cells #[.pointer (some ⟨6, 71, none⟩), .pointer (some ⟨w.heap.size, 0, none⟩), .int .u64 150] 164)) (by rw [World.cell?_alloc_lt _ _ ⟨w.heap.size, 0, none⟩ (by simp; omega)]; simp)
  have HW := Lib.hid (show ((((w.alloc (.cells #[.pointer (some t)] 71)).alloc (.cells #[.pointer (some ⟨6, 71, none⟩), .pointer (some ⟨w.heap.size, 0, none⟩), .int .u64 150] 164)).alloc (.cells #[.pointer (some ⟨6, 71, none⟩), .pointer (some ⟨w.heap.size, 0, none⟩), .int .u64 150] 164)).alloc (.cells #[.pointer (some k)] 69)).cell? t = some old by rw [World.cell?_alloc_lt _ _ t (by simp; omega), World.cell?_alloc_lt _ _ t (by simp; omega), World.cell?_alloc_lt _ _ t (by simp; omega), World.cell?_alloc_lt _ _ t htl]; exact ht0)
  have st := Tryz.abSet t ⟨w.heap.size + 1 + 1 + 1, 0, none⟩ k old ((((w.alloc (.cells #[.pointer (some t)] 71)).alloc (.cells #[.pointer (some ⟨6, 71, none⟩), .pointer (some ⟨w.heap.size, 0, none⟩), .int .u64 150] 164)).alloc (.cells #[.pointer (some ⟨6, 71, none⟩), .pointer (some ⟨w.heap.size, 0, none⟩), .int .u64 150] 164)).alloc (.cells #[.pointer (some k)] 69))
    (by rw [World.cell?_alloc_at _ _ _ _ (by simp)]; rfl)
    HW.out
    (by rw [World.frozen?_alloc_old _ _ t (by simp; omega), World.frozen?_alloc_old _ _ t (by simp; omega), World.frozen?_alloc_old _ _ t (by simp; omega), World.frozen?_alloc_old _ _ t (Nat.ne_of_lt htl)]; exact hf0)
  go_enter Tryz.func31, Tryz.ntmps31
  go_wp2
  refine wp_loop_rounds 1 ?_
  rw [rounds_succ]
  go_wp2
  go_ret
  refine ⟨rfl, Fr.setCell (((((Fr.refl (fun x => x = t.block) w).alloc _).alloc _).alloc _).alloc _) (fun _ => rfl) _, ?_⟩
  exact World.cell?_setCell_same _ _ _ HW.out

theorem Tryz.methodUnwrapB (v : Value) (w : World) : (Go.method (299 + 100) 69 v "Unwrap").run Tryz.prog w = .ok (217, v) w := by kernel_rfl
theorem Tryz.noIsB (v : Value) (xT : TypeId) (w : World) : (Instr.typeAssert (.iface 69 v) xT 228 true).run Tryz.prog w = .ok (.tuple #[.nilIface, .bool false]) w := run_typeAssert_lacksB Tryz.underlying228 (by kernel_rfl) (by kernel_rfl) v xT w
theorem Tryz.hasUnwrapB (v : Value) (xT : TypeId) (w : World) : (Instr.typeAssert (.iface 69 v) xT 224 true).run Tryz.prog w = .ok (.tuple #[.iface 69 v, .bool true]) w := run_typeAssert_hasB Tryz.underlying224 (by kernel_rfl) v xT w

set_option maxRecDepth 100000 in
set_option maxHeartbeats 2000000 in
theorem is_brk_same (b : Nat) (k t : Int) (hk : (k == t) = true) (w : World) (hc : w.cell? ⟨b, 2, none⟩ = some (.iface 43 (.int .i64 k))) :
    Calls Tryz.prog 32 #[.iface 69 (.pointer (some ⟨b, 0, none⟩)), .iface 43 (.int .i64 t)] w fun e w' => e = .returned (.bool true) ∧ w = w' := by
  obtain ⟨i, hi, hcmp⟩ := Option.map_eq_some_iff.1 Tryz.isCompN
  have tT := Tryz.isTypeOfN
  have cT := Tryz.isComparableN
  have mC := Tryz.isMethodComparable
  have mU := Tryz.methodUnwrapB
  have hty := run_eql_iface_types (P := Tryz.prog) 69 43 (.pointer (some ⟨b, 0, none⟩)) (.int .i64 t) Tryz.underlying27 (by decide) w
  have heq := run_eql_ints (P := Tryz.prog) w k t Tryz.underlying27 Tryz.underlying43 hi hcmp
  rw [hk] at heq
  clear hi hcmp hk
  have n1 := Tryz.noIsB
  have n2 := Tryz.hasUnwrapB
  have n3 := Tryz.noIsN
  have n4 := Tryz.noUnwrapN
  have n5 := Tryz.noUnwrapsN
  go_enter Tryz.func32, Tryz.ntmps32
  go_wp2
  refine wp_loop_rounds 2 ?_
  rw [rounds_succ]
  go_wp2
  rw [rounds_succ]
  go_wp2
  go_ret
  exact ⟨rfl, rfl⟩

set_option maxRecDepth 100000 in
set_option maxHeartbeats 2000000 in
theorem is_brk_other (b : Nat) (k t : Int) (hk : (k == t) = false) (w : World) (hc : w.cell? ⟨b, 2, none⟩ = some (.iface 43 (.int .i64 k))) :
    Calls Tryz.prog 32 #[.iface 69 (.pointer (some ⟨b, 0, none⟩)), .iface 43 (.int .i64 t)] w fun e w' => e = .returned (.bool false) ∧ w = w' := by
  obtain ⟨i, hi, hcmp⟩ := Option.map_eq_some_iff.1 Tryz.isCompN
  have tT := Tryz.isTypeOfN
  have cT := Tryz.isComparableN
  have mC := Tryz.isMethodComparable
  have mU := Tryz.methodUnwrapB
  have hty := run_eql_iface_types (P := Tryz.prog) 69 43 (.pointer (some ⟨b, 0, none⟩)) (.int .i64 t) Tryz.underlying27 (by decide) w
  have heq := run_eql_ints (P := Tryz.prog) w k t Tryz.underlying27 Tryz.underlying43 hi hcmp
  rw [hk] at heq
  clear hi hcmp hk
  have n1 := Tryz.noIsB
  have n2 := Tryz.hasUnwrapB
  have n3 := Tryz.noIsN
  have n4 := Tryz.noUnwrapN
  have n5 := Tryz.noUnwrapsN
  go_enter Tryz.func32, Tryz.ntmps32
  go_wp2
  refine wp_loop_rounds 2 ?_
  rw [rounds_succ]
  go_wp2
  rw [rounds_succ]
  go_wp2
  go_ret
  exact ⟨rfl, rfl⟩


theorem is_brk_any (g : Nat) (k t : Int) (w : World) (hc : w.cell? ⟨g, 2, none⟩ = some (.iface 43 (.int .i64 k))) :
    Calls Tryz.prog 32 #[.iface 69 (.pointer (some ⟨g, 0, none⟩)), .iface 43 (.int .i64 t)] w fun e w' => e = .returned (.bool (k == t)) ∧ w = w' := by
  cases hq : (k == t) with
  | true => exact is_brk_same g k t hq w hc
  | false => exact is_brk_other g k t hq w hc

end Go.Proofs.YtieoeoonopcjbaaGreatDoor

/- Contracts of the library's, laid over this program: strconv_Itoa_small, strconv_Itoa. -/
namespace Go.Proofs
open Go.Shelf
def Tryz.laysM171_ren : Go.Shelf.Ren := ⟨fun | 171 => 107 | 243 => 160 | 246 => 179 | 283 => 188 | 284 => 189 | 285 => 190 | 286 => 191 | 129 => 194 | 317 => 193 | 318 => 195 | 319 => 196 | 320 => 197 | 337 => 198 | 338 => 199 | n => n, fun | 3 => 3 | 9 => 9 | 2 => 2 | 4 => 4 | 171 => 257 | 0 => 0 | 53 => 184 | 37 => 23 | 5 => 5 | 173 => 260 | 212 => 265 | 51 => 266 | 20 => 20 | 213 => 267 | 46 => 186 | 232 => 270 | 233 => 271 | n => n, fun | 17 => 3 | 18 => 4 | 19 => 5 | n => n⟩
theorem Tryz.laysM171 : Go.Proofs.LaysM.n171 Tryz.prog Tryz.laysM171_ren := {
  mixed := by kernel_rfl
  f129 := Tryz.func194.trans (congrArg some (by kernel_rfl))
  f171 := Tryz.func107.trans (congrArg some (by kernel_rfl))
  f243 := Tryz.func160.trans (congrArg some (by kernel_rfl))
  f246 := Tryz.func179.trans (congrArg some (by kernel_rfl))
  f283 := Tryz.func188.trans (congrArg some (by kernel_rfl))
  f284 := Tryz.func189.trans (congrArg some (by kernel_rfl))
  f285 := Tryz.func190.trans (congrArg some (by kernel_rfl))
  f286 := Tryz.func191.trans (congrArg some (by kernel_rfl))
  f317 := Tryz.func193.trans (congrArg some (by kernel_rfl))
  f318 := Tryz.func195.trans (congrArg some (by kernel_rfl))
  f319 := Tryz.func196.trans (congrArg some (by kernel_rfl))
  f320 := Tryz.func197.trans (congrArg some (by kernel_rfl))
  f337 := Tryz.func198.trans (congrArg some (by kernel_rfl))
  f338 := Tryz.func199.trans (congrArg some (by kernel_rfl))
  t0 := Tryz.underlying0
  a0 := Tryz.isAgg0
  z0 := Tryz.sizeOf0
  v0 := Tryz.zeroValue0
  t2 := Tryz.underlying2
  a2 := Tryz.isAgg2
  z2 := Tryz.sizeOf2
  v2 := Tryz.zeroValue2
  t3 := Tryz.underlying3
  a3 := Tryz.isAgg3
  z3 := Tryz.sizeOf3
  v3 := Tryz.zeroValue3
  t4 := Tryz.underlying4
  a4 := Tryz.isAgg4
  z4 := Tryz.sizeOf4
  v4 := Tryz.zeroValue4
  t5 := Tryz.underlying5
  a5 := Tryz.isAgg5
  z5 := Tryz.sizeOf5
  v5 := Tryz.zeroValue5
  t9 := Tryz.underlying9
  a9 := Tryz.isAgg9
  z9 := Tryz.sizeOf9
  v9 := Tryz.zeroValue9
  t20 := Tryz.underlying20
  a20 := Tryz.isAgg20
  z20 := Tryz.sizeOf20
  v20 := Tryz.zeroValue20
  t37 := Tryz.underlying23
  a37 := Tryz.isAgg23
  z37 := Tryz.sizeOf23
  v37 := Tryz.zeroValue23
  t46 := Tryz.underlying186
  a46 := Tryz.isAgg186
  z46 := Tryz.sizeOf186
  v46 := Tryz.zeroValue186
  t51 := Tryz.underlying266
  a51 := Tryz.isAgg266
  z51 := Tryz.sizeOf266
  v51 := Tryz.zeroValue266
  t53 := Tryz.underlying184
  a53 := Tryz.isAgg184
  z53 := Tryz.sizeOf184
  v53 := Tryz.zeroValue184
  t171 := Tryz.underlying257
  a171 := Tryz.isAgg257
  z171 := Tryz.sizeOf257
  v171 := Tryz.zeroValue257
  t173 := Tryz.underlying260
  a173 := Tryz.isAgg260
  z173 := Tryz.sizeOf260
  v173 := Tryz.zeroValue260
  t212 := Tryz.underlying265
  a212 := Tryz.isAgg265
  z212 := Tryz.sizeOf265
  v212 := Tryz.zeroValue265
  t213 := Tryz.underlying267
  a213 := Tryz.isAgg267
  z213 := Tryz.sizeOf267
  t232 := Tryz.underlying270
  a232 := Tryz.isAgg270
  z232 := Tryz.sizeOf270
  v232 := Tryz.zeroValue270
  t233 := Tryz.underlying271
  a233 := Tryz.isAgg271
  z233 := Tryz.sizeOf271
  v233 := Tryz.zeroValue271
  g17 := by kernel_rfl
  g18 := by kernel_rfl
  g19 := by kernel_rfl
  i0 := by kernel_rfl
  i2 := by kernel_rfl
  i3 := by kernel_rfl
  i4 := by kernel_rfl
  i5 := by kernel_rfl
  i9 := by kernel_rfl
  i20 := by kernel_rfl
  i37 := by kernel_rfl
  i46 := by kernel_rfl
  i51 := by kernel_rfl
  i53 := by kernel_rfl
  i171 := by kernel_rfl
  i173 := by kernel_rfl
  i212 := by kernel_rfl
  i232 := by kernel_rfl
  i233 := by kernel_rfl
  m17 := by kernel_rfl
  m18 := by kernel_rfl
  m19 := by kernel_rfl }
open Go.RowKit Go.Sort Go.Lib in
/-- strconv.Itoa: "Itoa is equivalent to FormatInt(int64(i), 10).": i's DECIMAL NUMERAL ('Lib.itoa': a '-' where i is negative, then the digits), FOR EVERY int. The world behind the call: the world before it, new blocks behind the heap (the library's 'var a [24]byte'), draws. (LAID: no walk: one application.) -/
theorem Tryz.strconv_Itoa (n : Int) (h0 : -9223372036854775808 ≤ n) (h1 : n ≤ 9223372036854775807) (w : World) (htab : Lib.TabIs Tryz.prog w "internal/strconv.uint64pow10" .u64 Lib.pow10Tab) :
    Calls Tryz.prog 107 #[.int .i64 n] w fun e w' => e = .returned (.string ⟨(Lib.itoa n).toArray⟩) ∧ ∃ k os, w' = grow (w.drewN k) os := Any.strconv_Itoa Tryz.laysM171 n h0 h1 w htab
def Tryz.lays171_ren : Go.Shelf.Ren := ⟨fun | 171 => 107 | 243 => 160 | 246 => 179 | 283 => 188 | 284 => 189 | 285 => 190 | 286 => 191 | 129 => 194 | 317 => 193 | 318 => 195 | 319 => 196 | 320 => 197 | 337 => 198 | 338 => 199 | n => n, fun | 3 => 3 | 9 => 9 | 2 => 2 | 4 => 4 | 171 => 257 | 0 => 0 | 53 => 184 | 37 => 23 | 5 => 5 | 173 => 260 | 212 => 265 | 51 => 266 | 20 => 20 | 213 => 267 | 46 => 186 | 232 => 270 | 233 => 271 | n => n, fun | 17 => 3 | 18 => 4 | 19 => 5 | n => n⟩
theorem Tryz.lays171 : Go.Proofs.Lays.n171 Tryz.prog Tryz.lays171_ren := {
  mixed := by kernel_rfl
  f129 := Tryz.func194.trans (congrArg some (by kernel_rfl))
  f171 := Tryz.func107.trans (congrArg some (by kernel_rfl))
  f243 := Tryz.func160.trans (congrArg some (by kernel_rfl))
  f246 := Tryz.func179.trans (congrArg some (by kernel_rfl))
  f283 := Tryz.func188.trans (congrArg some (by kernel_rfl))
  f284 := Tryz.func189.trans (congrArg some (by kernel_rfl))
  f285 := Tryz.func190.trans (congrArg some (by kernel_rfl))
  f286 := Tryz.func191.trans (congrArg some (by kernel_rfl))
  f317 := Tryz.func193.trans (congrArg some (by kernel_rfl))
  f318 := Tryz.func195.trans (congrArg some (by kernel_rfl))
  f319 := Tryz.func196.trans (congrArg some (by kernel_rfl))
  f320 := Tryz.func197.trans (congrArg some (by kernel_rfl))
  f337 := Tryz.func198.trans (congrArg some (by kernel_rfl))
  f338 := Tryz.func199.trans (congrArg some (by kernel_rfl))
  t0 := Tryz.underlying0
  a0 := Tryz.isAgg0
  z0 := Tryz.sizeOf0
  v0 := Tryz.zeroValue0
  t2 := Tryz.underlying2
  a2 := Tryz.isAgg2
  z2 := Tryz.sizeOf2
  v2 := Tryz.zeroValue2
  t3 := Tryz.underlying3
  a3 := Tryz.isAgg3
  z3 := Tryz.sizeOf3
  v3 := Tryz.zeroValue3
  t4 := Tryz.underlying4
  a4 := Tryz.isAgg4
  z4 := Tryz.sizeOf4
  v4 := Tryz.zeroValue4
  t5 := Tryz.underlying5
  a5 := Tryz.isAgg5
  z5 := Tryz.sizeOf5
  v5 := Tryz.zeroValue5
  t9 := Tryz.underlying9
  a9 := Tryz.isAgg9
  z9 := Tryz.sizeOf9
  v9 := Tryz.zeroValue9
  t20 := Tryz.underlying20
  a20 := Tryz.isAgg20
  z20 := Tryz.sizeOf20
  v20 := Tryz.zeroValue20
  t37 := Tryz.underlying23
  a37 := Tryz.isAgg23
  z37 := Tryz.sizeOf23
  v37 := Tryz.zeroValue23
  t46 := Tryz.underlying186
  a46 := Tryz.isAgg186
  z46 := Tryz.sizeOf186
  v46 := Tryz.zeroValue186
  t51 := Tryz.underlying266
  a51 := Tryz.isAgg266
  z51 := Tryz.sizeOf266
  v51 := Tryz.zeroValue266
  t53 := Tryz.underlying184
  a53 := Tryz.isAgg184
  z53 := Tryz.sizeOf184
  v53 := Tryz.zeroValue184
  t171 := Tryz.underlying257
  a171 := Tryz.isAgg257
  z171 := Tryz.sizeOf257
  v171 := Tryz.zeroValue257
  t173 := Tryz.underlying260
  a173 := Tryz.isAgg260
  z173 := Tryz.sizeOf260
  v173 := Tryz.zeroValue260
  t212 := Tryz.underlying265
  a212 := Tryz.isAgg265
  z212 := Tryz.sizeOf265
  v212 := Tryz.zeroValue265
  t213 := Tryz.underlying267
  a213 := Tryz.isAgg267
  z213 := Tryz.sizeOf267
  t232 := Tryz.underlying270
  a232 := Tryz.isAgg270
  z232 := Tryz.sizeOf270
  v232 := Tryz.zeroValue270
  t233 := Tryz.underlying271
  a233 := Tryz.isAgg271
  z233 := Tryz.sizeOf271
  v233 := Tryz.zeroValue271
  g17 := by kernel_rfl
  g18 := by kernel_rfl
  g19 := by kernel_rfl }
open Go.RowKit Go.Sort Go.Lib in
/-- THE ROAD WITHOUT THE TABLE: 0 <= i < 100: NO PREMISE ON THE WORLD, AND THE WORLD IS AS IT WAS: a row that keeps its argument in that range need list no table ('laid = []'). (LAID: no walk: one application.) -/
theorem Tryz.strconv_Itoa_small (i : Nat) (hi : i < 100) (w : World) :
    Calls Tryz.prog 107 #[.int .i64 i] w fun e w' => e = .returned (.string ⟨(Lib.decDigits i).toArray⟩) ∧ w' = w := Any.strconv_Itoa_small Tryz.lays171 i hi w
end Go.Proofs

/- event: Name, a Broken's text, Status. -/
namespace Go.Proofs.YtieoeoonopcjbaaGreatDoor
open Go.RowKit Go.Maps Go.Extern.Stop Go.Stop Go.Extern

def nameTab : List ByteArray := [⟨#[]⟩, ⟨#[115, 116, 97, 114, 116, 101, 100]⟩, ⟨#[115, 99, 104, 101, 100, 117, 108, 101, 100]⟩, ⟨#[100, 101, 99, 105, 100, 101, 115]⟩, ⟨#[100, 101, 99, 105, 100, 101, 100]⟩, ⟨#[109, 105, 115, 115, 101, 100]⟩, ⟨#[102, 97, 117, 108, 116, 121]⟩, ⟨#[97, 99, 116, 105, 118, 105, 116, 121]⟩, ⟨#[119, 111, 114, 107, 115]⟩, ⟨#[119, 111, 114, 107, 101, 100]⟩, ⟨#[98, 114, 111, 107, 101]⟩, ⟨#[108, 97, 112, 115, 101, 100]⟩, ⟨#[116, 105, 109, 101, 114]⟩, ⟨#[102, 105, 114, 101, 100]⟩, ⟨#[117, 110, 115, 101, 116]⟩, ⟨#[115, 105, 103, 110, 97, 108]⟩, ⟨#[99, 97, 110, 99, 101, 108]⟩, ⟨#[99, 104, 105, 108, 100]⟩, ⟨#[99, 104, 105, 108, 100, 101, 110, 100, 115]⟩, ⟨#[99, 111, 110, 116, 105, 110, 117, 101, 100]⟩, ⟨#[99, 111, 109, 112, 108, 101, 116, 101, 100]⟩, ⟨#[102, 97, 105, 108, 101, 100]⟩, ⟨#[99, 97, 110, 99, 101, 108, 101, 100]⟩, ⟨#[116, 101, 114, 109, 105, 110, 97, 116, 101, 100]⟩]
/-- What the variable names holds. -/
def NamT (w : World) : Prop := ∀ j, j < 24 → w.cell? ⟨1, j, none⟩ = some (.string (nameTab.getD j ⟨#[]⟩))
theorem NamT.fr {S : Nat → Prop} {w w' : World} (h : NamT w) (hf : Fr S w w') (hS : ¬ S 1) : NamT w' := fun j hj => by
  have h0 := h j hj
  rw [← h0]
  exact hf.cell (p := ⟨1, j, none⟩) (World.block_lt_of_cell? w _ h0) hS
def nameOf (k : Int) : ByteArray := if isKindB k = true then nameTab.getD k.toNat ⟨#[]⟩ else ⟨#[]⟩

set_option maxRecDepth 100000 in
theorem name_any (k : Int) (w : World) (hT : NamT w) : Calls Tryz.prog 34 #[.int .i64 k] w fun e w' => e = .returned (.string (nameOf k)) ∧ w = w' := by
  have CK := Lib.hid (isKind_any k)
  unfold nameOf
  by_cases hk : isKindB k = true
  · rw [if_pos hk]
    rw [hk] at CK
    have hr : 1 ≤ k ∧ k ≤ 23 := by unfold isKindB at hk; simp at hk; exact hk
    obtain ⟨j, rfl⟩ : ∃ j : Nat, k = (j : Int) := ⟨k.toNat, by omega⟩
    have c0 := hT j (by omega)
    have hj0 : (0 : Int) ≤ (j : Int) := by omega
    have hj1 : (j : Int) < 24 := by omega
    rw [Int.toNat_natCast]
    generalize nameTab.getD j ⟨#[]⟩ = s at *
    clear hk hT
    go_enter Tryz.func34, Tryz.ntmps34
    go_wp2_with fail
    refine (CK.out _).mono ?_; rintro e w1 ⟨rfl, rfl⟩
    go_wp2
    go_ret
    exact ⟨rfl, rfl⟩
  · rw [if_neg hk]
    have hk2 : isKindB k = false := by simpa using hk
    rw [hk2] at CK
    clear hk hk2 hT
    go_enter Tryz.func34, Tryz.ntmps34
    go_wp2_with fail
    refine (CK.out _).mono ?_; rintro e w1 ⟨rfl, rfl⟩
    go_wp2
    go_ret
    exact ⟨rfl, rfl⟩

def statusK (k : Int) : Int := if k = 19 then 6 else if k = 20 then 2 else if k = 21 then 3 else if k = 22 then 4 else if k = 23 then 5 else 1
set_option maxRecDepth 100000 in
set_option maxHeartbeats 2000000 in
theorem statusBehind_any (k : Int) (w : World) : Calls Tryz.prog 109 #[.int .i64 k] w fun e w' => e = .returned (.int .i64 (statusK k)) ∧ w = w' := by
  by_cases h1 : k = 19
  · subst h1
    go_enter Tryz.func109, Tryz.ntmps109
    go_wp2
    go_ret
    exact ⟨rfl, rfl⟩
  by_cases h2 : k = 20
  · subst h2
    go_enter Tryz.func109, Tryz.ntmps109
    go_wp2
    go_ret
    exact ⟨rfl, rfl⟩
  by_cases h3 : k = 21
  · subst h3
    go_enter Tryz.func109, Tryz.ntmps109
    go_wp2
    go_ret
    exact ⟨rfl, rfl⟩
  by_cases h4 : k = 22
  · subst h4
    go_enter Tryz.func109, Tryz.ntmps109
    go_wp2
    go_ret
    exact ⟨rfl, rfl⟩
  by_cases h5 : k = 23
  · subst h5
    go_enter Tryz.func109, Tryz.ntmps109
    go_wp2
    go_ret
    exact ⟨rfl, rfl⟩
  have e1 : (k == 19) = false := by simp [h1]
  have e2 : (k == 20) = false := by simp [h2]
  have e3 : (k == 21) = false := by simp [h3]
  have e4 : (k == 22) = false := by simp [h4]
  have e5 : (k == 23) = false := by simp [h5]
  have hs : statusK k = 1 := by unfold statusK; rw [if_neg h1, if_neg h2, if_neg h3, if_neg h4, if_neg h5]
  rw [hs]
  clear h1 h2 h3 h4 h5 hs
  go_enter Tryz.func109, Tryz.ntmps109
  go_wp2
  go_ret
  exact ⟨rfl, rfl⟩
/-- What Status tells of events. -/
def statusL (l : List Ev) : Int := match l.getLast? with
  | none => 0
  | some e => statusK e.k
theorem last_get {ps : List VL} {n : Nat} (h : ps.length = n + 1) : (evs ps).getLast? = some (ps.getD n default).e := by
  unfold evs
  rw [List.getLast?_map, List.getLast?_eq_getElem?, h]
  simp [List.getD, h]
set_option maxRecDepth 100000 in
set_option maxHeartbeats 2000000 in
theorem status_any (A : Option Addr) (n c : Nat) (ps : List VL) (F : Nat → Prop) (w : World) (h : Vs w A n ps F) (hn : n ≤ 1048576) :
    Calls Tryz.prog 35 #[.slice A n c] w fun e w' => e = .returned (.int .i64 (statusL (evs ps))) ∧ w = w' := by
  unfold statusL
  cases n with
  | zero =>
    have hp : ps = [] := List.eq_nil_of_length_eq_zero h.len
    subst hp
    clear h
    go_enter Tryz.func35, Tryz.ntmps35
    go_wp2
    go_ret
    exact ⟨rfl, rfl⟩
  | succ m =>
    rw [last_get h.len]
    simp only
    obtain ⟨b, off, rfl, -, hcs, -⟩ := h.at (i := m) (by omega)
    have q0 : w.cell? ⟨b, off + m * 7, none⟩ = some (.int .i64 (ps.getD m default).e.k) := hcs 0 _ rfl
    have CS := Lib.hid (statusBehind_any (ps.getD m default).e.k)
    generalize (ps.getD m default).e.k = k at *
    have w1 : IntKind.i64.wrap (((m + 1 : Nat) : Int) - 1) = (m : Int) := by rw [IntWalk.i64_in _ (by omega)]; omega
    have d1 : (((m + 1 : Nat) : Int) == 0) = false := by simp; omega
    have hm0 : (0 : Int) ≤ (m : Int) := by omega
    have hm1 : (m : Int) < ((m + 1 : Nat) : Int) := by omega
    clear h hcs
    go_enter Tryz.func35, Tryz.ntmps35
    go_wp2_with fail
    refine (CS.out _).mono ?_; rintro e w1 ⟨rfl, rfl⟩
    go_wp2
    go_ret
    exact ⟨rfl, rfl⟩

def sEvent : ByteArray := ⟨#[101, 118, 101, 110, 116, 32]⟩
def sColon : ByteArray := ⟨#[58, 32]⟩
def decB (i : Nat) : ByteArray := ⟨(Lib.decDigits i).toArray⟩
def brkText (i : Nat) (s : ByteArray) : ByteArray := sEvent ++ decB i ++ sColon ++ s
theorem decB_size {i : Nat} (h : i < 100) : (decB i).size ≤ 2 := by
  have : ∀ i, i < 100 → (decB i).size ≤ 2 := by decide +kernel
  exact this i h
set_option maxRecDepth 100000 in
set_option maxHeartbeats 2000000 in
theorem brkError_any (g i : Nat) (s : ByteArray) (w : World) (hi : i < 100) (hs : s.size ≤ 100) (c0 : w.cell? ⟨g, 0, none⟩ = some (.int .i64 (i : Int))) (c1 : w.cell? ⟨g, 1, none⟩ = some (.string s)) :
    Calls Tryz.prog 33 #[.pointer (some ⟨g, 0, none⟩)] w fun e w' => e = .returned (.string (brkText i s)) ∧ Fr (fun _ => False) w w' := by
  have CI := Lib.hid (fun n => Tryz.strconv_Itoa_small i hi (w.drewN n))
  have HT : Hid (brkText i s = sEvent ++ decB i ++ sColon ++ s) := Lib.hid rfl
  have z1 := decB_size hi
  unfold decB at *
  generalize brkText i s = txt at *
  generalize (⟨(Lib.decDigits i).toArray⟩ : ByteArray) = t1 at *
  unfold sEvent sColon at *
  have s1 : ¬ 9223372036854775807 < 6 + t1.size := by omega
  have s2 : ¬ 9223372036854775807 < 6 + t1.size + 2 := by omega
  have s3 : ¬ 9223372036854775807 < 6 + t1.size + 2 + s.size := by omega
  clear hi
  go_enter Tryz.func33, Tryz.ntmps33
  go_wp2_with fail
  go_quiet (first
    | (go_at_call 107; exact Calls.quiet_of_same ((CI.out _).mono fun _ _ ⟨h1, h2⟩ => ⟨h1, h2⟩)))
  go_wp2
  go_ret
  exact ⟨by rw [HT.out]; rfl, (Fr.refl _ _).drewN _⟩
end Go.Proofs.YtieoeoonopcjbaaGreatDoor

/- event's law: known, Few. -/
namespace Go.Proofs.YtieoeoonopcjbaaGreatDoor
open Go.RowKit Go.Maps Go.Extern.Stop Go.Stop Go.Extern

/-- New events without bytes. -/
theorem vs_new (w : World) (ps : List VL) (h : ∀ p ∈ ps, p.e.d = [] ∧ p.ok) : Vs (w.alloc (.cells (vlc ps).toArray 68)) (some ⟨w.heap.size, 0, none⟩) ps.length ps (fun k => k = w.heap.size) := by
  have hb := Bk.new w 68 (vlc ps).toArray
  refine ⟨rfl, fun _ => ⟨_, 0, rfl, rfl, fun j x hx => ?_⟩, fun p hp => ?_⟩
  · rw [Nat.zero_add, hb.cell]
    simpa using hx
  · obtain ⟨h1, h2⟩ := h p hp
    exact ⟨by rw [h1]; exact Rd8.nil _ _, h2, fun ad _ h0 => by rw [h1] at h0; simp at h0⟩
def V0 (k r : Int) : VL := ⟨⟨k, 0, r, 0, 0, 0, []⟩, none, 0⟩
def kev : List VL := [V0 1 0, V0 2 0, V0 3 2, V0 4 3, V0 4 3]
theorem V0_ok {k r : Int} (hk : 0 ≤ k ∧ k ≤ 30) (hr : 0 ≤ r ∧ r ≤ 30) : (V0 k r).ok :=
  have z : N64 0 := ⟨by decide, by decide⟩
  { k := ⟨by show _ ≤ k; omega, by show k ≤ _; omega⟩, a := z, r := ⟨by show _ ≤ r; omega, by show r ≤ _; omega⟩, i := z, l := z, n := z, d := by show 0 ≤ _; omega }
theorem kev_ok : ∀ p ∈ kev, p.e.d = [] ∧ p.ok := by
  intro p hp
  simp only [kev, List.mem_cons, List.not_mem_nil, or_false] at hp
  rcases hp with rfl | rfl | rfl | rfl | rfl <;> exact ⟨rfl, V0_ok (by omega) (by omega)⟩
theorem kev_check : Bo.new.check (evs kev) = some (5, 5) := by kernel_rfl
theorem kev_check4 : Bo.new.check (evs (kev.take 4)) = none := by kernel_rfl
theorem kev_status : statusL (evs (kev.take 4)) = 1 := by kernel_rfl
theorem kev_text : brkText 5 (wordW 5) = ⟨#[101, 118, 101, 110, 116, 32, 53, 58, 32, 114, 101, 102]⟩ := by kernel_rfl

set_option maxRecDepth 100000 in
set_option maxHeartbeats 8000000 in
theorem known_any (w : World) (hE : ErrT w) (hT : NamT w) :
    Calls Tryz.prog 6 #[] w fun e w' => e = .returned (.bool true) ∧ Fr (fun _ => False) w w' := by
  obtain ⟨g0, hg0⟩ : ∃ g0, w.heap.size = g0 := ⟨_, rfl⟩
  obtain ⟨W, hW⟩ : ∃ W, w.alloc (.cells #[.int .i64 1, .int .i64 0, .int .i64 0, .int .i64 0, .int .i64 0, .int .i64 0, .slice none 0 0,
    .int .i64 2, .int .i64 0, .int .i64 0, .int .i64 0, .int .i64 0, .int .i64 0, .slice none 0 0,
    .int .i64 3, .int .i64 0, .int .i64 2, .int .i64 0, .int .i64 0, .int .i64 0, .slice none 0 0,
    .int .i64 4, .int .i64 0, .int .i64 3, .int .i64 0, .int .i64 0, .int .i64 0, .slice none 0 0,
    .int .i64 4, .int .i64 0, .int .i64 3, .int .i64 0, .int .i64 0, .int .i64 0, .slice none 0 0] 68) = W := ⟨_, rfl⟩
  have hV : Vs W (some ⟨g0, 0, none⟩) 5 kev (fun k => k = g0) := by
    have := vs_new w kev kev_ok
    rw [hg0] at this
    rw [← hW]; exact this
  have HFW : Hid (Fr (fun _ => False) w W) := Lib.hid (by rw [← hW]; exact (Fr.refl _ _).alloc _)
  have C1 := Lib.hid (check_any (some ⟨g0, 0, none⟩) 5 5 kev _ W hV (by omega))
  rw [kev_check] at C1
  have HV4 := Lib.hid (hV.take 4 (by omega))
  have HE := Lib.hid (hE.fr HFW.out (fun h => h))
  have HT := Lib.hid (hT.fr HFW.out (fun h => h))
  clear hV hE hT
  go_enter Tryz.func6, Tryz.ntmps6
  go_wp2_with fail
  clear hW hg0
  refine C1.out.mono ?_; rintro e w1 ⟨v, rfl, hbk, hf1⟩
  unfold BrkE at hbk
  obtain ⟨gB, rfl, hbB, hlB⟩ := hbk
  have HB := Lib.hid hbB
  have HLB := Lib.hid hlB
  have HF1 := Lib.hid hf1
  clear hbB hlB hf1 C1
  obtain ⟨gt, hgt⟩ : ∃ gt, w1.heap.size = gt := ⟨_, rfl⟩
  obtain ⟨W2, hW2⟩ : ∃ W2, w1.alloc (.cells #[.pointer none] 69) = W2 := ⟨_, rfl⟩
  have KT : Hid (Bk W2 gt 69 #[.pointer none]) := Lib.hid (by rw [← hW2, ← hgt]; exact Bk.new _ _ _)
  have F2 : Hid (Fr (fun _ => False) w1 W2) := Lib.hid (by rw [← hW2]; exact (Fr.refl _ _).alloc _)
  have HGT : Hid (gB < gt ∧ g0 < gt ∧ 0 < gt ∧ 1 < gt ∧ W.heap.size ≤ gt) := Lib.hid (by
    have h1 := HB.out.lt
    have h2 := HV4.out.row (by omega)
    obtain ⟨b, off, e, hb0, hc⟩ := h2
    have h3 := World.block_lt_of_cell? W _ (hc 0 _ rfl)
    injection e with e; injection e with e1 _; subst e1
    have h4 := HF1.out.size
    have h5 := World.block_lt_of_cell? W _ (show W.cell? ⟨0, 0, none⟩ = some _ from HE.out)
    have h6 := World.block_lt_of_cell? W _ (HT.out 0 (by omega))
    simp only at h3 h5 h6
    exact ⟨by omega, by omega, by omega, by omega, by omega⟩)
  have C2 := Lib.hid (check_any (some ⟨g0, 0, none⟩) 4 5 (kev.take 4) _ W2 ((HV4.out.fr0 HF1.out).fr0 F2.out) (by omega))
  rw [kev_check4] at C2
  go_wp2_with fail
  clear hW2 hgt
  refine C2.out.mono ?_; rintro e w3 ⟨v, rfl, hbk, hf3⟩
  unfold BrkE at hbk
  simp only at hbk
  subst hbk
  have HF3 := Lib.hid hf3
  have F13 := Lib.hid (F2.out.trans hf3 (fun _ _ h => h))
  clear hf3 C2
  have KT3 := Lib.hid (KT.out.fr HF3.out (fun h => h))
  have HB3 := Lib.hid (HB.out.fr F13.out (fun h => h))
  have CA := Lib.hid (as_broken ⟨gt, 0, none⟩ ⟨gB, 0, none⟩ (.pointer none) w3 (((HE.out.fr HF1.out (fun h => h)).fr F13.out (fun h => h))) (KT3.out.cell 0) (KT3.out.frozen 0))
  go_wp2_with fail
  refine CA.out.mono ?_; rintro e w4 ⟨rfl, hf4, hc4⟩
  have HF4 := Lib.hid hf4
  have HB4 := Lib.hid (HB3.out.fr HF4.out (fun e => by have := HGT.out.1; have e' : gB = gt := e; omega))
  clear hf4 CA KT KT3
  have b0 : w4.cell? ⟨gB, 0, none⟩ = some (.int .i64 5) := HB4.out.cell 0
  have b1 : w4.cell? ⟨gB, 1, none⟩ = some (.string ⟨#[114, 101, 102]⟩) := HB4.out.cell 1
  have CI := Lib.hid (is_brk_any gB 8 8 w4 (HB4.out.cell 2))
  rw [show ((8 : Int) == 8) = true by decide] at CI
  have CE := Lib.hid (brkError_any gB 5 (wordW 5) w4 (by omega) (by show 3 ≤ 100; omega) (HB4.out.cell 0) (HB4.out.cell 1))
  rw [kev_text] at CE
  go_wp2_with fail
  refine CI.out.mono ?_; rintro e w5 ⟨rfl, rfl⟩
  clear CI
  go_wp2_with fail
  refine CE.out.mono ?_; rintro e w5 ⟨rfl, hf5⟩
  have HF5 := Lib.hid hf5
  clear hf5 CE b0 b1 hc4
  have HF35 : Hid (Fr (fun x => x = gt) w1 w5) := Lib.hid (((F13.out.mono (T := fun x => x = gt) (fun _ _ h => h.elim)).trans HF4.out (fun _ _ h => h)).trans HF5.out (fun _ _ h => h.elim))
  have HT5 : Hid (NamT w5) := Lib.hid ((HT.out.fr HF1.out (fun h => h)).fr HF35.out (fun e => by have := HGT.out.2.2.2.1; have e' : 1 = gt := e; omega))
  have CN := Lib.hid (name_any 18 w5 HT5.out)
  rw [show nameOf 18 = ⟨#[99, 104, 105, 108, 100, 101, 110, 100, 115]⟩ by kernel_rfl] at CN
  have CS := Lib.hid (status_any (some ⟨g0, 0, none⟩) 4 5 (kev.take 4) _ w5 ((HV4.out.fr0 HF1.out).fr HF35.out (fun k hk e => by have := HGT.out.2.1; have hk' : k = g0 := hk; have e' : k = gt := e; omega)) (by omega))
  rw [kev_status] at CS
  go_wp2_with fail
  refine CN.out.mono ?_; rintro e w6 ⟨rfl, rfl⟩
  clear CN
  go_wp2_with fail
  refine CS.out.mono ?_; rintro e w6 ⟨rfl, rfl⟩
  clear CS
  go_wp2
  go_ret
  exact ⟨rfl, (HFW.out.trans HF1.out (fun _ _ h => h)).trans HF35.out (fun x hx e => by have h1 := HGT.out.2.2.2.2; have h2 := HFW.out.size; have e' : x = gt := e; omega)⟩
end Go.Proofs.YtieoeoonopcjbaaGreatDoor

/- The reference's Name, Closes, in, Right; the law's Few. -/
namespace Go.Proofs.YtieoeoonopcjbaaGreatDoor
open Go.RowKit Go.Maps

theorem nameOf_ne {k : Int} (h : isKindB k = true) : (!(nameOf k).toList.isEmpty) = true := by
  have hr : 1 ≤ k ∧ k ≤ 23 := by unfold isKindB at h; simp at h; exact h
  unfold nameOf
  rw [if_pos h]
  have : ∀ j : Nat, j < 24 → 1 ≤ j → (!(nameTab.getD j ⟨#[]⟩).toList.isEmpty) = true := by decide +kernel
  exact this k.toNat (by omega) (by omega)
theorem nameOf_no {k : Int} (h : isKindB k = false) : nameOf k = ⟨#[]⟩ := by
  unfold nameOf; rw [if_neg (by simp [h])]

set_option maxRecDepth 100000 in
set_option maxHeartbeats 4000000 in
theorem few_any (A : Option Addr) (n c : Nat) (ps : List VL) (G : Nat → Prop) (w : World) (h : Vs w A n ps G) (hn : n ≤ 5000000000000) :
    Calls Tryz.prog 7 #[.slice A n c] w fun e w' => ∃ q, e = .returned (.bool q) ∧ (q = true → n ≤ 120) ∧ w = w' := by
  have HES := Lib.hid h
  have hnI : (n : Int) ≤ 5000000000000 := by omega
  clear h hn
  go_enter Tryz.func7, Tryz.ntmps7
  go_wp2_with fail
  go_loopw [3, 4] (fun v u wr => ∃ (k : Nat) (z : Int), u = .int .i64 (k : Int) ∧ v = .int .i64 z ∧ k ≤ n ∧ w = wr) (fun _ u _ => n - (intOf u).toNat)
  case atStart => exact ⟨0, _, rfl, rfl, Nat.zero_le _, rfl⟩
  case round =>
    obtain ⟨k, z, rfl, rfl, hk, rfl⟩ := hrel
    have hk0 : (0 : Int) ≤ (k : Int) := by omega
    by_cases hlt : k < n
    · have hlt' : (k : Int) < n := by omega
      obtain ⟨b, off, rfl, -, hcs, he⟩ := HES.out.at hlt
      have e1 : w.cell? ⟨b, off + k * 7 + 6, none⟩ = some (.slice (ps.getD k default).A (ps.getD k default).e.d.length (ps.getD k default).c) := hcs 6 _ rfl
      generalize (ps.getD k default).e.d.length = m at *
      generalize (ps.getD k default).A = A2 at *
      generalize (ps.getD k default).c = c2 at *
      clear he hcs
      go_wp2
      refine ⟨⟨k + 1, _, by simp, rfl, by omega, trivial⟩, ?_⟩
      first | omega | (show _ < _; simp [intOf]; omega)
    · obtain rfl : k = n := by omega
      by_cases hn120 : k ≤ 120
      · have d1 : decide ((k : Int) ≤ 120) = true := decide_eq_true (by omega)
        have d1' : decide (k ≤ 120) = true := decide_eq_true (by omega)
        by_cases hz : z ≤ 16384
        · have d0 : decide (z ≤ 16384) = true := decide_eq_true hz
          go_wp2
          go_ret
          exact ⟨_, rfl, fun _ => hn120, rfl⟩
        · have d0 : decide (z ≤ 16384) = false := decide_eq_false hz
          clear hz
          go_wp2
          go_ret
          exact ⟨_, rfl, fun _ => hn120, rfl⟩
      · have d1 : decide ((k : Int) ≤ 120) = false := decide_eq_false (by omega)
        have d1' : decide (k ≤ 120) = false := decide_eq_false (by omega)
        have HN := Lib.hid hn120
        clear hn120
        go_wp2
        go_ret
        exact ⟨false, rfl, fun h => (by cases h), rfl⟩
end Go.Proofs.YtieoeoonopcjbaaGreatDoor
