/- A region that draws its order: what is held of the world is held only till an operation of a given list has come (the last append, the store behind it): whatever leans on it has come by then. -/
import Derived.Deep.RegionHeld3
import Derived.Deep.QuietTactic
import Derived.BigQuiet
import Derived.StillTailTactics
namespace Go.Proofs.Ytkinbcmnfpkncaa

section
variable {P : Program} {ops : Array Oper} {Q : Exit → Act → World → Prop} {md : Region.Mode} {S : World → Prop} {zs : List Nat}

/-- None of the list has come. -/
def yetZ (zs : List Nat) (L : Array Bool) : Bool := zs.all fun z => !(L.getD z true)
/-- Whatever order is picked; S holds as long as none of the list has come. -/
def anyZ (P : Program) (md : Region.Mode) (ops : Array Oper) (Q : Exit → Act → World → Prop) (S : World → Prop) (zs : List Nat) : Nat → Array Bool → Act → World → Prop
  | 0, L, a, w => Region.ready md ops L = [] ∧ Q .normal a w
  | f + 1, L, a, w => (Region.ready md ops L = [] → Q .normal a w) ∧
      ∀ i ∈ Region.ready md ops L, wpOp P ops Q i (fun a' w' => (yetZ zs (L.setIfInBounds i true) = true → S w') ∧ anyZ P md ops Q S zs f (L.setIfInBounds i true) a' w') a w
theorem anyZ.any : ∀ (f : Nat) (L : Array Bool) (a : Act) (w : World), anyZ P md ops Q S zs f L a w → wpAny P md ops Q f L a w
  | 0, _, _, _, h => h
  | f + 1, L, a, w, h => ⟨h.1, fun i hi => wpOp_mono (fun a' w' k => anyZ.any f _ a' w' k.2) (h.2 i hi)⟩
/-- All of B wait for i, straight or by others of B. -/
def waitZ (md : Region.Mode) (ops : Array Oper) (L : Array Bool) (i : Nat) (B : List Nat) : Bool :=
  B.all fun b => b != i && !(L.getD b true) && match ops[b]? with
    | some o => o.after.any fun e => Region.binds md e && (e.on == i || B.contains e.on)
    | none => false
theorem unlisted {L : Array Bool} {i : Nat} (h : L.getD i true = false) : L.getD i false = false := by
  by_cases hi : i < L.size
  · simp [hi] at h ⊢; exact h
  · simp [hi] at h
theorem waitZ_at {L : Array Bool} {i : Nat} {B : List Nat} (h : waitZ md ops L i B = true) {b : Nat} (hb : b ∈ B) : b ≠ i ∧ L.getD b true = false ∧ ∃ o, ops[b]? = some o ∧ ∃ e ∈ o.after, Region.binds md e = true ∧ (e.on = i ∨ e.on ∈ B) := by
  have h1 := List.all_eq_true.1 h b hb
  rw [Bool.and_eq_true, Bool.and_eq_true] at h1
  obtain ⟨⟨h2, h3⟩, h4⟩ := h1
  refine ⟨by simpa using h2, by simpa using h3, ?_⟩
  cases ho : ops[b]? with
  | none => rw [ho] at h4; cases h4
  | some o =>
    rw [ho] at h4
    obtain ⟨e, he, h5⟩ := Array.any_eq_true'.1 h4
    rw [Bool.and_eq_true, Bool.or_eq_true] at h5
    exact ⟨o, rfl, e, he, h5.1, h5.2.imp (fun x => by simpa using x) (fun x => by simpa using x)⟩
theorem waitZ_not {L : Array Bool} {i : Nat} {B : List Nat} (h : waitZ md ops L i B = true) (hi : L.getD i true = false) {j : Nat} (hj : j ∈ Region.ready md ops L) : j ∉ B := fun hb => by
  obtain ⟨_, _, o, ho, e, he, hbd, hon⟩ := waitZ_at h hb
  obtain ⟨_, o', ho', hall⟩ := mem_ready.1 hj
  rw [ho] at ho'
  cases ho'
  have h1 := hall e he hbd
  rcases hon with e1 | e1
  · rw [e1, unlisted hi] at h1; cases h1
  · rw [unlisted (waitZ_at h e1).2.1] at h1; cases h1
theorem waitZ_set {L : Array Bool} {i j : Nat} {B : List Nat} (h : waitZ md ops L i B = true) (hj : j ∉ B) : waitZ md ops (L.setIfInBounds j true) i B = true := by
  refine List.all_eq_true.2 fun b hb => ?_
  have h1 := List.all_eq_true.1 h b hb
  rw [getD_set_ne true (fun e => by subst e; exact hj hb)]
  exact h1
/-- On what a taken operation may lean: on nothing, or on S, all of the list waiting for it. -/
def Leans (md : Region.Mode) (ops : Array Oper) (S T : World → Prop) (zs B : List Nat) (L : Array Bool) (i : Nat) : Prop := (∀ w, T w) ∨ ((∀ w, S w → T w) ∧ waitZ md ops L i B = true ∧ ∀ z ∈ zs, z ∈ B)

theorem anyZ.first {i : Nat} {oi : Oper} {v : Value} {T : World → Prop} {B : List Nat} (hi : ops[i]? = some oi) (hiz : i ∉ zs) (hsel : ∀ (j : Nat) (o : Oper) cs b, ops[j]? = some o → o.op ≠ .select cs b) (hQ : ∀ c a w, Q (.panic c) (a.put oi.dst v) w → Q (.panic c) a w) :
    ∀ (f : Nat) (L : Array Bool) (a : Act) (w : World), (∀ j oj, ops[j]? = some oj → j ≠ i → L.getD j true = false → (∀ e ∈ oj.after, Region.binds md e = true → e.on ≠ i) → oi.apart ops oj = true) → i ∈ Region.ready md ops L → YieldsIf P ops T oi v a → T w → (yetZ zs L = true → S w) → Leans md ops S T zs B L i →
      anyZ P md ops Q S zs f (L.setIfInBounds i true) (a.put oi.dst v) w → anyZ P md ops Q S zs (f + 1) L a w := by
  intro f
  have back : ∀ {L : Array Bool} {j : Nat}, yetZ zs (L.setIfInBounds j true) = true → yetZ zs L = true := fun {L j} h => List.all_eq_true.2 fun z hz => by
    have h1 := List.all_eq_true.1 h z hz
    by_cases e : j = z
    · subst e
      by_cases hl : j < L.size
      · simp [hl] at h1
      · simp [hl] at h1
    · rw [getD_set_ne true e] at h1; exact h1
  induction f with
  | zero =>
    intro L a w _ hr hy hT hS _ H
    refine ⟨fun h => (by rw [h] at hr; cases hr), fun j hj => ?_⟩
    by_cases e : j = i
    · subst e; exact hy.wpOp hi hT ⟨fun h => hS (back h), H⟩
    · have h1 := ready_mono hj e
      rw [H.1] at h1; cases h1
  | succ f ih =>
    intro L a w hfree hr hy hT hS hl H
    refine ⟨fun h => (by rw [h] at hr; cases hr), fun j hj => ?_⟩
    by_cases e : j = i
    · subst e; exact hy.wpOp hi hT ⟨fun h => hS (back h), H⟩
    · have hiu := (mem_ready.1 hr).1
      obtain ⟨hju, oj, hoj, hall⟩ := mem_ready.1 hj
      have hnot : ∀ e ∈ oj.after, Region.binds md e = true → e.on ≠ i := fun e he hb heq => by
        have h1 := hall e he hb
        rw [heq, unlisted hiu] at h1; cases h1
      have h2 := wpOp_putIf hoj (hfree j oj hoj e hju hnot) (fun cs b => hsel i oi cs b hi) (fun cs b => hsel j oj cs b hoj) hQ hy (H.2 j (ready_mono hj e))
      refine wpOp_mono (fun a' w' k => ?_) h2
      rw [Array.setIfInBounds_comm _ _ (Ne.symm e)] at k
      have hS' : yetZ zs (L.setIfInBounds j true) = true → S w' := fun h => k.2.1 (List.all_eq_true.2 fun z hz => by
        rw [getD_set_ne true (fun e2 => hiz (by rw [e2]; exact hz))]
        exact List.all_eq_true.1 h z hz)
      have hl' : Leans md ops S T zs B (L.setIfInBounds j true) i ∧ T w' := by
        rcases hl with hl | ⟨h3, h4, h5⟩
        · exact ⟨.inl hl, hl w'⟩
        · have hjB := waitZ_not h4 hiu hj
          refine ⟨.inr ⟨h3, waitZ_set h4 hjB, h5⟩, h3 _ (hS' (List.all_eq_true.2 fun z hz => ?_))⟩
          rw [getD_set_ne true (fun e2 => hjB (by rw [e2]; exact h5 z hz)), (waitZ_at h4 (h5 z hz)).2.1]
          rfl
      refine ⟨hS', ih (L.setIfInBounds j true) a' w' (fun m om hm hmi hmu hmn => ?_) (ready_mono hr (Ne.symm e)) k.1 hl'.2 hS' hl'.1 k.2.2⟩
      refine hfree m om hm hmi ?_ hmn
      by_cases hjm : j = m
      · subst hjm; exact hju
      · rw [getD_set_ne true hjm] at hmu; exact hmu

/-- The beginning. -/
theorem wp_region_Z {id : Nat} {a : Go.Act} {w : World} (zs : List Nat) (S : World → Prop) (hm : P.follows .mixedOrders = true) (hS : S w.drew)
    (h : S w.drew → anyZ P .any ops Q S zs ops.size (Array.replicate ops.size false) a w.drew) : (Code.region id ops true).wp P Q a w :=
  wp_region_any hm (anyZ.any _ _ _ _ (h hS))
/-- What yields in whatever world is taken first. -/
theorem anyZ_pure {i : Nat} {oi : Oper} {v : Value} {f : Nat} {L : Array Bool} {a : Go.Act} {w : World} (d : Option Tmp) (hi : ops[i]? = some oi) (hd : oi.dst = d) (hiz : zs.contains i = false)
    (hs : Region.noSelect ops = true) (hf : Region.free md ops L i = true) (hr : (Region.ready md ops L).contains i = true)
    (hQ : ∀ c a w, Q (.panic c) (a.put oi.dst v) w → Q (.panic c) a w) (hy : YieldsIf P ops (fun _ => True) oi v a) (hS : yetZ zs L = true → S w)
    (h : anyZ P md ops Q S zs f (L.setIfInBounds i true) (a.put d v) w) : anyZ P md ops Q S zs (f + 1) L a w := by
  subst hd
  exact anyZ.first (B := []) hi (by simpa using hiz) (Region.noSelect_spec hs) hQ f L a w (Region.free_spec hi hf) (by simpa using hr) hy trivial hS (.inl fun _ => trivial) h
/-- What yields wherever S holds is taken first, all of the list waiting for it. -/
theorem anyZ_read {i : Nat} {oi : Oper} {v : Value} {f : Nat} {L : Array Bool} {a : Go.Act} {w : World} (d : Option Tmp) (B : List Nat) (hi : ops[i]? = some oi) (hd : oi.dst = d) (hiz : zs.contains i = false)
    (hs : Region.noSelect ops = true) (hf : Region.free md ops L i = true) (hr : (Region.ready md ops L).contains i = true) (hw : waitZ md ops L i B = true) (hz : (zs.all fun z => B.contains z) = true)
    (hQ : ∀ c a w, Q (.panic c) (a.put oi.dst v) w → Q (.panic c) a w) (hy : YieldsIf P ops S oi v a) (hS : S w)
    (h : anyZ P md ops Q S zs f (L.setIfInBounds i true) (a.put d v) w) : anyZ P md ops Q S zs (f + 1) L a w := by
  subst hd
  refine anyZ.first (B := B) hi (by simpa using hiz) (Region.noSelect_spec hs) hQ f L a w (Region.free_spec hi hf) (by simpa using hr) hy hS (fun _ => hS) (.inr ⟨fun _ h => h, hw, fun z hzz => ?_⟩) h
  simpa using List.all_eq_true.1 hz z hzz
theorem anyZ_done {L : Array Bool} {a : Go.Act} {w : World} (hr : Region.ready md ops L = []) (h : Q .normal a w) : ∀ f, anyZ P md ops Q S zs f L a w
  | 0 => ⟨hr, h⟩
  | _ + 1 => ⟨fun _ => h, by rw [hr]; simp⟩
/-- The one that comes next, or each of those that may. -/
def AllZ (P : Program) (md : Region.Mode) (ops : Array Oper) (Q : Exit → Go.Act → World → Prop) (S : World → Prop) (zs : List Nat) (f : Nat) (L : Array Bool) (a : Go.Act) (w : World) (rs : List Nat) : Prop :=
  ∀ i ∈ rs, wpOp P ops Q i (fun a' w' => (yetZ zs (L.setIfInBounds i true) = true → S w') ∧ anyZ P md ops Q S zs f (L.setIfInBounds i true) a' w') a w
theorem AllZ.nil {f : Nat} {L : Array Bool} {a : Go.Act} {w : World} : AllZ P md ops Q S zs f L a w [] := fun _ h => by cases h
theorem anyZ_ready {rs : List Nat} {f : Nat} {L : Array Bool} {a : Go.Act} {w : World} (hr : Region.ready md ops L = rs) (hne : rs ≠ []) (h : AllZ P md ops Q S zs f L a w rs) : anyZ P md ops Q S zs (f + 1) L a w :=
  ⟨fun h0 => absurd (hr ▸ h0) hne, hr ▸ h⟩
/-- One that is not of the list: S is shown anew behind it. -/
theorem AllZ.step {f : Nat} {L : Array Bool} {a : Go.Act} {w : World} {i : Nat} {o : Oper} {rs : List Nat} (ho : ops[i]? = some o)
    (h : ∀ K' : Go.Act → World → Prop, Shut (∀ a w, S w → (S w → anyZ P md ops Q S zs f (L.setIfInBounds i true) a w) → K' a w) → if Region.wanted o (yielded ops a.tmps) = true then Oper.wp P o a w K' Q else K' (a.put o.dst undef) w)
    (hs : AllZ P md ops Q S zs f L a w rs) : AllZ P md ops Q S zs f L a w (i :: rs) := fun j hj => by
  rcases List.mem_cons.1 hj with rfl | hj
  · exact wpOp_step ho (fun K' hK => h K' (fun a w hS hW => hK a w ⟨fun _ => hS, hW hS⟩))
  · exact hs j hj
/-- One of the list: behind it S is asked no more. -/
theorem AllZ.last {f : Nat} {L : Array Bool} {a : Go.Act} {w : World} {i : Nat} {o : Oper} {rs : List Nat} (ho : ops[i]? = some o) (hy : yetZ zs (L.setIfInBounds i true) = false)
    (h : ∀ K' : Go.Act → World → Prop, Shut (∀ a w, anyZ P md ops Q S zs f (L.setIfInBounds i true) a w → K' a w) → if Region.wanted o (yielded ops a.tmps) = true then Oper.wp P o a w K' Q else K' (a.put o.dst undef) w)
    (hs : AllZ P md ops Q S zs f L a w rs) : AllZ P md ops Q S zs f L a w (i :: rs) := fun j hj => by
  rcases List.mem_cons.1 hj with rfl | hj
  · exact wpOp_step ho (fun K' hK => h K' (fun a w hW => hK a w ⟨fun e => (by rw [hy] at e; cases e), hW⟩))
  · exact hs j hj
theorem notYet {L : Array Bool} {p : Prop} (h : yetZ zs L = false) : yetZ zs L = true → p := fun e => by rw [h] at e; cases e
end
end Go.Proofs.Ytkinbcmnfpkncaa
