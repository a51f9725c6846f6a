/- match: lists of tasks, as plain data and in memory; maps told as they are. -/
import Derived.Test.YtkinbcmnfpkncaaNa
import Derived.Test.YtkinbcmnfpkncaaMapI
import Derived.Test.YtkinbcmnfpkncaaMemI
import Derived.DeepKeys4
import Derived.OpenShut
namespace Go.Proofs.Ytkinbcmnfpkncaa
open Go.RowKit Go.Maps

theorem laidOutM : laidOutB Try.prog = true := by kernel_rfl
theorem i_key (c : Int) : WideAt.IsKeyLit (.int .i64 c) := trivial

/-! ### maps whose values are told as they are -/
abbrev DV := DataW Value
def HV (v : Value) : Option (DV × List MemPlace) := some (.held v, [])
/-- Block b is a map that reads as D. -/
def MV (w : World) (k : TypeId) (b : Nat) (D : DV) : Prop := w.ownsMap Try.prog k HV b (Maps.size D) D
theorem MV.of {w : World} {k : TypeId} {b n : Nat} {D : DV} (h : w.ownsMap Try.prog k HV b n D) : MV w k b D := by
  obtain ⟨es, clock, hb, F, hs, rfl⟩ := h
  refine ⟨es, clock, hb, F, ?_, rfl⟩
  rw [Maps.size_eq, length_sorted]; simp
theorem MV.fr {S : Nat → Prop} {w w' : World} {k : TypeId} {b : Nat} {D : DV} (h : MV w k b D) (hf : Fr S w w') (hb : ¬ S b) : MV w' k b D := by
  obtain ⟨es, clock, h1, h2⟩ := h
  exact ⟨es, clock, (hf.block b (World.ownsMap.lt ⟨es, clock, h1, h2⟩) hb).trans h1, h2⟩
theorem MV.lt {w : World} {k : TypeId} {b : Nat} {D : DV} (h : MV w k b D) : b < w.heap.size := World.ownsMap.lt h
theorem MV.ne {w : World} {k : TypeId} {b g : Nat} {t : TypeId} {cs : Array Value} {D : DV} (h : MV w k b D) (hg : Bk w g t cs) : g ≠ b := by
  rintro rfl
  obtain ⟨es, clock, h1, _⟩ := h
  unfold Bk at hg
  rw [hg] at h1
  cases h1
theorem MV.new (w : World) (k : TypeId) : MV (w.alloc (.map #[] 0)) k w.heap.size (.map []) := MV.of (World.ownsMap_made w Try.prog k HV)
theorem MV.isMap {w : World} {k : TypeId} {b : Nat} {D : DV} (h : MV w k b D) : IsMap D := World.ownsMap.isMap h
theorem MV.tidy {w : World} {k : TypeId} {b : Nat} {D : DV} (h : MV w k b D) (K : Keyed Try.prog k) : Tidy D := World.ownsMap.tidy h K
/-- What stands at a key. -/
def At (D : DV) (l : Lit) (v : Value) : Prop := has D l = true ∧ ∀ z, D.atKey l z = .held v
theorem At.one {D : DV} {l : Lit} {v u : Value} (h : At D l v) (k : At D l u) : v = u := by
  have := (h.2 .nil).symm.trans (k.2 .nil)
  injection this
theorem At.not {D : DV} {l : Lit} {v : Value} (h : At D l v) (k : has D l = false) : False := by rw [h.1] at k; cases k
theorem At.put {w : World} {k : TypeId} {b : Nat} {D : DV} (h : MV w k b D) {l : Lit} (hl : WideAt.IsKeyLit l) (v : Value) : At (D.put l (.held v)) l v :=
  ⟨has_put_same h.isMap hl _, fun z => atKey_put_same h.isMap hl _ z⟩
theorem At.put_ne {D : DV} {l l' : Lit} {v u : Value} (h : At D l v) (hne : l ≠ l') : At (D.put l' (.held u)) l v :=
  ⟨(has_put_other hne _).trans h.1, fun z => (atKey_put_other hne _ z).trans (h.2 z)⟩
theorem At.del_ne {D : DV} {l l' : Lit} {v : Value} (h : At D l v) (hne : l ≠ l') : At (D.del l') l v :=
  ⟨(has_del_other hne).trans h.1, fun z => (atKey_del_other hne z).trans (h.2 z)⟩
section
variable {w : World} {k t e : TypeId} {b : Nat} {D : DV}
theorem MV.at1 (h : MV w k b D) (K : Keyed Try.prog k) (ht : Try.prog.underlying t = some (.map k e)) {z : Value} (hz : (zeroValue e).run Try.prog w = .ok z w) {key v : Value} {kl : Lit} (hkey : keyOf Try.prog k key = some kl) (ha : At D kl v) :
    (Instr.lookup t (.map (some b)) key true).run Try.prog w = .ok (.tuple #[v, .bool true]) w ∧ (Instr.lookup t (.map (some b)) key false).run Try.prog w = .ok v w := by
  obtain ⟨u, ps, h1, h2⟩ := World.ownsMap.look_ok h K ht hz (zd := .held z) (zp := []) rfl hkey
  obtain ⟨u', ps', h3, h4⟩ := World.ownsMap.lookup h K ht hz (zd := .held z) (zp := []) rfl hkey
  rw [ha.2] at h2 h4
  rw [ha.1] at h1
  have e1 : u = v := by unfold HV at h2; simp at h2; exact h2.1
  have e2 : u' = v := by unfold HV at h4; simp at h4; exact h4.1
  subst e1 e2
  exact ⟨h1, h3⟩
theorem MV.at0 (h : MV w k b D) (K : Keyed Try.prog k) (ht : Try.prog.underlying t = some (.map k e)) {z : Value} (hz : (zeroValue e).run Try.prog w = .ok z w) {key : Value} {kl : Lit} (hkey : keyOf Try.prog k key = some kl) (ha : has D kl = false) :
    (Instr.lookup t (.map (some b)) key true).run Try.prog w = .ok (.tuple #[z, .bool false]) w ∧ (Instr.lookup t (.map (some b)) key false).run Try.prog w = .ok z w := by
  obtain ⟨u, ps, h1, h2⟩ := World.ownsMap.look_ok h K ht hz (zd := .held z) (zp := []) rfl hkey
  obtain ⟨u', ps', h3, h4⟩ := World.ownsMap.lookup h K ht hz (zd := .held z) (zp := []) rfl hkey
  rw [atKey_of_not_has ha] at h2 h4
  rw [ha] at h1
  have e1 : u = z := by unfold HV at h2; simp at h2; exact h2.1
  have e2 : u' = z := by unfold HV at h4; simp at h4; exact h4.1
  subst e1 e2
  exact ⟨h1, h3⟩
end
theorem MV.update {w : World} {k t e : TypeId} {b : Nat} {D : DV} (h : MV w k b D) (K : Keyed Try.prog k) (ht : Try.prog.underlying t = some (.map k e)) (hn : Maps.size D < 9223372036854775807) {key val : Value} {kl : Lit} (hkey : keyOf Try.prog k key = some kl) :
    ∃ w', (Instr.mapUpdate t (.map (some b)) key val).run Try.prog w = .ok () w' ∧ MV w' k b (D.put kl (.held val)) ∧ Fr (fun x => x = b) w w' := by
  obtain ⟨w', h1, h2, h3⟩ := World.ownsMap.update h K ht (by unfold maxLen; exact hn) hkey (val := val) (d := .held val) (ps := []) rfl
  exact ⟨w', h1, MV.of h2, (Fr.of_grown h3).mono (fun _ _ e => (Option.some.inj e).symm)⟩

theorem MV.delete {w : World} {k t e : TypeId} {b : Nat} {D : DV} (h : MV w k b D) (K : Keyed Try.prog k) (ht : Try.prog.underlying t = some (.map k e)) {key : Value} {kl : Lit} (hkey : keyOf Try.prog k key = some kl) (ty : TypeId) :
    ∃ w', (Builtin.delete_ #[t, k] ty #[.map (some b), key]).run Try.prog w = .ok (.tuple #[]) w' ∧ MV w' k b (D.del kl) ∧ Fr (fun x => x = b) w w' := by
  obtain ⟨w', h1, h2, h3⟩ := World.ownsMap.drop h K ht hkey ty
  exact ⟨w', h1, MV.of h2, Fr.of_turned h3⟩

theorem I64.of {x : Int} (h1 : -9223372036854775808 ≤ x) (h2 : x ≤ 9223372036854775807) : I64 x := ⟨h1, h2⟩

/-! ### lists of tasks, as plain data -/
/-- How many tasks a list may have; how many were pushed; each list's row: numbers and tasks. -/
structure MT (α : Type) where
  most : Int
  pushed : Nat
  row : Int → List (Nat × α)
section
variable {α : Type}
def setR (f : Int → List (Nat × α)) (c : Int) (r : List (Nat × α)) : Int → List (Nat × α) := fun x => if x = c then r else f x
theorem setR_same (f : Int → List (Nat × α)) (c : Int) (r : List (Nat × α)) : setR f c r c = r := if_pos rfl
theorem setR_ne (f : Int → List (Nat × α)) {c x : Int} (r : List (Nat × α)) (h : x ≠ c) : setR f c r x = f x := if_neg h
/-- A list's row is another one. -/
def MT.drop (t : MT α) (c : Int) (r : List (Nat × α)) : MT α := { t with row := setR t.row c r }
def MT.push (t : MT α) (c : Int) (x : α) : MT α := { t with pushed := t.pushed + 1, row := setR t.row c (t.row c ++ [(t.pushed, x)]) }
def MT.full (t : MT α) (c : Int) : Bool := decide (t.most ≤ ((t.row c).length : Int))
def MT.pop (t : MT α) (c : Int) : MT α := t.drop c (t.row c).tail
/-- Lists without tasks. -/
def newMT (α : Type) (most : Int) : MT α := ⟨most, 0, fun _ => []⟩
/-- Lists that pushes and drops may come to. -/
structure MT.ok (t : MT α) : Prop where
  m1 : 1 ≤ t.most
  m2 : t.most ≤ 65536
  len : ∀ c, ((t.row c).length : Int) ≤ t.most
  rise : ∀ c, (t.row c).Pairwise fun p q => p.1 < q.1
  lt : ∀ c, ∀ p ∈ t.row c, p.1 < t.pushed
theorem newMT_ok {most : Int} (h1 : 1 ≤ most) (h2 : most ≤ 65536) : (newMT α most).ok := ⟨h1, h2, fun _ => by show ((0 : Nat) : Int) ≤ most; omega, fun _ => List.Pairwise.nil, fun _ p h => by cases h⟩
theorem MT.ok.push {t : MT α} (h : t.ok) {c : Int} (hf : t.full c = false) (x : α) : (t.push c x).ok where
  m1 := h.m1
  m2 := h.m2
  len d := by
    show ((setR t.row c _ d).length : Int) ≤ t.most
    by_cases e : d = c
    · subst e
      rw [setR_same, List.length_append]
      unfold MT.full at hf
      simp at hf ⊢
      omega
    · rw [setR_ne _ _ e]; exact h.len d
  rise d := by
    show (setR t.row c _ d).Pairwise _
    by_cases e : d = c
    · subst e
      rw [setR_same, List.pairwise_append]
      exact ⟨h.rise d, List.pairwise_singleton _ _, fun p hp q hq => by
        simp at hq; subst hq; exact h.lt d p hp⟩
    · rw [setR_ne _ _ e]; exact h.rise d
  lt d p hp := by
    change p ∈ setR t.row c _ d at hp
    show p.1 < t.pushed + 1
    by_cases e : d = c
    · subst e
      rw [setR_same, List.mem_append] at hp
      rcases hp with hp | hp
      · have := h.lt d p hp; omega
      · simp at hp; subst hp; exact Nat.lt_succ_self _
    · rw [setR_ne _ _ e] at hp; have := h.lt d p hp; omega
theorem MT.ok.drop {t : MT α} (h : t.ok) {c : Int} {r : List (Nat × α)} (hr : r.Sublist (t.row c)) : (t.drop c r).ok where
  m1 := h.m1
  m2 := h.m2
  len d := by
    show ((setR t.row c r d).length : Int) ≤ t.most
    by_cases e : d = c
    · subst e
      rw [setR_same]
      have := hr.length_le
      have := h.len d
      omega
    · rw [setR_ne _ _ e]; exact h.len d
  rise d := by
    show (setR t.row c r d).Pairwise _
    by_cases e : d = c
    · subst e; rw [setR_same]; exact (h.rise d).sublist hr
    · rw [setR_ne _ _ e]; exact h.rise d
  lt d p hp := by
    change p ∈ setR t.row c r d at hp
    by_cases e : d = c
    · subst e; rw [setR_same] at hp; exact h.lt d p (hr.subset hp)
    · rw [setR_ne _ _ e] at hp; exact h.lt d p hp
theorem MT.ok.pop {t : MT α} (h : t.ok) (c : Int) : (t.pop c).ok := h.drop (List.tail_sublist _)

/-! ### in memory -/
/-- The cells of a row. -/
def pcs (enc : α → Value) (r : List (Nat × α)) : List Value := r.flatMap fun p => [.int .i64 p.1, enc p.2]
theorem pcs_len (enc : α → Value) (r : List (Nat × α)) : (pcs enc r).length = r.length * 2 := by
  induction r with
  | nil => rfl
  | cons p r ih => simp only [pcs, List.flatMap_cons, List.length_append, List.length_cons, List.length_nil] at ih ⊢; omega
theorem pcs_append (enc : α → Value) (r s : List (Nat × α)) : pcs enc (r ++ s) = pcs enc r ++ pcs enc s := by simp [pcs]
theorem pcs_cons (enc : α → Value) (p : Nat × α) (r : List (Nat × α)) : pcs enc (p :: r) = .int .i64 p.1 :: enc p.2 :: pcs enc r := rfl
theorem pcs_at (enc : α → Value) (r : List (Nat × α)) (k : Nat) (h : k < r.length) : (pcs enc r)[k * 2]? = some (.int .i64 r[k].1) ∧ (pcs enc r)[k * 2 + 1]? = some (enc r[k].2) := by
  induction r generalizing k with
  | nil => simp at h
  | cons p r ih =>
    cases k with
    | zero => exact ⟨rfl, rfl⟩
    | succ k =>
      have := ih k (by simpa using h)
      rw [pcs_cons, show (k + 1) * 2 = k * 2 + 1 + 1 by omega]
      simpa using this

/-- Lists: their struct (of type TL) at block g, the map of their rows (of elements TP) at br; all of it within F. -/
structure MtM (TL TP : TypeId) (enc : α → Value) (w : World) (g br : Nat) (F : Nat → Prop) (t : MT α) (D : DV) : Prop where
  blk : Bk w g TL #[.int .i64 t.most, .int .i64 t.pushed, .map (some br)]
  mr : MV w 3 br D
  no : ∀ c, I64 c → t.row c = [] → has D (.int .i64 c) = false
  at_ : ∀ c, I64 c → t.row c ≠ [] → ∃ v, At D (.int .i64 c) v ∧ Row w TP 2 v (t.row c).length (pcs enc (t.row c)) ∧ ∀ k, v.ownBlock = some k → F k ∧ k ≠ g ∧ k ≠ br
  apart : ∀ c c' v v' k, I64 c → I64 c' → At D (.int .i64 c) v → At D (.int .i64 c') v' → v.ownBlock = some k → v'.ownBlock = some k → c = c'
  sz : Maps.size D ≤ t.pushed
  gb : g ≠ br
  fg : F g
  fb : F br
  flt : ∀ k, F k → k < w.heap.size
variable {TL TP : TypeId} {enc : α → Value}
theorem MtM.fr {S F : Nat → Prop} {w w' : World} {g br : Nat} {t : MT α} {D : DV} (h : MtM TL TP enc w g br F t D) (hf : Fr S w w') (hS : ∀ k, F k → ¬ S k) : MtM TL TP enc w' g br F t D where
  blk := h.blk.fr hf (hS _ h.fg)
  mr := h.mr.fr hf (hS _ h.fb)
  no := h.no
  at_ c hc hr := by
    obtain ⟨v, h1, h2, h3⟩ := h.at_ c hc hr
    exact ⟨v, h1, h2.fr hf (fun k hk => hS k (h3 k hk).1), h3⟩
  apart := h.apart
  sz := h.sz
  gb := h.gb
  fg := h.fg
  fb := h.fb
  flt k hk := Nat.lt_of_lt_of_le (h.flt k hk) hf.size
/-- Lists at block g, within F. -/
def Mt (TL TP : TypeId) (enc : α → Value) (w : World) (g : Nat) (F : Nat → Prop) (t : MT α) : Prop := ∃ br D, MtM TL TP enc w g br F t D
theorem Mt.fr {S F : Nat → Prop} {w w' : World} {g : Nat} {t : MT α} (h : Mt TL TP enc w g F t) (hf : Fr S w w') (hS : ∀ k, F k → ¬ S k) : Mt TL TP enc w' g F t := by
  obtain ⟨br, D, h1⟩ := h
  exact ⟨br, D, h1.fr hf hS⟩
theorem Mt.fr0 {F : Nat → Prop} {w w' : World} {g : Nat} {t : MT α} (h : Mt TL TP enc w g F t) (hf : Fr (fun _ => False) w w') : Mt TL TP enc w' g F t := h.fr hf (fun _ _ h => h)
theorem Mt.lt {F : Nat → Prop} {w : World} {g : Nat} {t : MT α} (h : Mt TL TP enc w g F t) {k : Nat} (hk : F k) : k < w.heap.size := by
  obtain ⟨_, _, h1⟩ := h
  exact h1.flt k hk
/-- From lists within F to lists. -/
def MtTo (TL TP : TypeId) (enc : α → Value) (w : World) (g : Nat) (F : Nat → Prop) (w' : World) (t' : MT α) : Prop := ∃ F', Mt TL TP enc w' g F' t' ∧ Fr F w w' ∧ ∀ k, F' k → F k ∨ w.heap.size ≤ k
theorem Mt.to {F : Nat → Prop} {w w' : World} {g : Nat} {t : MT α} (h : Mt TL TP enc w g F t) (hf : Fr (fun _ => False) w w') : MtTo TL TP enc w g F w' t :=
  ⟨F, h.fr0 hf, hf.mono (fun _ _ h => h.elim), fun _ hk => .inl hk⟩
theorem MtTo.trans {F : Nat → Prop} {w w1 w2 : World} {g : Nat} {t1 t2 : MT α} (h : MtTo TL TP enc w g F w1 t1) (k : ∀ F', Mt TL TP enc w1 g F' t1 → MtTo TL TP enc w1 g F' w2 t2) : MtTo TL TP enc w g F w2 t2 := by
  obtain ⟨F1, h1, h2, h3⟩ := h
  obtain ⟨F2, k1, k2, k3⟩ := k F1 h1
  refine ⟨F2, k1, h2.trans k2 (fun x hx hF => ?_), fun x hx => ?_⟩
  · rcases h3 x hF with h | h
    · exact h
    · omega
  · rcases k3 x hx with h | h
    · exact h3 x h
    · have := h2.size; exact .inr (by omega)
/-- Lists of a call's own: all of them lie in what came since w0; of what was there then nothing has turned. -/
def Kt (TL TP : TypeId) (enc : α → Value) (w0 w : World) (g : Nat) (t : MT α) : Prop := ∃ F, Mt TL TP enc w g F t ∧ (∀ k, F k → w0.heap.size ≤ k) ∧ Fr (fun _ => False) w0 w
theorem Kt.to {w0 w w' : World} {g : Nat} {t t' : MT α} (h : Kt TL TP enc w0 w g t) (k : ∀ F, Mt TL TP enc w g F t → MtTo TL TP enc w g F w' t') : Kt TL TP enc w0 w' g t' := by
  obtain ⟨F, h1, h2, h3⟩ := h
  obtain ⟨F', k1, k2, k3⟩ := k F h1
  refine ⟨F', k1, fun x hx => ?_, h3.trans k2 (fun x hx hF => by have := h2 x hF; omega)⟩
  rcases k3 x hx with h | h
  · exact h2 x h
  · have := h3.size; omega
end
end Go.Proofs.Ytkinbcmnfpkncaa
