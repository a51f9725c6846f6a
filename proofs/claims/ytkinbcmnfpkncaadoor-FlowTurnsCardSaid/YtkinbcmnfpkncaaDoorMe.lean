/- event: a book in memory; newBook, opened, taken. -/
import Derived.Test.YtkinbcmnfpkncaaDoorMc
import Derived.IntWalk
import Derived.Handy
import Derived.Deep.QuietTactic
import Derived.BigQuiet
import Derived.Test.YtkinbcmnfpkncaaDoorGt
import Derived.Test.YtkinbcmnfpkncaaDoorNz
namespace Go.Proofs.YtkinbcmnfpkncaaDoor
open Go.RowKit Go.Maps

def stV (s : Sta) : Value := .agg #[.int .i64 s.tk, .int .i64 s.ti, .int .i64 s.k]
theorem tOpen : Tryd.prog.underlying 114 = some (.map 3 147) := Tryd.underlying114
theorem tUsed : Tryd.prog.underlying 115 = some (.map 145 149) := Tryd.underlying115
theorem zeroSta (w : World) : (zeroValue 147).run Tryd.prog w = .ok (stV Sta.none) w := by kernel_rfl
theorem zeroUnit (w : World) : (zeroValue 149).run Tryd.prog w = .ok (.agg #[]) w := by kernel_rfl

/-- A book at block g; its maps at bo and bu. -/
structure BoM (w : World) (g bo bu : Nat) (b : Bo) (Do Du : DV) : Prop where
  blk : Bk w g 117 #[.int .i64 (b.count : Int), .int .i64 b.now, .bool b.closed, .map (some bo), .map (some bu)]
  mo : MV w 3 bo Do
  mu : MV w 145 bu Du
  opn : ∀ p, I64 p → (has Do (.int .i64 p) = false ∧ b.opn p = Sta.none) ∨ At Do (.int .i64 p) (stV (b.opn p))
  used : ∀ t i, I64 t → I64 i → ((t, i) ∈ b.used → At Du (th t i) (.agg #[])) ∧ ((t, i) ∉ b.used → has Du (th t i) = false)
  ne : bo ≠ bu
  us : ∀ x ∈ b.used, I64 x.1 ∧ I64 x.2
  op : ∀ p, I64 (b.opn p).tk ∧ I64 (b.opn p).ti
  nd : b.used.Nodup
  so : Maps.size Do ≤ b.count
  su : Maps.size Du ≤ b.count
theorem BoM.fr {S : Nat → Prop} {w w' : World} {g bo bu : Nat} {b : Bo} {Do Du : DV} (h : BoM w g bo bu b Do Du) (hf : Fr S w w') (h0 : ¬ S g) (h1 : ¬ S bo) (h2 : ¬ S bu) : BoM w' g bo bu b Do Du :=
  { h with blk := h.blk.fr hf h0, mo := h.mo.fr hf h1, mu := h.mu.fr hf h2 }
theorem BoM.fr0 {w w' : World} {g bo bu : Nat} {b : Bo} {Do Du : DV} (h : BoM w g bo bu b Do Du) (hf : Fr (fun _ => False) w w') : BoM w' g bo bu b Do Du := h.fr hf (fun h => h) (fun h => h) (fun h => h)
/-- What a look at a place tells. -/
theorem BoM.look {w : World} {g bo bu : Nat} {b : Bo} {Do Du : DV} (h : BoM w g bo bu b Do Du) {p : Int} (hp : I64 p) :
    (Instr.lookup 114 (.map (some bo)) (.int .i64 p) false).run Tryd.prog w = .ok (stV (b.opn p)) w := by
  rcases h.opn p hp with ⟨h1, h2⟩ | h1
  · rw [h2]; exact (h.mo.at0 kInt tOpen (zeroSta w) hp.key h1).2
  · exact (h.mo.at1 kInt tOpen (zeroSta w) hp.key h1).2
/-- A book within three blocks. -/
def Book (w : World) (g bo bu : Nat) (b : Bo) : Prop := ∃ Do Du, BoM w g bo bu b Do Du
def BS (g bo bu : Nat) (k : Nat) : Prop := k = g ∨ k = bo ∨ k = bu
theorem Book.fr0 {w w' : World} {g bo bu : Nat} {b : Bo} (h : Book w g bo bu b) (hf : Fr (fun _ => False) w w') : Book w' g bo bu b := by
  obtain ⟨Do, Du, h⟩ := h; exact ⟨Do, Du, h.fr0 hf⟩

set_option maxRecDepth 100000 in
theorem opened_any (p : VL) (w : World) : Calls Tryd.prog 100 #[p.val] w fun e w' => e = .returned (thV (thingOf p.e).1 (thingOf p.e).2) ∧ Fr (fun _ => False) w w' := by
  have HF : Hid (∀ o, Fr (fun _ => False) w ((w.alloc (.cells p.cells.toArray 75)).alloc o)) := Lib.hid (fun o => ((Fr.refl _ _).alloc _).alloc _)
  obtain ⟨⟨k, a, r, i, l, n, d⟩, A, c⟩ := p
  unfold VL.val VL.cells VL.bv thingOf thV at *
  simp only at *
  by_cases hk : k = 2
  · subst hk
    go_enter Tryd.func100, Tryd.ntmps100
    go_wp2
    refine bodyPost_ret (v := .agg #[.int .i64 2, .int .i64 0]) (by simp [results, Tryd.results100, go_sem]) rfl ⟨rfl, HF.out _⟩
  · rw [if_neg hk]
    have d0 : (k == 2) = false := by simp [hk]
    clear hk
    go_enter Tryd.func100, Tryd.ntmps100
    go_wp2
    refine bodyPost_ret (v := .agg #[.int .i64 k, .int .i64 i]) (by simp [results, Tryd.results100, go_sem]) rfl ⟨rfl, HF.out _⟩

theorem bookNew {w w1 : World} {o1 o2 : Obj} (h1 : o1 = .map #[] 0) (h2 : o2 = .map #[] 0) (hw : w1 = (w.alloc o1).alloc o2) :
    Book (w1.alloc (.cells #[.int .i64 0, .int .i64 0, .bool false, .map (some w.heap.size), .map (some (w.heap.size + 1))] 117)) w1.heap.size w.heap.size (w.heap.size + 1) Bo.new := by
  subst h1 h2 hw
  have m1 := MV.new w 3
  have m2 := MV.new (w.alloc (.map #[] 0)) 145
  rw [show (w.alloc (.map #[] 0)).heap.size = w.heap.size + 1 by simp] at m2
  have f1 : Fr (fun _ => False) (w.alloc (.map #[] 0)) ((w.alloc (.map #[] 0)).alloc (.map #[] 0)) := (Fr.refl _ _).alloc _
  have f2 : ∀ o, Fr (fun _ => False) ((w.alloc (.map #[] 0)).alloc (.map #[] 0)) (((w.alloc (.map #[] 0)).alloc (.map #[] 0)).alloc o) := fun o => (Fr.refl _ _).alloc _
  exact ⟨_, _, {
    blk := Bk.new _ _ _
    mo := (m1.fr f1 (fun h => h)).fr (f2 _) (fun h => h)
    mu := m2.fr (f2 _) (fun h => h)
    opn := fun p _ => .inl ⟨rfl, rfl⟩
    used := fun t i _ _ => ⟨fun h => absurd h List.not_mem_nil, fun _ => rfl⟩
    ne := by omega
    us := fun x h => absurd h List.not_mem_nil
    op := fun p => ⟨show I64 0 from ⟨by decide, by decide⟩, show I64 0 from ⟨by decide, by decide⟩⟩
    nd := List.nodup_nil
    so := Nat.le_refl _
    su := Nat.le_refl _ }⟩
set_option maxRecDepth 100000 in
theorem newBook_any (w : World) : Calls Tryd.prog 70 #[] w fun e w' => ∃ g bo bu, e = .returned (.pointer (some ⟨g, 0, none⟩)) ∧ Book w' g bo bu Bo.new ∧ Fr (fun _ => False) w w' ∧ ∀ k, BS g bo bu k → w.heap.size ≤ k := by
  have hmm := @run_makeMap Tryd.prog
  have HB := Lib.hid (bookNew (w := w) rfl rfl rfl)
  have HF : Hid (∀ o, Fr (fun _ => False) w (((w.alloc (.map #[] 0)).alloc (.map #[] 0)).alloc o)) := Lib.hid (fun o => (((Fr.refl _ _).alloc _).alloc _).alloc _)
  go_enter Tryd.func70, Tryd.ntmps70
  go_wp2
  go_ret
  have hb := HB.out
  rw [show ((w.alloc (.map #[] 0)).alloc (.map #[] 0)).heap.size = w.heap.size + 1 + 1 by simp] at hb
  refine ⟨_, _, _, rfl, hb, HF.out _, ?_⟩
  rintro k (rfl | rfl | rfl) <;> omega

/-- The words. -/
def wTask : ByteArray := ⟨#[116, 97, 115, 107]⟩
def wId : ByteArray := ⟨#[105, 100]⟩
set_option maxRecDepth 100000 in
set_option maxHeartbeats 4000000 in
theorem taken_any {w : World} {g bo bu : Nat} {b : Bo} (h : Book w g bo bu b) {t i : Int} (ht : I64 t) (hi : I64 i) :
    Calls Tryd.prog 109 #[.pointer (some ⟨g, 0, none⟩), thV t i] w fun e w' => e = .returned (.string (if (t, i) ∈ b.used then (if t = 2 then wTask else wId) else ⟨#[]⟩)) ∧ Fr (fun _ => False) w w' := by
  obtain ⟨Do, Du, h⟩ := h
  obtain ⟨hu1, hu2⟩ := h.used t i ht hi
  obtain ⟨W, hW⟩ : ∃ W, w.alloc (.cells #[.int .i64 t, .int .i64 i] 145) = W := ⟨_, rfl⟩
  obtain ⟨g0, hg0⟩ : ∃ g0, w.heap.size = g0 := ⟨_, rfl⟩
  have FW : Hid (Fr (fun _ => False) w W) := Lib.hid (by rw [← hW]; exact (Fr.refl _ _).alloc _)
  have KW : Hid (Bk W g0 145 #[.int .i64 t, .int .i64 i]) := Lib.hid (by rw [← hW, ← hg0]; exact Bk.new _ _ _)
  have HB := Lib.hid (h.blk.fr FW.out (fun h => h))
  have HL : Hid (∀ w', Fr (fun _ => False) W w' → (Instr.lookup 115 (.map (some bu)) (thV t i) true).run Tryd.prog w' = .ok (.tuple #[.agg #[], .bool (decide ((t, i) ∈ b.used))]) w') := Lib.hid (fun w' hf => by
    have hm := h.mu.fr (FW.out.trans hf (fun _ _ h => h)) (fun h => h)
    by_cases hm2 : (t, i) ∈ b.used
    · rw [decide_eq_true hm2]; exact (hm.at1 kThg tUsed (zeroUnit w') (th_of ht hi) (hu1 hm2)).1
    · rw [decide_eq_false hm2]; exact (hm.at0 kThg tUsed (zeroUnit w') (th_of ht hi) (hu2 hm2)).1)
  have HD : Hid (∀ x : Bool, decide ((t, i) ∈ b.used) = x → (if (t, i) ∈ b.used then (if t = 2 then wTask else wId) else ⟨#[]⟩) = (if x = true then (if t = 2 then wTask else wId) else (⟨#[]⟩ : ByteArray))) := Lib.hid (fun x hx => by
    subst hx; simp)
  obtain ⟨u, hu⟩ : ∃ u, decide ((t, i) ∈ b.used) = u := ⟨_, rfl⟩
  rw [HD.out u hu]
  rw [hu] at HL
  unfold thV at *
  clear h hu1 hu2 HD hu ht hi
  go_enter Tryd.func109, Tryd.ntmps109
  go_wp2_with fail
  refine wp_region_held_drew (S := (fun w' => Fr (fun _ => False) W w')) (by kernel_rfl) ((Fr.refl _ _).drew) (fun hHeld => ?_)
  refine wpAnyH_takeD (i := 0) (v := ?_) (some 8) rfl rfl (by kernel_rfl) (by kernel_rfl) (by kernel_rfl) (fun _ _ _ h => h) (Or.inl ⟨by rfl, ?_⟩) (by assumption) ?_
  rotate_left
  · intro w' hSw
    go_simp
    first | done | with_reducible rfl
  try simp only [Go.Act.put, List.setIfInBounds_toArray, List.set_cons_zero, List.set_cons_succ]
  refine wpAnyH_takeD (i := 1) (v := ?_) (some 9) rfl rfl (by kernel_rfl) (by kernel_rfl) (by kernel_rfl) (fun _ _ _ h => h) (Or.inl ⟨by rfl, ?_⟩) (by assumption) ?_
  rotate_left
  · intro w' hSw
    go_simp
    first | done | with_reducible rfl
  try simp only [Go.Act.put, List.setIfInBounds_toArray, List.set_cons_zero, List.set_cons_succ]
  refine wpAnyH_takeD (i := 2) (v := ?_) (some 10) rfl rfl (by kernel_rfl) (by kernel_rfl) (by kernel_rfl) (fun _ _ _ h => h) (Or.inl ⟨by rfl, ?_⟩) (by assumption) ?_
  rotate_left
  · intro w' hSw
    go_simp
    first | done | with_reducible rfl
  try simp only [Go.Act.put, List.setIfInBounds_toArray, List.set_cons_zero, List.set_cons_succ]
  refine wpAnyH_takeD (i := 3) (v := ?_) (some 11) rfl rfl (by kernel_rfl) (by kernel_rfl) (by kernel_rfl) (fun _ _ _ h => h) (Or.inl ⟨by rfl, ?_⟩) (by assumption) ?_
  rotate_left
  · intro w' hSw
    have c4 := (HB.out.fr hSw (fun h => h)).cell 4
    go_simp
    first | done | with_reducible rfl
  try simp only [Go.Act.put, List.setIfInBounds_toArray, List.set_cons_zero, List.set_cons_succ]
  refine wpAnyH_takeD (i := 4) (v := ?_) (some 12) rfl rfl (by kernel_rfl) (by kernel_rfl) (by kernel_rfl) (fun _ _ _ h => h) (Or.inl ⟨by rfl, ?_⟩) (by assumption) ?_
  rotate_left
  · intro w' hSw
    have k0 := (KW.out.fr hSw (fun h => h)).cell 0; have k1 := (KW.out.fr hSw (fun h => h)).cell 1
    go_simp
    first | done | with_reducible rfl
  try simp only [Go.Act.put, List.setIfInBounds_toArray, List.set_cons_zero, List.set_cons_succ]
  refine wpAnyH_takeD (i := 5) (v := ?_) (some 13) rfl rfl (by kernel_rfl) (by kernel_rfl) (by kernel_rfl) (fun _ _ _ h => h) (Or.inl ⟨by rfl, ?_⟩) (by assumption) ?_
  rotate_left
  · intro w' hSw
    have hlk := HL.out w' hSw
    go_simp
    first | done | with_reducible rfl
  try simp only [Go.Act.put, List.setIfInBounds_toArray, List.set_cons_zero, List.set_cons_succ]
  refine wpAnyH_takeD (i := 6) (v := ?_) (some 7) rfl rfl (by kernel_rfl) (by kernel_rfl) (by kernel_rfl) (fun _ _ _ h => h) (Or.inl ⟨by rfl, ?_⟩) (by assumption) ?_
  rotate_left
  · intro w' hSw
    go_simp
    first | done | with_reducible rfl
  try simp only [Go.Act.put, List.setIfInBounds_toArray, List.set_cons_zero, List.set_cons_succ]
  refine wpAnyH_takeD (i := 7) (v := ?_) (some 14) rfl rfl (by kernel_rfl) (by kernel_rfl) (by kernel_rfl) (fun _ _ _ h => h) (Or.inl ⟨by rfl, ?_⟩) (by assumption) ?_
  rotate_left
  · intro w' hSw
    go_simp
    first | done | with_reducible rfl
  try simp only [Go.Act.put, List.setIfInBounds_toArray, List.set_cons_zero, List.set_cons_succ]
  refine wpAnyH_takeD (i := 8) (v := ?_) (some 15) rfl rfl (by kernel_rfl) (by kernel_rfl) (by kernel_rfl) (fun _ _ _ h => h) (Or.inl ⟨by rfl, ?_⟩) (by assumption) ?_
  rotate_left
  · intro w' hSw
    go_simp
    first | done | with_reducible rfl
  try simp only [Go.Act.put, List.setIfInBounds_toArray, List.set_cons_zero, List.set_cons_succ]
  refine wpAnyH_ready (rs := [9]) (by kernel_rfl) (by simp) ?_
  refine AllReadyH.cons rfl (fun K hK => ?_) AllReadyH.nil
  go_simp
  refine hK.out _ _ (hHeld.alloc _) (fun hHeld => ?_)
  clear hK K
  try change wpAnyH _ _ _ _ _ _ _ (Go.Act.put _ (some 5) _) _
  try simp only [Go.Act.put, List.setIfInBounds_toArray, List.set_cons_zero, List.set_cons_succ]
  refine wpAnyH_ready (rs := [10]) (by kernel_rfl) (by simp) ?_
  refine AllReadyH.cons rfl (fun K hK => ?_) AllReadyH.nil
  go_simp
  refine hK.out _ _ (hHeld) (fun hHeld => ?_)
  clear hK K
  try change wpAnyH _ _ _ _ _ _ _ (Go.Act.put _ none _) _
  try simp only [Go.Act.put, List.setIfInBounds_toArray, List.set_cons_zero, List.set_cons_succ]
  refine wpAnyH_takeD (i := 11) (v := ?_) (some 6) rfl rfl (by kernel_rfl) (by kernel_rfl) (by kernel_rfl) (fun _ _ _ h => h) (Or.inl ⟨by rfl, ?_⟩) (by assumption) ?_
  rotate_left
  · intro w' hSw
    go_simp
    first | done | with_reducible rfl
  try simp only [Go.Act.put, List.setIfInBounds_toArray, List.set_cons_zero, List.set_cons_succ]
  refine wpAnyH_done (by kernel_rfl) ?_ _
  have HF := Lib.hid (FW.out.trans hHeld (fun _ _ h => h))
  have k0 := (KW.out.fr hHeld (fun h => h)).cell 0
  clear hHeld HL HB KW FW
  cases u with
  | false =>
    go_wp2
    go_ret
    exact ⟨rfl, HF.out⟩
  | true =>
    by_cases ht2 : t = 2
    · subst ht2
      go_wp2
      go_ret
      exact ⟨rfl, HF.out⟩
    · have d2 : (t == 2) = false := by simp [ht2]
      have HT2 := Lib.hid ht2
      clear ht2
      go_wp2
      go_ret
      exact ⟨by first | rfl | (rw [if_pos rfl, if_neg HT2.out]; rfl), HF.out⟩
end Go.Proofs.YtkinbcmnfpkncaaDoor
