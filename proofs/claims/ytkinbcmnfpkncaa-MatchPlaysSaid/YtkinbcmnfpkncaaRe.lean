/- match: Pop, New. -/
import Derived.Test.YtkinbcmnfpkncaaRd
namespace Go.Proofs.Ytkinbcmnfpkncaa
open Go.RowKit Go.Maps

theorem run_from1_I (b off n c : Nat) (hnc : n + 1 ≤ c) : ∃ A' c', (∀ w, (Instr.sliceAt 59 (.slice (some ⟨b, off, none⟩) (n + 1) c) (some (.int .i64 1)) none none).run Try.prog w = .ok (.slice A' n c') w) ∧ (Value.slice A' n c').ownBlock = some b ∧
    ∀ w p (r : List (Nat × Int)) u v, r.length = n → Row w 61 2 (.slice (some ⟨b, off, none⟩) (n + 1) c) (n + 1) (pcs IV (p :: r)) → Row ((w.setCell ⟨b, off, none⟩ u).setCell ⟨b, off + 1, none⟩ v) 61 2 (.slice A' n c') n (pcs IV r) := by
  have hrow : ∀ w p (r : List (Nat × Int)) u v (A' : Addr) c', r.length = n → Row w 61 2 (.slice (some ⟨b, off, none⟩) (n + 1) c) (n + 1) (pcs IV (p :: r)) → (A' = ⟨b, off + 2, none⟩ ∧ c' = c - 1 ∨ A' = ⟨b, off, none⟩ ∧ n = 0 ∧ c' = 0) → Row ((w.setCell ⟨b, off, none⟩ u).setCell ⟨b, off + 1, none⟩ v) 61 2 (.slice (some A') n c') n (pcs IV r) := by
    intro w p r u v A' c' hr h hA
    rcases h.2 with ⟨e, _⟩ | ⟨b', off', cap, cur, e, hb, h1, h2, h3, h4⟩
    · cases e
    injection e with e1 e2 e3
    injection e1 with e1
    injection e1 with e1 e4
    subst e1 e4 e3
    refine ⟨by rw [pcs_len, hr], .inr ?_⟩
    have hb2 := (hb.set off u).set (off + 1) v
    rcases hA with ⟨rfl, rfl⟩ | ⟨rfl, rfl, rfl⟩
    · refine ⟨b, off + 2, c - 1, _, rfl, hb2, by omega, by omega, by simp; omega, fun j hj => ?_⟩
      rw [Array.getElem?_setIfInBounds_ne (by omega), Array.getElem?_setIfInBounds_ne (by omega), show off + 2 + j = off + (j + 2) by omega, h4 (j + 2) (by rw [pcs_cons]; simp; omega), pcs_cons]
      rfl
    · have : r = [] := List.eq_nil_of_length_eq_zero hr
      subst this
      exact ⟨b, off, 0, _, rfl, hb2, Nat.le_refl _, by unfold maxLen; omega, by simp; omega, fun j hj => by simp [pcs] at hj⟩
  by_cases hck : c = 1
  · subst hck
    obtain rfl : n = 0 := by omega
    exact ⟨some ⟨b, off, none⟩, 0, fun w => by simp [go_sem, Instr.sliceAt], rfl, fun w p r u v hr h => hrow w p r u v _ _ hr h (.inr ⟨rfl, rfl, rfl⟩)⟩
  · have h1 : (1 : Int) ≤ (n : Int) + 1 := by omega
    exact ⟨some ⟨b, off + 2, none⟩, c - 1, fun w => by simp [go_sem, Instr.sliceAt, hck, h1], rfl, fun w p r u v hr h => hrow w p r u v _ _ hr h (.inl ⟨rfl, rfl⟩)⟩

set_option maxRecDepth 100000 in
set_option maxHeartbeats 4000000 in
theorem pop_I {w : World} {g : Nat} {F : Nat → Prop} {t : MT Int} (h : Mt 55 61 IV w g F t) (hp : t.pushed ≤ 1000000) {c : Int} (hc : I64 c) :
    Calls Try.prog 11 #[.pointer (some ⟨g, 0, none⟩), .int .i64 c] w fun e w' => e = .returned (.tuple (hd_I (t.row c))) ∧ MtTo 55 61 IV w g F w' (t.pop c) := by
  obtain ⟨br, D, h⟩ := h
  have CP := Lib.hid (peek_I h hc)
  obtain ⟨v, hv, hl⟩ := h.look tM_I z_I hc
  have q2 : w.cell? ⟨g, 2, none⟩ = some (.map (some br)) := h.blk.cell 2
  have hlk := hl w h.mr
  have H := Lib.hid h
  have HV := Lib.hid hv
  have HPL : Hid (t.pop c = t.drop c (t.row c).tail) := Lib.hid rfl
  have HLAY := Lib.hid (fun w1 v' r h0 f1 hrow hm => lay_I (w1 := w1) (v' := v') (r := r) h hc hp hv h0 f1 hrow hm)
  obtain ⟨A, k, rfl, hk, -, hA⟩ := hv.row.form
  have hrow := hv.row
  have HR : Hid (t.row c = [] → t.pop c = t) := Lib.hid (fun e => by
    unfold MT.pop MT.drop
    obtain ⟨m, p, f⟩ := t
    congr 1
    funext x
    show setR f c _ x = f x
    unfold setR
    split
    · rename_i e2; subst e2; change f x = [] at e; show (f x).tail = _; rw [e]; rfl
    · rfl)
  clear h hv hl hp
  generalize hrr : t.row c = r at *
  cases r with
  | nil =>
    clear hrow hA hk HLAY hlk q2
    simp only [hd_I] at CP
    go_enter Try.func11, Try.ntmps11
    go_wp2_with fail
    refine CP.out.mono ?_; rintro e w1 ⟨rfl, rfl⟩
    go_wp2
    go_ret2
    refine ⟨rfl, ?_⟩
    rw [HR.out (by trivial)]
    exact Mt.to ⟨br, D, H.out⟩ (Fr.refl _ _)
  | cons p r =>
    obtain ⟨b, off, rfl⟩ := hA (by simp)
    simp only [List.length_cons] at hlk hrow hk hA HV HLAY
    have q0 : w.cell? ⟨b, off, none⟩ = some (.int .i64 p.1) := by have := hrow.cell (j := 0) rfl; simpa using this
    have q1 : w.cell? ⟨b, off + 1, none⟩ = some (.int .i64 p.2) := hrow.cell (j := 1) rfl
    obtain ⟨cur, hbk⟩ := hrow.bk (g := b) rfl
    have z0 := hbk.frozen off
    have z1 := hbk.frozen (off + 1)
    obtain ⟨A', c', hsl, hob, hback⟩ := run_from1_I b off r.length k hk
    have d2 : (0 : Int) < (r.length : Int) + 1 := by omega
    have HROW := Lib.hid (hback w p r (.int .i64 0) (.int .i64 0) rfl hrow)
    have HL2 := Lib.hid (HLAY.out ((w.setCell ⟨b, off, none⟩ (.int .i64 0)).setCell ⟨b, off + 1, none⟩ (.int .i64 0)) (.slice A' r.length c') r (fun e => by cases e)
      (Fr.setCell (S := fun x => some b = some x) (p := ⟨b, off + 1, none⟩) (Fr.setCell (S := fun x => some b = some x) (p := ⟨b, off, none⟩) (Fr.refl _ _) (fun _ => rfl) _) (fun _ => rfl) _) HROW.out (.inl hob))
    have d3 : (0 : Int) < ((r.length + 1 : Nat) : Int) := by omega
    clear hrow hk hA HLAY hbk hback hob
    simp only [hd_I] at CP
    generalize r.length = n at *
    go_enter Try.func11, Try.ntmps11
    go_wp2_with fail
    refine CP.out.mono ?_; rintro e w1 ⟨rfl, rfl⟩
    clear CP
    go_wp2_with fail
    refine HL2.out.mono ?_; rintro e w2 ⟨⟨v, rfl⟩, hto, -⟩
    have HTO := Lib.hid hto
    clear hto HL2 hlk q0 q1 z0 z1 q2
    go_wp2
    go_ret2
    refine ⟨rfl, ?_⟩
    rw [HPL.out]
    exact HTO.out

set_option maxRecDepth 100000 in
set_option maxHeartbeats 2000000 in
theorem new_I {most : Int} (h1 : 1 ≤ most) (h2 : most ≤ 65536) (w : World) :
    Calls Try.prog 7 #[.int .i64 most] w fun e w' => ∃ g, e = .returned (.tuple #[.pointer (some ⟨g, 0, none⟩), .int .i64 0]) ∧ w.heap.size ≤ g ∧ Fr (fun _ => False) w w' ∧ Mt 55 61 IV w' g (fun k => w.heap.size ≤ k ∧ k < w'.heap.size) (newMT Int most) := by
  have hmm := @run_makeMap Try.prog
  have d1 : decide (most < 1) = false := decide_eq_false (by omega)
  have d2 : decide ((65536 : Int) < most) = false := decide_eq_false (by omega)
  go_enter Try.func7, Try.ntmps7
  go_wp2
  go_ret2
  refine ⟨_, rfl, by simp, ((Fr.refl _ _).alloc _).alloc _, w.heap.size, .map [], ?_⟩
  have hs : ((w.alloc (.map #[] 0)).alloc (.cells #[.int .i64 most, .int .i64 0, .map (some w.heap.size)] 55)).heap.size = w.heap.size + 1 + 1 := by simp
  refine ⟨?_, ?_, fun c _ _ => rfl, fun c _ h => absurd rfl h, fun c c' v v' k _ _ h => (h.not rfl).elim, Nat.le_refl _, ?_, ?_, ?_, fun k hk => hk.2⟩
  · have := Bk.new (w.alloc (.map #[] 0)) 55 #[.int .i64 most, .int .i64 0, .map (some w.heap.size)]
    simpa [newMT] using this
  · exact (MV.new w _).fr (S := fun _ => False) ((Fr.refl _ _).alloc _) (fun h => h)
  · simp
  · simp
  · simp; omega
set_option maxRecDepth 100000 in
set_option maxHeartbeats 2000000 in
theorem newNo_I {most : Int} (h : most < 1 ∨ 65536 < most) (w : World) :
    Calls Try.prog 7 #[.int .i64 most] w fun e w' => e = .returned (.tuple #[.pointer none, .int .i64 1]) ∧ w' = w := by
  by_cases h1 : most < 1
  · have d1 : decide (most < 1) = true := decide_eq_true h1
    clear h h1
    go_enter Try.func7, Try.ntmps7
    go_wp2
    go_ret2
    exact ⟨rfl, rfl⟩
  · have d1 : decide (most < 1) = false := decide_eq_false h1
    have d2 : decide ((65536 : Int) < most) = true := decide_eq_true (by omega)
    clear h h1
    go_enter Try.func7, Try.ntmps7
    go_wp2
    go_ret2
    exact ⟨rfl, rfl⟩

theorem run_from1_S (b off n c : Nat) (hnc : n + 1 ≤ c) : ∃ A' c', (∀ w, (Instr.sliceAt 82 (.slice (some ⟨b, off, none⟩) (n + 1) c) (some (.int .i64 1)) none none).run Try.prog w = .ok (.slice A' n c') w) ∧ (Value.slice A' n c').ownBlock = some b ∧
    ∀ w p (r : List (Nat × ByteArray)) u v, r.length = n → Row w 84 2 (.slice (some ⟨b, off, none⟩) (n + 1) c) (n + 1) (pcs Value.string (p :: r)) → Row ((w.setCell ⟨b, off, none⟩ u).setCell ⟨b, off + 1, none⟩ v) 84 2 (.slice A' n c') n (pcs Value.string r) := by
  have hrow : ∀ w p (r : List (Nat × ByteArray)) u v (A' : Addr) c', r.length = n → Row w 84 2 (.slice (some ⟨b, off, none⟩) (n + 1) c) (n + 1) (pcs Value.string (p :: r)) → (A' = ⟨b, off + 2, none⟩ ∧ c' = c - 1 ∨ A' = ⟨b, off, none⟩ ∧ n = 0 ∧ c' = 0) → Row ((w.setCell ⟨b, off, none⟩ u).setCell ⟨b, off + 1, none⟩ v) 84 2 (.slice (some A') n c') n (pcs Value.string r) := by
    intro w p r u v A' c' hr h hA
    rcases h.2 with ⟨e, _⟩ | ⟨b', off', cap, cur, e, hb, h1, h2, h3, h4⟩
    · cases e
    injection e with e1 e2 e3
    injection e1 with e1
    injection e1 with e1 e4
    subst e1 e4 e3
    refine ⟨by rw [pcs_len, hr], .inr ?_⟩
    have hb2 := (hb.set off u).set (off + 1) v
    rcases hA with ⟨rfl, rfl⟩ | ⟨rfl, rfl, rfl⟩
    · refine ⟨b, off + 2, c - 1, _, rfl, hb2, by omega, by omega, by simp; omega, fun j hj => ?_⟩
      rw [Array.getElem?_setIfInBounds_ne (by omega), Array.getElem?_setIfInBounds_ne (by omega), show off + 2 + j = off + (j + 2) by omega, h4 (j + 2) (by rw [pcs_cons]; simp; omega), pcs_cons]
      rfl
    · have : r = [] := List.eq_nil_of_length_eq_zero hr
      subst this
      exact ⟨b, off, 0, _, rfl, hb2, Nat.le_refl _, by unfold maxLen; omega, by simp; omega, fun j hj => by simp [pcs] at hj⟩
  by_cases hck : c = 1
  · subst hck
    obtain rfl : n = 0 := by omega
    exact ⟨some ⟨b, off, none⟩, 0, fun w => by simp [go_sem, Instr.sliceAt], rfl, fun w p r u v hr h => hrow w p r u v _ _ hr h (.inr ⟨rfl, rfl, rfl⟩)⟩
  · have h1 : (1 : Int) ≤ (n : Int) + 1 := by omega
    exact ⟨some ⟨b, off + 2, none⟩, c - 1, fun w => by simp [go_sem, Instr.sliceAt, hck, h1], rfl, fun w p r u v hr h => hrow w p r u v _ _ hr h (.inl ⟨rfl, rfl⟩)⟩

set_option maxRecDepth 100000 in
set_option maxHeartbeats 4000000 in
theorem pop_S {w : World} {g : Nat} {F : Nat → Prop} {t : MT ByteArray} (h : Mt 81 84 Value.string w g F t) (hp : t.pushed ≤ 1000000) {c : Int} (hc : I64 c) :
    Calls Try.prog 24 #[.pointer (some ⟨g, 0, none⟩), .int .i64 c] w fun e w' => e = .returned (.tuple (hd_S (t.row c))) ∧ MtTo 81 84 Value.string w g F w' (t.pop c) := by
  obtain ⟨br, D, h⟩ := h
  have CP := Lib.hid (peek_S h hc)
  obtain ⟨v, hv, hl⟩ := h.look tM_S z_S hc
  have q2 : w.cell? ⟨g, 2, none⟩ = some (.map (some br)) := h.blk.cell 2
  have hlk := hl w h.mr
  have H := Lib.hid h
  have HV := Lib.hid hv
  have HPL : Hid (t.pop c = t.drop c (t.row c).tail) := Lib.hid rfl
  have HLAY := Lib.hid (fun w1 v' r h0 f1 hrow hm => lay_S (w1 := w1) (v' := v') (r := r) h hc hp hv h0 f1 hrow hm)
  obtain ⟨A, k, rfl, hk, -, hA⟩ := hv.row.form
  have hrow := hv.row
  have HR : Hid (t.row c = [] → t.pop c = t) := Lib.hid (fun e => by
    unfold MT.pop MT.drop
    obtain ⟨m, p, f⟩ := t
    congr 1
    funext x
    show setR f c _ x = f x
    unfold setR
    split
    · rename_i e2; subst e2; change f x = [] at e; show (f x).tail = _; rw [e]; rfl
    · rfl)
  clear h hv hl hp
  generalize hrr : t.row c = r at *
  cases r with
  | nil =>
    clear hrow hA hk HLAY hlk q2
    simp only [hd_S] at CP
    go_enter Try.func24, Try.ntmps24
    go_wp2_with fail
    refine CP.out.mono ?_; rintro e w1 ⟨rfl, rfl⟩
    go_wp2
    go_ret2
    refine ⟨rfl, ?_⟩
    rw [HR.out (by trivial)]
    exact Mt.to ⟨br, D, H.out⟩ (Fr.refl _ _)
  | cons p r =>
    obtain ⟨b, off, rfl⟩ := hA (by simp)
    simp only [List.length_cons] at hlk hrow hk hA HV HLAY
    have q0 : w.cell? ⟨b, off, none⟩ = some (.int .i64 p.1) := by have := hrow.cell (j := 0) rfl; simpa using this
    have q1 : w.cell? ⟨b, off + 1, none⟩ = some (.string p.2) := hrow.cell (j := 1) rfl
    obtain ⟨cur, hbk⟩ := hrow.bk (g := b) rfl
    have z0 := hbk.frozen off
    have z1 := hbk.frozen (off + 1)
    obtain ⟨A', c', hsl, hob, hback⟩ := run_from1_S b off r.length k hk
    have d2 : (0 : Int) < (r.length : Int) + 1 := by omega
    have HROW := Lib.hid (hback w p r (.int .i64 0) (.string ⟨#[]⟩) rfl hrow)
    have HL2 := Lib.hid (HLAY.out ((w.setCell ⟨b, off, none⟩ (.int .i64 0)).setCell ⟨b, off + 1, none⟩ (.string ⟨#[]⟩)) (.slice A' r.length c') r (fun e => by cases e)
      (Fr.setCell (S := fun x => some b = some x) (p := ⟨b, off + 1, none⟩) (Fr.setCell (S := fun x => some b = some x) (p := ⟨b, off, none⟩) (Fr.refl _ _) (fun _ => rfl) _) (fun _ => rfl) _) HROW.out (.inl hob))
    have d3 : (0 : Int) < ((r.length + 1 : Nat) : Int) := by omega
    clear hrow hk hA HLAY hbk hback hob
    simp only [hd_S] at CP
    generalize r.length = n at *
    go_enter Try.func24, Try.ntmps24
    go_wp2_with fail
    refine CP.out.mono ?_; rintro e w1 ⟨rfl, rfl⟩
    clear CP
    go_wp2_with fail
    refine HL2.out.mono ?_; rintro e w2 ⟨⟨v, rfl⟩, hto, -⟩
    have HTO := Lib.hid hto
    clear hto HL2 hlk q0 q1 z0 z1 q2
    go_wp2
    go_ret2
    refine ⟨rfl, ?_⟩
    rw [HPL.out]
    exact HTO.out

set_option maxRecDepth 100000 in
set_option maxHeartbeats 2000000 in
theorem new_S {most : Int} (h1 : 1 ≤ most) (h2 : most ≤ 65536) (w : World) :
    Calls Try.prog 22 #[.int .i64 most] w fun e w' => ∃ g, e = .returned (.tuple #[.pointer (some ⟨g, 0, none⟩), .int .i64 0]) ∧ w.heap.size ≤ g ∧ Fr (fun _ => False) w w' ∧ Mt 81 84 Value.string w' g (fun k => w.heap.size ≤ k ∧ k < w'.heap.size) (newMT ByteArray most) := by
  have hmm := @run_makeMap Try.prog
  have d1 : decide (most < 1) = false := decide_eq_false (by omega)
  have d2 : decide ((65536 : Int) < most) = false := decide_eq_false (by omega)
  go_enter Try.func22, Try.ntmps22
  go_wp2
  go_ret2
  refine ⟨_, rfl, by simp, ((Fr.refl _ _).alloc _).alloc _, w.heap.size, .map [], ?_⟩
  have hs : ((w.alloc (.map #[] 0)).alloc (.cells #[.int .i64 most, .int .i64 0, .map (some w.heap.size)] 81)).heap.size = w.heap.size + 1 + 1 := by simp
  refine ⟨?_, ?_, fun c _ _ => rfl, fun c _ h => absurd rfl h, fun c c' v v' k _ _ h => (h.not rfl).elim, Nat.le_refl _, ?_, ?_, ?_, fun k hk => hk.2⟩
  · have := Bk.new (w.alloc (.map #[] 0)) 81 #[.int .i64 most, .int .i64 0, .map (some w.heap.size)]
    simpa [newMT] using this
  · exact (MV.new w _).fr (S := fun _ => False) ((Fr.refl _ _).alloc _) (fun h => h)
  · simp
  · simp
  · simp; omega
set_option maxRecDepth 100000 in
set_option maxHeartbeats 2000000 in
theorem newNo_S {most : Int} (h : most < 1 ∨ 65536 < most) (w : World) :
    Calls Try.prog 22 #[.int .i64 most] w fun e w' => e = .returned (.tuple #[.pointer none, .int .i64 1]) ∧ w' = w := by
  by_cases h1 : most < 1
  · have d1 : decide (most < 1) = true := decide_eq_true h1
    clear h h1
    go_enter Try.func22, Try.ntmps22
    go_wp2
    go_ret2
    exact ⟨rfl, rfl⟩
  · have d1 : decide (most < 1) = false := decide_eq_false h1
    have d2 : decide ((65536 : Int) < most) = true := decide_eq_true (by omega)
    clear h h1
    go_enter Try.func22, Try.ntmps22
    go_wp2
    go_ret2
    exact ⟨rfl, rfl⟩
end Go.Proofs.Ytkinbcmnfpkncaa
