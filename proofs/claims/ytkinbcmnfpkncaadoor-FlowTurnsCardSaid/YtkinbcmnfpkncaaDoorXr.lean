/- flow: what FlowLate calls, by what is known of the run in plain words. -/
import Derived.Test.YtkinbcmnfpkncaaDoorXq
namespace Go.Proofs.YtkinbcmnfpkncaaDoor
open Go.RowKit Go.Maps

/-- The law's own run: it lies in what came since w0. -/
def Kept (w0 w : World) (g bm : Nat) (s : FS) : Prop := ∃ A c ps D, FlM w g A s.L.length c ps (some bm) D s ∧ Fr (fun _ => False) w0 w ∧ ∀ y, AF g bm (.slice A s.L.length c) y → w0.heap.size ≤ y
theorem Kept.back {w0 w : World} {g bm : Nat} {s : FS} (h : Kept w0 w g bm s) : Fr (fun _ => False) w0 w := by
  obtain ⟨A, c, ps, D, h1, h2, h3⟩ := h
  exact h2
theorem Kept.fr {w0 w w' : World} {g bm : Nat} {s : FS} (h : Kept w0 w g bm s) (hf : Fr (fun _ => False) w w') : Kept w0 w' g bm s := by
  obtain ⟨A, c, ps, D, h1, h2, h3⟩ := h
  exact ⟨A, c, ps, D, h1.fr hf (fun _ _ h => h), h2.trans hf (fun _ _ h => h), h3⟩
theorem Kept.lay {w0 w w' : World} {g bm : Nat} {A : Option Addr} {n c : Nat} {ps : List VL} {A' : Option Addr} {n' c' : Nat} {ps' : List VL} {D' : DV} {s' : FS} {v : Value} {os : List OL} (hf : Fr (fun _ => False) w0 w) (ha : ∀ y, AF g bm (.slice A n c) y → w0.heap.size ≤ y) (h : LayR w w' g bm A n c ps A' n' c' ps' (some bm) D' s' v os) : Kept w0 w' g bm s' := by
  obtain rfl := h.fl.lenL
  refine ⟨A', c', ps', D', h.fl, hf.trans h.fr (fun y hy e => by have := ha y e; omega), fun y e => ?_⟩
  rcases e with rfl | rfl | e
  · exact ha _ (.inl rfl)
  · exact ha _ (.inr (.inl rfl))
  · rcases h.mv with e2 | ⟨z, e2, hz⟩
    · exact ha _ (.inr (.inr (e2 ▸ e)))
    · rw [e2] at e; injection e with e; have := hf.size; omega
/-- The same, and a block apart from it. -/
def KeptB (w0 w : World) (g bm : Nat) (s : FS) (b : Nat) : Prop := ∃ A c ps D, FlM w g A s.L.length c ps (some bm) D s ∧ Fr (fun _ => False) w0 w ∧ (∀ y, AF g bm (.slice A s.L.length c) y → w0.heap.size ≤ y) ∧ ¬ AF g bm (.slice A s.L.length c) b
theorem KeptB.kept {w0 w : World} {g bm : Nat} {s : FS} {b : Nat} (h : KeptB w0 w g bm s b) : Kept w0 w g bm s := by
  obtain ⟨A, c, ps, D, h1, h2, h3, -⟩ := h
  exact ⟨A, c, ps, D, h1, h2, h3⟩
theorem statusK {w0 w : World} {g bm : Nat} {s : FS} (h : Kept w0 w g bm s) (h0 : 0 < s.L.length) (hs : statL s.L = 1) : Calls Tryd.prog 12 #[.pointer (some ⟨g, 0, none⟩)] w fun e w' => e = .returned (.int .i64 1) ∧ w = w' := by
  obtain ⟨A, c, ps, D, h1, h2, h3⟩ := h
  have := status_any h1 h0
  rwa [hs] at this
theorem rd8_b (w : World) (b : Nat) (hb : b < 256) (cl : Nat × Nat) : Rd8 (w.alloc (.cells #[.int .u8 (b : Int)] 5 cl)) (some ⟨w.heap.size, 0, none⟩) [UInt8.ofNat b] := fun _ => by
  refine ⟨_, rfl, rfl, fun j hj => ?_⟩
  have hj' : j < 1 := by simpa using hj
  have hc := cell_of_row (w.alloc (.cells #[.int .u8 (b : Int)] 5 cl)) w.heap.size j #[.int .u8 (b : Int)] 5 cl (heap_alloc_new w _)
  rw [Nat.zero_add, hc]
  obtain rfl : j = 0 := by omega
  have := B8_ofNat b hb
  simpa [B8] using this.symm
/-- A signal. -/
theorem signalK {w0 w : World} {g bm : Nat} {s : FS} {k : Nat} (h : Kept w0 w g bm s) (hc : Came k s) (hk : k ≤ 40) (b : Nat) (hb : b < 256) (cl : Nat × Nat) :
    Calls Tryd.prog 23 #[.pointer (some ⟨g, 0, none⟩), .slice (some ⟨w.heap.size, 0, none⟩) 1 1, .int .i64 1] (w.alloc (.cells #[.int .u8 (b : Int)] 5 cl)) fun e w' => (∃ v u, e = .returned (.tuple #[v, u])) ∧ ∃ s', Came (k + 1) s' ∧ s'.asked = s.asked ∧ Kept w0 w' g bm s' := by
  obtain ⟨A, c, ps, D, h1, h2, h3⟩ := h
  have hf : Fr (fun _ => False) w (w.alloc (.cells #[.int .u8 (b : Int)] 5 cl)) := (Fr.refl _ _).alloc _
  refine (signal_task (h1.fr hf (fun _ _ h => h)) (by rw [hc.len]; omega) (by rw [hc.tat]; decide) (some ⟨w.heap.size, 0, none⟩) 1 1 [UInt8.ofNat b] 1 (rd8_b w b hb cl) rfl (by omega) (fun ad e _ => by
    injection e with e; subst e
    exact ⟨by simp, fun e => by have := AF.lt h1 e; simp at this⟩) ⟨by omega, by omega⟩ (by have := hc.last; rw [hc.len]; rwa [show 3 + k - 1 = 2 + k by omega]) hc.st (by rw [hc.len]; omega)).mono ?_
  intro e w' hp
  obtain ⟨A', c', ps', D', Ao, mo, co, os, he, -, -, h4⟩ := hp
  refine ⟨⟨_, _, he⟩, _, hc.more (evD 15 [UInt8.ofNat b]) (.inl rfl), ?_, Kept.lay (h2.trans hf (fun _ _ h => h)) h3 h4⟩
  show (s.lay 1 _).1.asked = _
  obtain ⟨-, -, -, -, h5, -⟩ := lay_come s 1 (evD 15 [UInt8.ofNat b]) (.inl rfl)
  rw [h5]; simp [evD]
/-- It is asked to be canceled. -/
theorem cancelK {w0 w : World} {g bm : Nat} {s : FS} {k : Nat} (h : Kept w0 w g bm s) (hc : Came k s) (hk : k ≤ 40) (ha : s.asked = false) :
    Calls Tryd.prog 37 #[.pointer (some ⟨g, 0, none⟩), .int .i64 1] w fun e w' => (∃ v u, e = .returned (.tuple #[v, u])) ∧ ∃ s', Came (k + 1) s' ∧ s'.asked = true ∧ Kept w0 w' g bm s' := by
  obtain ⟨A, c, ps, D, h1, h2, h3⟩ := h
  refine (cancel_task h1 (by rw [hc.len]; omega) (by rw [hc.tat]; decide) ha 1 ⟨by omega, by omega⟩ (by have := hc.last; rw [hc.len]; rwa [show 3 + k - 1 = 2 + k by omega]) hc.st (by rw [hc.len]; omega)).mono ?_
  intro e w' hp
  obtain ⟨A', c', ps', D', Ao, mo, co, os, he, -, -, h4⟩ := hp
  refine ⟨⟨_, _, he⟩, _, hc.more (evD 16 []) (.inr rfl), ?_, Kept.lay h2 h3 h4⟩
  show (s.lay 1 _).1.asked = _
  obtain ⟨-, -, -, -, h5, -⟩ := lay_come s 1 (evD 16 []) (.inr rfl)
  rw [h5]; simp [evD]
/-- A decision that closes, laid for the call. -/
def kd (k : Int) : DL := ⟨k, 0, 0, 0, none, 0, 0⟩
theorem kd_may (k : Int) (h : 5 ≤ k ∧ k ≤ 8) : (kd k).may = true := by
  obtain rfl | rfl | rfl | rfl : k = 5 ∨ k = 6 ∨ k = 7 ∨ k = 8 := by omega
  all_goals rfl
theorem FlM.ask {w : World} {g : Nat} {A : Option Addr} {n c : Nat} {ps : List VL} {mo : Option Nat} {D : DV} {s : FS} (h : FlM w g A n c ps mo D s) (ha : s.asked = true) : w.cell? ⟨g, 8, none⟩ = some (.bool true) := by
  have := h.blk.cell 8
  simp only [FS.cells, List.getElem?_toArray, List.getElem?_cons_zero, List.getElem?_cons_succ, ha] at this
  exact this
theorem kd_kind {w : World} {g : Nat} {A : Option Addr} {n c : Nat} {ps : List VL} {mo : Option Nat} {D : DV} {s : FS} (h : FlM w g A n c ps mo D s) (k : Int) (hk : 5 ≤ k ∧ k ≤ 8) (ha : k = 7 → s.asked = true) : (kd k).k = 5 ∨ (kd k).k = 6 ∨ (kd k).k = 8 ∨ ((kd k).k = 7 ∧ w.cell? ⟨g, 8, none⟩ = some (.bool true)) := by
  obtain rfl | rfl | rfl | rfl : k = 5 ∨ k = 6 ∨ k = 7 ∨ k = 8 := by omega
  · exact .inl rfl
  · exact .inr (.inl rfl)
  · exact .inr (.inr (.inr ⟨rfl, h.ask (ha rfl)⟩))
  · exact .inr (.inr (.inl rfl))
/-- What was laid for one decision. -/
def kdW (w : World) (k : Int) : World := w.alloc (.cells #[.int .i64 k, .int .i64 0, .int .i64 0, .int .i64 0, .slice none 0 0] 59)
theorem kdW_at (w : World) (k : Int) : ∀ j u, (kd k).cells[j]? = some u → (kdW w k).cell? ⟨w.heap.size, 0 + j, none⟩ = some u := fun j u hu => by
  have hb : Bk (kdW w k) w.heap.size 59 (kd k).cells := Bk.new _ _ _
  rw [Nat.zero_add, hb.cell]; exact hu
theorem kdW_fr (w : World) (k : Int) : Fr (fun _ => False) w (kdW w k) := (Fr.refl _ _).alloc _
/-- It is refused: something came. -/
theorem refusedK {w0 w : World} {g bm : Nat} {s : FS} {j : Nat} (h : Kept w0 w g bm s) (hM : MadeT w0) (hc : Came (j + 1) s) (hj : j ≤ 40) (k : Int) (hk : 5 ≤ k ∧ k ≤ 8) (ha : k = 7 → s.asked = true) :
    Calls Tryd.prog 24 #[.pointer (some ⟨g, 0, none⟩), .int .i64 2, .int .i64 0, .slice (some ⟨w.heap.size, 0, none⟩) 1 1, .int .i64 2] (kdW w k) fun e w' => ∃ b off co, e = .returned (.tuple #[.slice (some ⟨b, off, none⟩) 1 co, .int .i64 23]) ∧ (w'.cell? ⟨b, off, none⟩ = some (.int .i64 1) ∧ w'.cell? ⟨b, off + 2, none⟩ = some (.int .i64 (6 + j)) ∧ w'.cell? ⟨b, off + 3, none⟩ = some (.int .i64 1)) ∧ ∃ s', Again (j + 1) s' ∧ s'.asked = s.asked ∧ KeptB w0 w' g bm s' b := by
  obtain ⟨A, c, ps, D, h1, h2, h3⟩ := h
  have hf := kdW_fr w k
  have h9 := h1.fr hf (fun _ _ h => h)
  refine (Decide_late h9 (by rw [hc.len]; omega) (hM.fr (h2.trans hf (fun _ _ h => h)) (fun h => h)) 2 0 2 2 (by unfold FS.taskAt; rw [hc.tat, hc.trn, if_pos ⟨rfl, rfl⟩]) (by rw [hc.beg]; decide) (by rw [hc.late]; simp) ⟨by omega, by omega⟩ (by have := hc.last; rw [hc.len]; rw [show 3 + (j + 1) - 1 = 2 + (j + 1) by omega]; omega) hc.st (by rw [hc.len]; omega) (G := fun _ => False) (kd k) [] (kd_kind h9 k hk ha) (kd_may k hk) (Rd8.nil _ _) rfl (by show (0 : Nat) ≤ 140737488355328; omega) (fun ad e => by cases e) i64z i64z i64z ⟨Int.le_refl _, by show (0 : Int) ≤ 1099511627776; omega⟩ (fun _ h => h.elim) (fun _ h => h.elim) w.heap.size 0 1 (kdW_at w k)).mono ?_
  rintro e w' ⟨A', c', ps', D', Ao, mo, co, os, rfl, hl, ho, h4⟩
  obtain ⟨hv, hva, hvo⟩ := hc.vain
  rw [hvo] at ho
  obtain ⟨rfl, x, rfl, hx⟩ := one_of hl ho
  obtain ⟨b, off, rfl, hcs⟩ := h4.ou.one
  have hap := h4.ou.apart h4.fl.blk (h4.fl.map bm rfl).1 h4.fl.own b (.inl rfl)
  have hkp := Kept.lay (h2.trans hf (fun _ _ h => h)) h3 h4
  refine ⟨b, off, co, rfl, ⟨?_, ?_, ?_⟩, _, hv, hva, ?_⟩
  · have := hcs 0 _ rfl; rw [hx] at this; exact this
  · have := hcs 2 _ rfl; rw [hx] at this; rw [this]; show some (Value.int .i64 _) = _; congr 2; push_cast; omega
  · have := hcs 3 _ rfl; rw [hx] at this; exact this
  · have hfl := h4.fl
    have hmv := h4.mv
    have hL := hfl.lenL
    rw [← hL] at hfl hap hmv
    refine ⟨A', c', ps', D', hfl, hkp.back, fun y e => ?_, hap⟩
    rcases e with rfl | rfl | e
    · exact h3 _ (.inl rfl)
    · exact h3 _ (.inr (.inl rfl))
    · rcases hmv with e2 | ⟨z, e2, hz⟩
      · exact h3 _ (.inr (.inr (e2 ▸ e)))
      · rw [e2] at e; injection e with e; have := (h2.trans hf (fun _ _ h => h)).size; omega
/-- It is begun again. -/
theorem againK {w0 w : World} {g bm : Nat} {s : FS} {j b : Nat} (h : KeptB w0 w g bm s b) (hc : Again (j + 1) s) (hj : j ≤ 40) :
    Calls Tryd.prog 15 #[.pointer (some ⟨g, 0, none⟩), .int .i64 (6 + j), .int .i64 1, .int .i64 3] w fun e w' => (∃ v, e = .returned (.tuple #[v, .int .i64 0])) ∧ (∀ off v, w.cell? ⟨b, off, none⟩ = some v → w'.cell? ⟨b, off, none⟩ = some v) ∧ ∃ s', Begun (j + 1) s' ∧ s'.asked = s.asked ∧ Kept w0 w' g bm s' := by
  obtain ⟨A, c, ps, D, h1, h2, h3, hb9⟩ := h
  have h6 : (6 + (j : Int)) = 5 + ((j + 1 : Nat) : Int) := by push_cast; omega
  rw [h6]
  refine (decides_ok h1 (by rw [hc.len]; omega) (5 + ((j + 1 : Nat) : Int)) 1 3 (5 + ((j + 1 : Nat) : Int)) (by unfold FS.taskAt; rw [hc.tat, hc.trn, hc.beg, if_pos ⟨rfl, rfl⟩]) (by omega) ⟨by omega, by omega⟩ ⟨by omega, by omega⟩ (by have := hc.last; rw [hc.len]; rw [show 5 + (j + 1) - 1 = 4 + (j + 1) by omega]; omega) hc.st (by rw [hc.len]; omega)).mono ?_
  rintro e w' ⟨A', c', ps', mo', D', Ao, mo, co, os, rfl, -, -, h4, h5⟩
  obtain rfl := h5 (by intro e he; simp [evN] at he; subst he; rfl)
  obtain ⟨hb, hba⟩ := hc.begun
  exact ⟨⟨_, rfl⟩, fun off v hv => (h4.fr.cell (World.block_lt_of_cell? w _ hv) hb9).trans hv, _, hb, hba, Kept.lay h2 h3 h4⟩
/-- It closes. -/
theorem closesK' {w0 w : World} {g bm : Nat} {s : FS} (ref turn now : Int) (h : Kept w0 w g bm s) (hM : MadeT w0) (ht : s.taskAt ref turn = (s.tat, s.beg)) (h0 : 0 < s.L.length) (hb : s.beg ≠ 0) (hl : s.late = false) (hnow : 0 ≤ now ∧ now ≤ 1099511627776) (hll : (s.L.getD (s.L.length - 1) default).a ≤ now) (hst : statL s.L = 1) (hn : s.L.length + 2 ≤ 4096) (k : Int) (hk : 5 ≤ k ∧ k ≤ 8) (ha : k = 7 → s.asked = true) :
    Calls Tryd.prog 24 #[.pointer (some ⟨g, 0, none⟩), .int .i64 ref, .int .i64 turn, .slice (some ⟨w.heap.size, 0, none⟩) 1 1, .int .i64 now] (kdW w k) fun e w' => ∃ A co, e = .returned (.tuple #[.slice A 1 co, .int .i64 0]) ∧ Fr (fun _ => False) w0 w' ∧ ∃ st, st ≠ (1 : Int) ∧ Calls Tryd.prog 12 #[.pointer (some ⟨g, 0, none⟩)] w' fun e w9 => e = .returned (.int .i64 st) ∧ w' = w9 := by
  obtain ⟨A, c, ps, D, h1, h2, h3⟩ := h
  have hf := kdW_fr w k
  have h9 := h1.fr hf (fun _ _ h => h)
  refine (Decide_close h9 h0 (hM.fr (h2.trans hf (fun _ _ h => h)) (fun h => h)) ref turn now s.tat ht hb hl hnow hll hst hn (G := fun _ => False) (kd k) [] (kd_kind h9 k hk ha) (kd_may k hk) (Rd8.nil _ _) rfl (by show (0 : Nat) ≤ 140737488355328; omega) (fun ad e => by cases e) i64z i64z i64z ⟨Int.le_refl _, by show (0 : Int) ≤ 1099511627776; omega⟩ (fun _ h => h.elim) (fun _ h => h.elim) w.heap.size 0 1 (kdW_at w k)).mono ?_
  rintro e w' ⟨A', c', ps', mo', D', Ao, mo, co, os, rfl, hl, ho, h4, h5⟩
  obtain ⟨hc1, hc2⟩ := lay_closes s now k hk
  have hm : mo = 1 := by rw [← hl, ← List.length_map OL.o, ho]; exact hc2
  subst hm
  refine ⟨Ao, co, rfl, (h2.trans hf (fun _ _ h => h)).trans h4.fr (fun y hy e => by have := h3 y e; omega), _, hc1, status_any h4.fl (by simp only [List.length_cons]; omega)⟩
end Go.Proofs.YtkinbcmnfpkncaaDoor
