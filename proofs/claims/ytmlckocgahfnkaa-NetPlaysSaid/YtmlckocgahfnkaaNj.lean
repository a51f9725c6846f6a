/- The net's Again. -/
import Derived.Test.YtmlckocgahfnkaaNh
namespace Go.Proofs.Ytmlckocgahfnkaa
open Go.RowKit

theorem flat_take {α : Type} {f : α → List Value} {k : Nat} (hf : ∀ a, (f a).length = k) : ∀ (l : List α) (i : Nat), (l.flatMap f).take (i * k) = (l.take i).flatMap f
  | [], i => by simp
  | a :: l, 0 => by simp
  | a :: l, i + 1 => by
    rw [List.flatMap_cons, List.take_succ_cons, List.flatMap_cons, ← flat_take hf l i, Nat.add_mul, Nat.one_mul, Nat.add_comm, List.take_append, hf, Nat.add_sub_cancel_left, List.take_of_length_le (by rw [hf]; omega)]
theorem flat_drop {α : Type} {f : α → List Value} {k : Nat} (hf : ∀ a, (f a).length = k) : ∀ (l : List α) (i : Nat), (l.flatMap f).drop (i * k) = (l.drop i).flatMap f
  | [], i => by simp
  | a :: l, 0 => by simp
  | a :: l, i + 1 => by
    rw [List.flatMap_cons, List.drop_succ_cons, ← flat_drop hf l i, Nat.add_mul, Nat.one_mul, Nat.add_comm, List.drop_append, hf, Nat.add_sub_cancel_left, List.drop_of_length_le (by rw [hf]; omega), List.nil_append]
theorem plc_ins (ps : List PL) (i : Nat) (p : PL) : (plc ps).take (i * 4) ++ (p.cells ++ (plc ps).drop (i * 4)) = plc (ps.take i ++ p :: ps.drop i) := by
  unfold plc
  rw [flat_take PL.cells_len, flat_drop PL.cells_len]
  simp

theorem insert_any (b off n c i xb : Nat) (cs xs : List Value) (w : World) (h : Row w 67 4 (.slice (some ⟨b, off, none⟩) n c) n cs) (hi : i ≤ n) (hx : xs.length = 4) (hxb : xb ≠ b) (hxk : Bk w xb 67 xs.toArray) (h1 : ∀ u ∈ cs, u.oneCell' = true) (h2 : ∀ u ∈ xs, u.oneCell' = true) (hn : n ≤ 1048576) :
    Calls Try.prog 37 #[.slice (some ⟨b, off, none⟩) n c, .int .i64 (i : Int), .slice (some ⟨xb, 0, none⟩) 1 1] w fun e w' =>
      ∃ A' c', e = .returned (.slice A' (n + 1) c') ∧ Row w' 67 4 (.slice A' (n + 1) c') (n + 1) (cs.take (i * 4) ++ (xs ++ cs.drop (i * 4))) ∧ Fr (fun k => k = b) w w' ∧ Moved w (.slice (some ⟨b, off, none⟩) n c) (.slice A' (n + 1) c') := by
  by_cases e : i = n
  · subst e
    refine (insert_end b off i c xb cs xs w h hx (fun j u hu => by rw [Nat.zero_add, hxk.cell]; simpa using hu) h2 hn).mono ?_
    rintro e w' ⟨A', c', rfl, h3, h4, h5⟩
    have hl := h.1
    refine ⟨A', c', rfl, ?_, h4, h5⟩
    rw [List.take_of_length_le (by omega), List.drop_of_length_le (by omega), List.append_nil]
    exact h3
  · by_cases hr : n + 1 ≤ c
    · refine (insert_shift b off n c i xb cs xs w h (by omega) hx hxb hxk h1 h2 hn hr).mono ?_
      rintro e w' ⟨rfl, h3, h4⟩
      exact ⟨_, _, rfl, h3, h4, .inl rfl⟩
    · refine (insert_grow b off n c i xb cs xs w h (by omega) hx hxk h1 h2 hn (by omega)).mono ?_
      rintro e w' ⟨g, c', rfl, h3, h4, h5⟩
      exact ⟨_, _, rfl, h3, h4.mono (fun _ _ h => h.elim), .inr ⟨g, rfl, h5⟩⟩

/-- What a packet that is laid once more leaves. -/
theorem again_fin {w w3 : World} {g mb i : Nat} {s : NS} {b off c c3 : Nat} {A3 : Option Addr} {ps : List PL} (h : NetM w g s ⟨mb, .slice (some ⟨b, off, none⟩) ps.length c, ps⟩) (hi : i < ps.length)
    (hr : Row w3 67 4 (.slice A3 (ps.length + 1) c3) (ps.length + 1) ((plc ps).take (s.past i * 4) ++ ((ps.getD i default).cells ++ (plc ps).drop (s.past i * 4)))) (hf : Fr (fun k => k = b) w w3)
    (hb : Bk w3 g 59 (ncells s ⟨mb, .slice (some ⟨b, off, none⟩) ps.length c, ps⟩)) (hm : Moved w (.slice (some ⟨b, off, none⟩) ps.length c) (.slice A3 (ps.length + 1) c3)) :
    ∃ m', NetM (w3.setCell ⟨g, 3, none⟩ (.slice A3 (ps.length + 1) c3)) g (s.again i) m' ∧
      Fr (NW g ⟨mb, .slice (some ⟨b, off, none⟩) ps.length c, ps⟩) w (w3.setCell ⟨g, 3, none⟩ (.slice A3 (ps.length + 1) c3)) ∧ ∀ k, NB g m' k → NB g ⟨mb, .slice (some ⟨b, off, none⟩) ps.length c, ps⟩ k ∨ w.heap.size ≤ k := by
  have f4 := Bk.fr_set (w := w3) (g := g) 3 (.slice A3 (ps.length + 1) c3)
  have hll := h.ll
  have hil : i < s.l.length := by rw [← hll]; exact hi
  have hple := s.past_le i hil
  have hpi := getD_mem hi
  have hf' : Fr (fun k => (Value.slice (some ⟨b, off, none⟩) ps.length c).ownBlock = some k) w w3 := hf.mono (fun x _ e => by rw [e]; rfl)
  have hmem : ∀ q, q ∈ ps.take (s.past i) ++ ps.getD i default :: ps.drop (s.past i) → q ∈ ps := fun q hq => by
    rcases List.mem_append.1 hq with hq | hq
    · exact List.mem_of_mem_take hq
    · rcases List.mem_cons.1 hq with hq | hq
      · rw [hq]; exact hpi
      · exact List.mem_of_mem_drop hq
  refine ⟨⟨mb, .slice A3 (ps.length + 1) c3, ps.take (s.past i) ++ ps.getD i default :: ps.drop (s.past i)⟩, ⟨?_, h.n9, ?_, (h.map.fr hf' h.rowm).fr f4 (fun e => h.mapg e.symm), ?_, ?_, ?_⟩, ?_, ?_⟩
  · intro q hq
    refine h.ok q ?_
    unfold NS.again at hq
    rcases List.mem_append.1 hq with hq | hq
    · exact List.mem_of_mem_take hq
    · rcases List.mem_cons.1 hq with hq | hq
      · rw [hq]; exact getD_mem hil
      · exact List.mem_of_mem_drop hq
  · simpa [ncells, NS.again] using hb.set 3 (.slice A3 (ps.length + 1) c3)
  · have hne := hr.ne hb (by decide)
    have := hr.fr f4 (fun k e e2 => hne (by rw [e, e2]))
    rw [plc_ins] at this
    have e1 : (ps.take (s.past i) ++ ps.getD i default :: ps.drop (s.past i)).length = ps.length + 1 := by simp; omega
    simp only [e1]
    exact this
  · simp only [NS.again, List.map_append, List.map_take, List.map_cons, List.map_drop]
    rw [h.pk hi, ← h.l]
  · intro q hq
    have hq' := hmem q hq
    exact ((h.each q hq').fr hf' (fun k hk e => h.apart hq' (.inr (.inr e)) hk)).fr f4 (fun k hk e => h.apart hq' (.inl e) hk)
  · exact (hf'.mono (fun _ _ e => .inr (.inr e))).trans f4 (fun _ _ e => .inl e)
  · intro k hk
    rcases hk with (e | e | e) | ⟨q, hq, e⟩
    · exact .inl (.inl (.inl e))
    · exact .inl (.inl (.inr (.inl e)))
    · rcases hm with e1 | ⟨x, e1, hx⟩
      · exact .inl (.inl (.inr (.inr (e1.symm.trans e))))
      · rw [e1] at e; injection e with e; exact .inr (by omega)
    · exact .inl (.inr ⟨q, hmem q hq, e⟩)

theorem again_none (g : Nat) (s : NS) (m : NL) (a : Int) (w : World) (h : NetM w g s m) (hw : s.waits a = false) :
    Calls Try.prog 19 #[.pointer (some ⟨g, 0, none⟩), .int .i64 a] w fun e w' => e = .returned (.int .i64 2) ∧ w = w' := by
  obtain ⟨A, c, hLV, _, _, _⟩ := h.row.form
  have C := Lib.hid (waits_any g m.ps.length c A a w (by rw [← hLV]; exact h.cells rfl))
  unfold NS.waits at hw
  rw [h.ll, hw] at C
  clear h hLV
  go_enter Try.func19, Try.ntmps19
  go_wp2_with fail
  refine C.out.mono ?_; rintro e w1 ⟨rfl, rfl⟩
  go_wp2
  go_ret
  exact ⟨rfl, rfl⟩

set_option maxRecDepth 100000 in
set_option maxHeartbeats 8000000 in
theorem again_any (g i : Nat) (s : NS) (m : NL) (w : World) (h : NetM w g s m) (hi : i < s.l.length) (hq : s.l.length < 4096) :
    Calls Try.prog 19 #[.pointer (some ⟨g, 0, none⟩), .int .i64 (i : Int)] w fun e w' => e = .returned (.int .i64 0) ∧ ∃ m', NetM w' g (s.again i) m' ∧ Fr (NW g m) w w' ∧ ∀ k, NB g m' k → NB g m k ∨ w.heap.size ≤ k := by
  obtain ⟨A, c, hLV, hlc, hcm, hA⟩ := h.row.form
  have hll := h.ll
  have C := Lib.hid (waits_any g m.ps.length c A i w (by rw [← hLV]; exact h.cells rfl))
  rw [show (decide (0 ≤ (i : Int)) && decide ((i : Int) < (m.ps.length : Int))) = true by simp; omega] at C
  have CP := Lib.hid (fun W (hf : Fr (fun _ => False) w W) => past_any g i s m W (h.fr0 hf) hi (by omega))
  obtain ⟨mb, LV, ps⟩ := m
  simp only at *
  subst hLV
  obtain ⟨b, off, rfl⟩ := hA (by omega)
  have hip : i < ps.length := by omega
  have HC := Lib.hid (fun w' (hf : Fr (fun _ => False) w w') => show w'.cell? ⟨g, 3, none⟩ = some (.slice (some ⟨b, off, none⟩) ps.length c) from (h.fr0 hf).cells rfl)
  have HE := Lib.hid (fun w' (hf : Fr (fun _ => False) w w') => (h.fr0 hf).at4 hip)
  have H := Lib.hid h
  have hin : (i : Int) < (ps.length : Int) := by omega
  have hi0 : (0 : Int) ≤ (i : Int) := by omega
  have hlq : decide ((4096 : Int) ≤ (ps.length : Int)) = false := by simp; omega
  have HIP := Lib.hid hip
  have HPL := Lib.hid (show s.past i ≤ ps.length by rw [hll]; exact s.past_le i hi)
  have HQ := Lib.hid (show ps.length ≤ 1048576 by omega)
  obtain ⟨X, hX⟩ : ∃ X, s.past i = X := ⟨_, rfl⟩
  have HX := Lib.hid hX
  rw [hX] at CP HPL
  obtain ⟨p, hp⟩ : ∃ p, ps.getD i default = p := ⟨_, rfl⟩
  have HP := Lib.hid hp
  rw [hp] at HE
  have HR := Lib.hid (fun W (hf : Fr (fun _ => False) w W) xb (hxb : xb ≠ b) (hxk : Bk W xb 67 p.cells.toArray) => insert_any b off ps.length c X xb (plc ps) p.cells W (H.out.row.fr0 hf) HPL.out rfl hxb hxk (plc_one ps) (fun u hu => plc_one [p] u (by simpa [plc] using hu)) HQ.out)
  have HBL := Lib.hid (show b < w.heap.size from H.out.row.lt rfl)
  obtain ⟨f, hfn⟩ : ∃ f, p.fn = f := ⟨_, rfl⟩
  have HFN := Lib.hid hfn
  rw [hfn] at HE
  clear h hll hlc hcm hA hi hq hip hp hX hfn
  have c3 := HC.out w (Fr.refl _ _)
  go_enter Try.func19, Try.ntmps19
  go_wp2_with fail
  refine C.out.mono ?_; rintro e w1 ⟨rfl, rfl⟩
  go_wp2_with fail
  refine wp_region_Z [16, 19] (fun w' => Fr (fun _ => False) w w') (by kernel_rfl) ((Fr.refl _ _).drew) (fun hHeld => ?_)
  refine anyZ_pure (i := 0) (v := ?_) (some 15) rfl rfl (by kernel_rfl) (by kernel_rfl) (by kernel_rfl) (by kernel_rfl) (fun _ _ _ h => h) (Or.inl ⟨by rfl, ?_⟩) (fun _ => hHeld) ?_
  rotate_left
  · intro w' _
    go_simp
    first | done | with_reducible rfl
  try simp only [Go.Act.put, List.setIfInBounds_toArray, List.set_cons_zero, List.set_cons_succ]
  refine anyZ_pure (i := 1) (v := ?_) (some 16) rfl rfl (by kernel_rfl) (by kernel_rfl) (by kernel_rfl) (by kernel_rfl) (fun _ _ _ h => h) (Or.inl ⟨by rfl, ?_⟩) (fun _ => hHeld) ?_
  rotate_left
  · intro w' _
    go_simp
    first | done | with_reducible rfl
  try simp only [Go.Act.put, List.setIfInBounds_toArray, List.set_cons_zero, List.set_cons_succ]
  refine anyZ_pure (i := 2) (v := ?_) (some 17) rfl rfl (by kernel_rfl) (by kernel_rfl) (by kernel_rfl) (by kernel_rfl) (fun _ _ _ h => h) (Or.inl ⟨by rfl, ?_⟩) (fun _ => hHeld) ?_
  rotate_left
  · intro w' _
    go_simp
    first | done | with_reducible rfl
  try simp only [Go.Act.put, List.setIfInBounds_toArray, List.set_cons_zero, List.set_cons_succ]
  refine anyZ_pure (i := 3) (v := ?_) (some 18) rfl rfl (by kernel_rfl) (by kernel_rfl) (by kernel_rfl) (by kernel_rfl) (fun _ _ _ h => h) (Or.inl ⟨by rfl, ?_⟩) (fun _ => hHeld) ?_
  rotate_left
  · intro w' _
    go_simp
    first | done | with_reducible rfl
  try simp only [Go.Act.put, List.setIfInBounds_toArray, List.set_cons_zero, List.set_cons_succ]
  refine anyZ_read (i := 4) (v := ?_) (some 19) [16, 17, 18, 19] rfl rfl (by kernel_rfl) (by kernel_rfl) (by kernel_rfl) (by kernel_rfl) (by kernel_rfl) (by kernel_rfl) (fun _ _ _ h => h) (Or.inl ⟨by rfl, ?_⟩) hHeld ?_
  rotate_left
  · intro w' hSw
    have q1 := HC.out w' hSw
    go_simp
    first | done | with_reducible rfl
  try simp only [Go.Act.put, List.setIfInBounds_toArray, List.set_cons_zero, List.set_cons_succ]
  refine anyZ_pure (i := 5) (v := ?_) (some 20) rfl rfl (by kernel_rfl) (by kernel_rfl) (by kernel_rfl) (by kernel_rfl) (fun _ _ _ h => h) (Or.inl ⟨by rfl, ?_⟩) (fun _ => hHeld) ?_
  rotate_left
  · intro w' _
    go_simp
    first | done | with_reducible rfl
  try simp only [Go.Act.put, List.setIfInBounds_toArray, List.set_cons_zero, List.set_cons_succ]
  refine anyZ_pure (i := 6) (v := ?_) (some 21) rfl rfl (by kernel_rfl) (by kernel_rfl) (by kernel_rfl) (by kernel_rfl) (fun _ _ _ h => h) (Or.inl ⟨by rfl, ?_⟩) (fun _ => hHeld) ?_
  rotate_left
  · intro w' _
    go_simp
    first | done | with_reducible rfl
  try simp only [Go.Act.put, List.setIfInBounds_toArray, List.set_cons_zero, List.set_cons_succ]
  refine anyZ_pure (i := 8) (v := ?_) (some 23) rfl rfl (by kernel_rfl) (by kernel_rfl) (by kernel_rfl) (by kernel_rfl) (fun _ _ _ h => h) (Or.inl ⟨by rfl, ?_⟩) (fun _ => hHeld) ?_
  rotate_left
  · intro w' _
    go_simp
    first | done | with_reducible rfl
  try simp only [Go.Act.put, List.setIfInBounds_toArray, List.set_cons_zero, List.set_cons_succ]
  refine anyZ_pure (i := 9) (v := ?_) (some 24) rfl rfl (by kernel_rfl) (by kernel_rfl) (by kernel_rfl) (by kernel_rfl) (fun _ _ _ h => h) (Or.inl ⟨by rfl, ?_⟩) (fun _ => hHeld) ?_
  rotate_left
  · intro w' _
    go_simp
    first | done | with_reducible rfl
  try simp only [Go.Act.put, List.setIfInBounds_toArray, List.set_cons_zero, List.set_cons_succ]
  refine anyZ_pure (i := 10) (v := ?_) (some 25) rfl rfl (by kernel_rfl) (by kernel_rfl) (by kernel_rfl) (by kernel_rfl) (fun _ _ _ h => h) (Or.inl ⟨by rfl, ?_⟩) (fun _ => hHeld) ?_
  rotate_left
  · intro w' _
    go_simp
    first | done | with_reducible rfl
  try simp only [Go.Act.put, List.setIfInBounds_toArray, List.set_cons_zero, List.set_cons_succ]
  refine anyZ_read (i := 11) (v := ?_) (some 26) [13, 14, 15, 16, 17, 18, 19] rfl rfl (by kernel_rfl) (by kernel_rfl) (by kernel_rfl) (by kernel_rfl) (by kernel_rfl) (by kernel_rfl) (fun _ _ _ h => h) (Or.inl ⟨by rfl, ?_⟩) hHeld ?_
  rotate_left
  · intro w' hSw
    have q1 := HC.out w' hSw
    go_simp
    first | done | with_reducible rfl
  try simp only [Go.Act.put, List.setIfInBounds_toArray, List.set_cons_zero, List.set_cons_succ]
  refine anyZ_pure (i := 12) (v := ?_) (some 27) rfl rfl (by kernel_rfl) (by kernel_rfl) (by kernel_rfl) (by kernel_rfl) (fun _ _ _ h => h) (Or.inl ⟨by rfl, ?_⟩) (fun _ => hHeld) ?_
  rotate_left
  · intro w' _
    go_simp
    first | done | with_reducible rfl
  try simp only [Go.Act.put, List.setIfInBounds_toArray, List.set_cons_zero, List.set_cons_succ]
  refine anyZ_pure (i := 13) (v := ?_) (some 28) rfl rfl (by kernel_rfl) (by kernel_rfl) (by kernel_rfl) (by kernel_rfl) (fun _ _ _ h => h) (Or.inl ⟨by rfl, ?_⟩) (fun _ => hHeld) ?_
  rotate_left
  · intro w' _
    go_simp
    first | done | with_reducible rfl
  try simp only [Go.Act.put, List.setIfInBounds_toArray, List.set_cons_zero, List.set_cons_succ]
  refine anyZ_read (i := 14) (v := ?_) (some 29) [15, 16, 17, 18, 19] rfl rfl (by kernel_rfl) (by kernel_rfl) (by kernel_rfl) (by kernel_rfl) (by kernel_rfl) (by kernel_rfl) (fun _ _ _ h => h) (Or.inl ⟨by rfl, ?_⟩) hHeld ?_
  rotate_left
  · intro w' hSw
    obtain ⟨q1, q2, q3, q4⟩ := HE.out w' hSw
    go_simp
    first | done | with_reducible rfl
  try simp only [Go.Act.put, List.setIfInBounds_toArray, List.set_cons_zero, List.set_cons_succ]
  refine anyZ_ready (rs := [7, 15]) (by kernel_rfl) (by simp) ?_
  refine AllZ.step rfl (fun K hK => ?_) (AllZ.step rfl (fun K hK => ?_) AllZ.nil)
  · skip
    go_simp
    refine (CP.out _ hHeld).mono ?_; rintro e w1 ⟨rfl, hf1⟩
    have HF1 := Lib.hid hf1
    clear hf1
    try go_simp
    refine hK.out _ _ (hHeld.trans HF1.out (fun _ _ h => h)) (fun hHeld => ?_)
    clear hK K
    try change anyZ _ _ _ _ _ _ _ _ (Go.Act.put _ (some 22) _) _
    try simp only [Go.Act.put, List.setIfInBounds_toArray, List.set_cons_zero, List.set_cons_succ]
    refine anyZ_ready (rs := [15]) (by kernel_rfl) (by simp) ?_
    refine AllZ.step rfl (fun K hK => ?_) AllZ.nil
    go_simp
    have HBX := Lib.hid (show Bk (w1.alloc (.cells #[.int .i64 p.pk.fr, .int .i64 p.pk.to, .int .i64 (p.pk.n : Int), f] 67)) w1.heap.size 67 #[.int .i64 p.pk.fr, .int .i64 p.pk.to, .int .i64 (p.pk.n : Int), f] from Bk.new _ _ _)
    refine hK.out _ _ (hHeld.alloc _) (fun hHeld => ?_)
    clear hK K
    try change anyZ _ _ _ _ _ _ _ _ (Go.Act.put _ (some 30) _) _
    try simp only [Go.Act.put, List.setIfInBounds_toArray, List.set_cons_zero, List.set_cons_succ]
    refine anyZ_ready (rs := [16]) (by kernel_rfl) (by simp) ?_
    refine AllZ.last rfl (by kernel_rfl) (fun K hK => ?_) AllZ.nil
    go_simp
    refine (HR.out _ hHeld w1.heap.size (by have h1 := HBL.out; have h2 := hHeld.size; have h3 := HF1.out.size; have h4 : w.drew.heap.size = w.heap.size := rfl; omega) (by rw [show p.cells.toArray = #[.int .i64 p.pk.fr, .int .i64 p.pk.to, .int .i64 (p.pk.n : Int), f] from by unfold PL.cells; rw [HFN.out]]; exact HBX.out)).mono ?_; rintro e w3 ⟨A3, c3, rfl, hr3, hf3, hm3⟩
    have f3 : Fr (fun k => k = b) w w3 := (hHeld.mono (fun _ _ h => h.elim)).trans hf3 (fun _ _ h => h)
    have b3 := H.out.blk.fr f3 (fun e => H.out.rowg (by rw [e]; rfl))
    have k3 : w3.cell? ⟨g, 3, none⟩ = some (.slice (some ⟨b, off, none⟩) ps.length c) := b3.cell 3
    have z3 := b3.frozen 3
    have HR3 := Lib.hid hr3
    have F3 := Lib.hid f3
    have B3 := Lib.hid b3
    have HM3 := Lib.hid (hm3.imp id (fun ⟨k, e, hk⟩ => ⟨k, e, Nat.le_trans hHeld.size hk⟩) : Moved w (.slice (some ⟨b, off, none⟩) ps.length c) (.slice A3 (ps.length + 1) c3))
    clear hr3 hf3 f3 b3 hm3 hHeld HC C CP HR HE
    try go_simp
    refine hK.out _ _ ?_
    clear hK K
    try change anyZ _ _ _ _ _ _ _ _ (Go.Act.put _ (some 31) _) _
    try simp only [Go.Act.put, List.setIfInBounds_toArray, List.set_cons_zero, List.set_cons_succ]
    refine anyZ_pure (i := 17) (v := ?_) (some 32) rfl rfl (by kernel_rfl) (by kernel_rfl) (by kernel_rfl) (by kernel_rfl) (fun _ _ _ h => h) (Or.inl ⟨by rfl, ?_⟩) (notYet (by kernel_rfl)) ?_
    rotate_left
    · intro w' _
      go_simp
      first | done | with_reducible rfl
    try simp only [Go.Act.put, List.setIfInBounds_toArray, List.set_cons_zero, List.set_cons_succ]
    refine anyZ_pure (i := 18) (v := ?_) (some 33) rfl rfl (by kernel_rfl) (by kernel_rfl) (by kernel_rfl) (by kernel_rfl) (fun _ _ _ h => h) (Or.inl ⟨by rfl, ?_⟩) (notYet (by kernel_rfl)) ?_
    rotate_left
    · intro w' _
      go_simp
      first | done | with_reducible rfl
    try simp only [Go.Act.put, List.setIfInBounds_toArray, List.set_cons_zero, List.set_cons_succ]
    refine anyZ_ready (rs := [19]) (by kernel_rfl) (by simp) ?_
    refine AllZ.last rfl (by kernel_rfl) (fun K hK => ?_) AllZ.nil
    go_simp
    refine hK.out _ _ ?_
    clear hK K
    try change anyZ _ _ _ _ _ _ _ _ (Go.Act.put _ none _) _
    try simp only [Go.Act.put, List.setIfInBounds_toArray, List.set_cons_zero, List.set_cons_succ]
    refine anyZ_done (by kernel_rfl) ?_ _
    go_wp2
    go_ret
    have hr3 := HR3.out
    rw [← HX.out, ← HP.out] at hr3
    exact ⟨rfl, again_fin H.out HIP.out hr3 F3.out B3.out HM3.out⟩

  · skip
    go_simp
    have HBX0 := Lib.hid (show Bk (w.alloc (.cells #[.int .i64 p.pk.fr, .int .i64 p.pk.to, .int .i64 (p.pk.n : Int), f] 67)).drew w.heap.size 67 #[.int .i64 p.pk.fr, .int .i64 p.pk.to, .int .i64 (p.pk.n : Int), f] from Bk.new _ _ _)
    refine hK.out _ _ (hHeld.alloc _) (fun hHeld => ?_)
    clear hK K
    try change anyZ _ _ _ _ _ _ _ _ (Go.Act.put _ (some 30) _) _
    try simp only [Go.Act.put, List.setIfInBounds_toArray, List.set_cons_zero, List.set_cons_succ]
    refine anyZ_ready (rs := [7]) (by kernel_rfl) (by simp) ?_
    refine AllZ.step rfl (fun K hK => ?_) AllZ.nil
    go_simp
    refine (CP.out _ hHeld).mono ?_; rintro e w1 ⟨rfl, hf1⟩
    have HF1 := Lib.hid hf1
    have HBX := Lib.hid (HBX0.out.fr hf1 (fun h => h))
    clear hf1
    try go_simp
    refine hK.out _ _ (hHeld.trans HF1.out (fun _ _ h => h)) (fun hHeld => ?_)
    clear hK K
    try change anyZ _ _ _ _ _ _ _ _ (Go.Act.put _ (some 22) _) _
    try simp only [Go.Act.put, List.setIfInBounds_toArray, List.set_cons_zero, List.set_cons_succ]
    refine anyZ_ready (rs := [16]) (by kernel_rfl) (by simp) ?_
    refine AllZ.last rfl (by kernel_rfl) (fun K hK => ?_) AllZ.nil
    go_simp
    refine (HR.out _ hHeld w.heap.size (by have h1 := HBL.out; have h2 := hHeld.size; omega) (by rw [show p.cells.toArray = #[.int .i64 p.pk.fr, .int .i64 p.pk.to, .int .i64 (p.pk.n : Int), f] from by unfold PL.cells; rw [HFN.out]]; exact HBX.out)).mono ?_; rintro e w3 ⟨A3, c3, rfl, hr3, hf3, hm3⟩
    have f3 : Fr (fun k => k = b) w w3 := (hHeld.mono (fun _ _ h => h.elim)).trans hf3 (fun _ _ h => h)
    have b3 := H.out.blk.fr f3 (fun e => H.out.rowg (by rw [e]; rfl))
    have k3 : w3.cell? ⟨g, 3, none⟩ = some (.slice (some ⟨b, off, none⟩) ps.length c) := b3.cell 3
    have z3 := b3.frozen 3
    have HR3 := Lib.hid hr3
    have F3 := Lib.hid f3
    have B3 := Lib.hid b3
    have HM3 := Lib.hid (hm3.imp id (fun ⟨k, e, hk⟩ => ⟨k, e, Nat.le_trans hHeld.size hk⟩) : Moved w (.slice (some ⟨b, off, none⟩) ps.length c) (.slice A3 (ps.length + 1) c3))
    clear hr3 hf3 f3 b3 hm3 hHeld HC C CP HR HE
    try go_simp
    refine hK.out _ _ ?_
    clear hK K
    try change anyZ _ _ _ _ _ _ _ _ (Go.Act.put _ (some 31) _) _
    try simp only [Go.Act.put, List.setIfInBounds_toArray, List.set_cons_zero, List.set_cons_succ]
    refine anyZ_pure (i := 17) (v := ?_) (some 32) rfl rfl (by kernel_rfl) (by kernel_rfl) (by kernel_rfl) (by kernel_rfl) (fun _ _ _ h => h) (Or.inl ⟨by rfl, ?_⟩) (notYet (by kernel_rfl)) ?_
    rotate_left
    · intro w' _
      go_simp
      first | done | with_reducible rfl
    try simp only [Go.Act.put, List.setIfInBounds_toArray, List.set_cons_zero, List.set_cons_succ]
    refine anyZ_pure (i := 18) (v := ?_) (some 33) rfl rfl (by kernel_rfl) (by kernel_rfl) (by kernel_rfl) (by kernel_rfl) (fun _ _ _ h => h) (Or.inl ⟨by rfl, ?_⟩) (notYet (by kernel_rfl)) ?_
    rotate_left
    · intro w' _
      go_simp
      first | done | with_reducible rfl
    try simp only [Go.Act.put, List.setIfInBounds_toArray, List.set_cons_zero, List.set_cons_succ]
    refine anyZ_ready (rs := [19]) (by kernel_rfl) (by simp) ?_
    refine AllZ.last rfl (by kernel_rfl) (fun K hK => ?_) AllZ.nil
    go_simp
    refine hK.out _ _ ?_
    clear hK K
    try change anyZ _ _ _ _ _ _ _ _ (Go.Act.put _ none _) _
    try simp only [Go.Act.put, List.setIfInBounds_toArray, List.set_cons_zero, List.set_cons_succ]
    refine anyZ_done (by kernel_rfl) ?_ _
    go_wp2
    go_ret
    have hr3 := HR3.out
    rw [← HX.out, ← HP.out] at hr3
    exact ⟨rfl, again_fin H.out HIP.out hr3 F3.out B3.out HM3.out⟩

end Go.Proofs.Ytmlckocgahfnkaa
