/- The net's Send. -/
import Derived.Test.YtmlckocgahfnkaaNd
import Derived.Test.YtmlckocgahfnkaaNz
namespace Go.Proofs.Ytmlckocgahfnkaa
open Go.RowKit

theorem NetM.cells {w : World} {g : Nat} {s : NS} {m : NL} (h : NetM w g s m) {i : Nat} {v : Value} (hv : (ncells s m)[i]? = some v) : w.cell? ⟨g, i, none⟩ = some v := (h.blk.cell i).trans hv
theorem send_bad (g : Nat) (s : NS) (m : NL) (fr to : Int) (A : Option Addr) (n c : Nat) (bs : List UInt8) (w : World) (h : NetM w g s m) (hn : bs.length = n) (he : s.err fr to bs ≠ 0) :
    Calls Try.prog 17 #[.pointer (some ⟨g, 0, none⟩), .int .i64 fr, .int .i64 to, .slice A n c] w fun e w' => e = .returned (.int .i64 (s.err fr to bs)) ∧ w = w' := by
  have CA := Lib.hid (has_any g s.N fr w (h.cells rfl))
  have CB := Lib.hid (has_any g s.N to w (h.cells rfl))
  unfold NS.err NS.is at *
  clear h
  generalize (decide (0 ≤ fr) && decide (fr < (s.N : Int))) = qa at *
  generalize (decide (0 ≤ to) && decide (to < (s.N : Int))) = qb at *
  cases qa with
  | false =>
    go_enter Try.func17, Try.ntmps17
    go_wp2_with (go_at_call 28; refine CA.out.mono ?_; rintro e w1 ⟨rfl, rfl⟩)
    go_ret
    exact ⟨rfl, rfl⟩
  | true =>
    cases qb with
    | false =>
      go_enter Try.func17, Try.ntmps17
      go_wp2_with fail
      refine CA.out.mono ?_; rintro e w1 ⟨rfl, rfl⟩
      go_wp2_with fail
      refine CB.out.mono ?_; rintro e w1 ⟨rfl, rfl⟩
      go_wp2
      go_ret
      exact ⟨rfl, rfl⟩
    | true =>
      have hl : 1048576 < bs.length := by
        apply Classical.byContradiction
        intro h
        simp [h] at he
      rw [show (if (true && true) = true then (if 1048576 < bs.length then (10 : Int) else 0) else 1) = 10 by simp [hl]]
      have hl' : (1048576 : Int) < (n : Int) := by omega
      go_enter Try.func17, Try.ntmps17
      go_wp2_with fail
      refine CA.out.mono ?_; rintro e w1 ⟨rfl, rfl⟩
      go_wp2_with fail
      refine CB.out.mono ?_; rintro e w1 ⟨rfl, rfl⟩
      go_wp2
      go_ret
      exact ⟨rfl, rfl⟩

theorem NS.err0 {s : NS} {fr to : Int} {bs : List UInt8} (h : s.err fr to bs = 0) : s.is fr = true ∧ s.is to = true ∧ bs.length ≤ 1048576 := by
  unfold NS.err at h
  cases ha : s.is fr <;> cases hb : s.is to <;> simp [ha, hb] at h ⊢
  omega

set_option maxRecDepth 100000 in
set_option maxHeartbeats 4000000 in
theorem send_cut (g : Nat) (s : NS) (m : NL) (fr to : Int) (A : Option Addr) (n c : Nat) (bs : List UInt8) (w : World) (h : NetM w g s m) (hn : bs.length = n) (hr : Rd8 w A bs) (he : s.err fr to bs = 0) (hj : s.joins fr to = false) (hs : (s.sent : Int) ≤ 4611686018427387904) (hq : s.l.length ≤ 1048576) :
    Calls Try.prog 17 #[.pointer (some ⟨g, 0, none⟩), .int .i64 fr, .int .i64 to, .slice A n c] w fun e w' => e = .returned (.int .i64 0) ∧ NetM w' g (s.send fr to bs) m ∧ Fr (NW g m) w w' := by
  obtain ⟨ha, hb, hl⟩ := NS.err0 he
  have CA := Lib.hid (has_any g s.N fr w (h.cells rfl))
  have CB := Lib.hid (has_any g s.N to w (h.cells rfl))
  have CJ := Lib.hid (joins_any g m.mb s.keys fr to w h.map (h.cells rfl))
  unfold NS.is at ha hb
  rw [ha] at CA
  rw [hb] at CB
  unfold NS.joins at hj
  rw [hj] at CJ
  have H := Lib.hid h
  have HE := Lib.hid he
  have HJ := Lib.hid hj
  have hl' : decide ((1048576 : Int) < (n : Int)) = false := by simp; omega
  have HL := Lib.hid (show n ≤ 1048576 by omega)
  clear h hr he hj ha hb hl
  go_enter Try.func17, Try.ntmps17
  go_wp2_with fail
  refine CA.out.mono ?_; rintro e w1 ⟨rfl, rfl⟩
  go_wp2_with fail
  refine CB.out.mono ?_; rintro e w1 ⟨rfl, rfl⟩
  go_wp2_with fail
  refine CJ.out.mono ?_; rintro e w1 ⟨rfl, hf1⟩
  have h1 := H.out.fr0 hf1
  have H1 := Lib.hid h1
  have HF1 := Lib.hid hf1
  have c1 : w1.cell? ⟨g, 1, none⟩ = some (.int .i64 (s.sent : Int)) := h1.cells rfl
  have f1 : w1.frozen? ⟨g, 1, none⟩ = false := h1.blk.frozen 1
  clear h1 hf1
  go_wp2
  go_ret
  have h1 := H1.out
  have hf := Bk.fr_set (w := w1) (g := g) 1 (.int .i64 ((s.sent : Int) + 1))
  have hst : s.send fr to bs = { s with sent := s.sent + 1, l := s.l } := by unfold NS.send NS.joins; rw [if_pos HE.out, HJ.out]; rfl
  rw [hst]
  refine ⟨rfl, ⟨h1.ok, h1.n9, by simpa [ncells] using h1.blk.set 1 (.int .i64 ((s.sent : Int) + 1)), h1.map.fr hf (fun e => h1.mapg e.symm), h1.row.fr hf (fun k e e2 => h1.rowg (by rw [e, e2])), h1.l, fun p hp => (h1.each p hp).fr hf (fun k hk e => h1.apart hp (.inl e) hk)⟩, (HF1.out.mono (fun _ _ h => h.elim)).trans hf (fun _ _ e => .inl e)⟩

/-- What a packet that is laid behind the others leaves. -/
theorem send_fin {w w3 : World} {g mb : Nat} {s : NS} {A0 A3 : Option Addr} {c0 c3 : Nat} {ps : List PL} {fr to : Int} {bs : List UInt8} {p : PL} (h : NetM w g s ⟨mb, .slice A0 ps.length c0, ps⟩) (he : s.err fr to bs = 0) (hj : (!hasP s.keys (pr fr to)) = true)
    (hp : p.pk = ⟨fr, to, s.sent, bs⟩) (hnew : ∀ k, HB p k → w.heap.size ≤ k) (hh : Hand w3 p) (hr : Row w3 67 4 (.slice A3 (ps.length + 1) c3) (ps.length + 1) (plc ps ++ p.cells)) (hf : Fr (fun k => (Value.slice A0 ps.length c0).ownBlock = some k) w w3)
    (hb : Bk w3 g 59 (ncells s ⟨mb, .slice A0 ps.length c0, ps⟩)) (hm : Moved w (.slice A0 ps.length c0) (.slice A3 (ps.length + 1) c3)) :
    ∃ m', NetM ((w3.setCell ⟨g, 3, none⟩ (.slice A3 (ps.length + 1) c3)).setCell ⟨g, 1, none⟩ (.int .i64 ((s.sent : Int) + 1))) g (s.send fr to bs) m' ∧
      Fr (NW g ⟨mb, .slice A0 ps.length c0, ps⟩) w ((w3.setCell ⟨g, 3, none⟩ (.slice A3 (ps.length + 1) c3)).setCell ⟨g, 1, none⟩ (.int .i64 ((s.sent : Int) + 1))) ∧ ∀ k, NB g m' k → NB g ⟨mb, .slice A0 ps.length c0, ps⟩ k ∨ w.heap.size ≤ k := by
  have hst : s.send fr to bs = { s with sent := s.sent + 1, l := s.l ++ [p.pk] } := by unfold NS.send NS.joins; rw [if_pos he, hj, hp]; rfl
  obtain ⟨ha, hb2, hl⟩ := NS.err0 he
  have f4 := (Bk.fr_set (w := w3) (g := g) 3 (.slice A3 (ps.length + 1) c3)).set 1 (.int .i64 ((s.sent : Int) + 1))
  rw [hst]
  refine ⟨⟨mb, .slice A3 (ps.length + 1) c3, ps ++ [p]⟩, ⟨?_, h.n9, ?_, (h.map.fr hf h.rowm).fr f4 (fun e => h.mapg e.symm), ?_, ?_, ?_⟩, ?_, ?_⟩
  · intro q hq
    rcases List.mem_append.1 hq with hq | hq
    · exact h.ok q hq
    · simp at hq; subst hq; rw [hp]; exact ⟨ha, hb2⟩
  · simpa [ncells] using (hb.set 3 (.slice A3 (ps.length + 1) c3)).set 1 (.int .i64 ((s.sent : Int) + 1))
  · have hne := hr.ne hb (by decide)
    have := hr.fr f4 (fun k e e2 => hne (by rw [e, e2]))
    simpa [plc] using this
  · simp [h.l]
  · intro q hq
    rcases List.mem_append.1 hq with hq | hq
    · exact ((h.each q hq).fr hf (fun k hk e => h.apart hq (.inr (.inr e)) hk)).fr f4 (fun k hk e => h.apart hq (.inl e) hk)
    · simp at hq; subst hq
      exact hh.fr f4 (fun k hk e => hh.not hb (by decide) (by decide) (by decide) (e ▸ hk))
  · exact (hf.mono (fun _ _ e => .inr (.inr e))).trans f4 (fun _ _ e => .inl e)
  · intro k hk
    rcases hk with (e | e | e) | ⟨q, hq, e⟩
    · exact .inl (.inl (.inl e))
    · exact .inl (.inl (.inr (.inl e)))
    · rcases hm with e1 | ⟨x, e1, hx⟩
      · exact .inl (.inl (.inr (.inr (e1.symm.trans e))))
      · rw [e1] at e; injection e with e; exact .inr (by omega)
    · rcases List.mem_append.1 hq with hq | hq
      · exact .inl (.inr ⟨q, hq, e⟩)
      · simp at hq; subst hq; exact .inr (hnew k e)

set_option maxRecDepth 100000 in
set_option maxHeartbeats 4000000 in
theorem send_go (g : Nat) (s : NS) (m : NL) (fr to : Int) (A : Option Addr) (n c : Nat) (bs : List UInt8) (w : World) (h : NetM w g s m) (hn : bs.length = n) (hr : Rd8 w A bs) (he : s.err fr to bs = 0) (hj : s.joins fr to = true) (hs : (s.sent : Int) ≤ 4611686018427387904) (hq : s.l.length ≤ 1048576) :
    Calls Try.prog 17 #[.pointer (some ⟨g, 0, none⟩), .int .i64 fr, .int .i64 to, .slice A n c] w fun e w' => e = .returned (.int .i64 0) ∧ ∃ m', NetM w' g (s.send fr to bs) m' ∧ Fr (NW g m) w w' ∧ ∀ k, NB g m' k → NB g m k ∨ w.heap.size ≤ k := by
  obtain ⟨ha, hb, hl⟩ := NS.err0 he
  have CA := Lib.hid (has_any g s.N fr w (h.cells rfl))
  have CB := Lib.hid (has_any g s.N to w (h.cells rfl))
  have CJ := Lib.hid (joins_any g m.mb s.keys fr to w h.map (h.cells rfl))
  unfold NS.is at ha hb
  rw [ha] at CA
  rw [hb] at CB
  unfold NS.joins at hj
  rw [hj] at CJ
  have H := Lib.hid h
  have HE := Lib.hid he
  have HJ := Lib.hid hj
  have hl' : decide ((1048576 : Int) < (n : Int)) = false := by simp; omega
  have HL := Lib.hid (show n ≤ 1048576 by omega)
  have HR := Lib.hid hr
  obtain ⟨A0, c0, hLV, _, _, _⟩ := h.row.form
  have C := Lib.hid (fun W (hf : Fr (fun _ => False) w W) => wrap_any fr to s.sent A n c bs W (hr.fr hf (fun _ _ _ h => h)) hn HL.out)
  have HLL := Lib.hid h.ll
  obtain ⟨mb, LV, ps⟩ := m
  simp only at *
  subst hLV
  clear h hr he hj ha hb hl
  go_enter Try.func17, Try.ntmps17
  go_wp2_with fail
  refine CA.out.mono ?_; rintro e w1 ⟨rfl, rfl⟩
  go_wp2_with fail
  refine CB.out.mono ?_; rintro e w1 ⟨rfl, rfl⟩
  go_wp2_with fail
  refine CJ.out.mono ?_; rintro e w1 ⟨rfl, hf1⟩
  have HC := Lib.hid (fun w' (hf : Fr (fun _ => False) w w') => show w'.cell? ⟨g, 3, none⟩ = some (.slice A0 ps.length c0) ∧ w'.cell? ⟨g, 1, none⟩ = some (.int .i64 (s.sent : Int)) from ⟨(H.out.fr0 hf).cells rfl, (H.out.fr0 hf).cells rfl⟩)
  have HF1 := Lib.hid hf1
  have hs0 : (0 : Int) ≤ (s.sent : Int) := by omega
  clear CA CB CJ
  go_wp2_with fail
  refine wp_region_Z [14, 17] (fun w' => Fr (fun _ => False) w w') (by kernel_rfl) (HF1.out.drew) (fun hHeld => ?_)
  refine anyZ_pure (i := 0) (v := ?_) (some 26) rfl rfl (by kernel_rfl) (by kernel_rfl) (by kernel_rfl) (by kernel_rfl) (fun _ _ _ h => h) (Or.inl ⟨by rfl, ?_⟩) (fun _ => hHeld) ?_
  rotate_left
  · intro w' _
    go_simp
    first | done | with_reducible rfl
  try simp only [Go.Act.put, List.setIfInBounds_toArray, List.set_cons_zero, List.set_cons_succ]
  refine anyZ_pure (i := 1) (v := ?_) (some 27) rfl rfl (by kernel_rfl) (by kernel_rfl) (by kernel_rfl) (by kernel_rfl) (fun _ _ _ h => h) (Or.inl ⟨by rfl, ?_⟩) (fun _ => hHeld) ?_
  rotate_left
  · intro w' _
    go_simp
    first | done | with_reducible rfl
  try simp only [Go.Act.put, List.setIfInBounds_toArray, List.set_cons_zero, List.set_cons_succ]
  refine anyZ_pure (i := 2) (v := ?_) (some 28) rfl rfl (by kernel_rfl) (by kernel_rfl) (by kernel_rfl) (by kernel_rfl) (fun _ _ _ h => h) (Or.inl ⟨by rfl, ?_⟩) (fun _ => hHeld) ?_
  rotate_left
  · intro w' _
    go_simp
    first | done | with_reducible rfl
  try simp only [Go.Act.put, List.setIfInBounds_toArray, List.set_cons_zero, List.set_cons_succ]
  refine anyZ_pure (i := 3) (v := ?_) (some 29) rfl rfl (by kernel_rfl) (by kernel_rfl) (by kernel_rfl) (by kernel_rfl) (fun _ _ _ h => h) (Or.inl ⟨by rfl, ?_⟩) (fun _ => hHeld) ?_
  rotate_left
  · intro w' _
    go_simp
    first | done | with_reducible rfl
  try simp only [Go.Act.put, List.setIfInBounds_toArray, List.set_cons_zero, List.set_cons_succ]
  refine anyZ_read (i := 4) (v := ?_) (some 30) [14, 15, 16, 17] rfl rfl (by kernel_rfl) (by kernel_rfl) (by kernel_rfl) (by kernel_rfl) (by kernel_rfl) (by kernel_rfl) (fun _ _ _ h => h) (Or.inl ⟨by rfl, ?_⟩) hHeld ?_
  rotate_left
  · intro w' hSw
    obtain ⟨q1, q2⟩ := HC.out w' hSw
    go_simp
    first | done | with_reducible rfl
  try simp only [Go.Act.put, List.setIfInBounds_toArray, List.set_cons_zero, List.set_cons_succ]
  refine anyZ_pure (i := 5) (v := ?_) (some 31) rfl rfl (by kernel_rfl) (by kernel_rfl) (by kernel_rfl) (by kernel_rfl) (fun _ _ _ h => h) (Or.inl ⟨by rfl, ?_⟩) (fun _ => hHeld) ?_
  rotate_left
  · intro w' _
    go_simp
    first | done | with_reducible rfl
  try simp only [Go.Act.put, List.setIfInBounds_toArray, List.set_cons_zero, List.set_cons_succ]
  refine anyZ_pure (i := 6) (v := ?_) (some 32) rfl rfl (by kernel_rfl) (by kernel_rfl) (by kernel_rfl) (by kernel_rfl) (fun _ _ _ h => h) (Or.inl ⟨by rfl, ?_⟩) (fun _ => hHeld) ?_
  rotate_left
  · intro w' _
    go_simp
    first | done | with_reducible rfl
  try simp only [Go.Act.put, List.setIfInBounds_toArray, List.set_cons_zero, List.set_cons_succ]
  refine anyZ_pure (i := 7) (v := ?_) (some 33) rfl rfl (by kernel_rfl) (by kernel_rfl) (by kernel_rfl) (by kernel_rfl) (fun _ _ _ h => h) (Or.inl ⟨by rfl, ?_⟩) (fun _ => hHeld) ?_
  rotate_left
  · intro w' _
    go_simp
    first | done | with_reducible rfl
  try simp only [Go.Act.put, List.setIfInBounds_toArray, List.set_cons_zero, List.set_cons_succ]
  refine anyZ_pure (i := 8) (v := ?_) (some 34) rfl rfl (by kernel_rfl) (by kernel_rfl) (by kernel_rfl) (by kernel_rfl) (fun _ _ _ h => h) (Or.inl ⟨by rfl, ?_⟩) (fun _ => hHeld) ?_
  rotate_left
  · intro w' _
    go_simp
    first | done | with_reducible rfl
  try simp only [Go.Act.put, List.setIfInBounds_toArray, List.set_cons_zero, List.set_cons_succ]
  refine anyZ_pure (i := 9) (v := ?_) (some 35) rfl rfl (by kernel_rfl) (by kernel_rfl) (by kernel_rfl) (by kernel_rfl) (fun _ _ _ h => h) (Or.inl ⟨by rfl, ?_⟩) (fun _ => hHeld) ?_
  rotate_left
  · intro w' _
    go_simp
    first | done | with_reducible rfl
  try simp only [Go.Act.put, List.setIfInBounds_toArray, List.set_cons_zero, List.set_cons_succ]
  refine anyZ_read (i := 10) (v := ?_) (some 36) [12, 13, 14, 15, 16, 17] rfl rfl (by kernel_rfl) (by kernel_rfl) (by kernel_rfl) (by kernel_rfl) (by kernel_rfl) (by kernel_rfl) (fun _ _ _ h => h) (Or.inl ⟨by rfl, ?_⟩) hHeld ?_
  rotate_left
  · intro w' hSw
    obtain ⟨q1, q2⟩ := HC.out w' hSw
    go_simp
    first | done | with_reducible rfl
  try simp only [Go.Act.put, List.setIfInBounds_toArray, List.set_cons_zero, List.set_cons_succ]
  refine anyZ_pure (i := 11) (v := ?_) (some 37) rfl rfl (by kernel_rfl) (by kernel_rfl) (by kernel_rfl) (by kernel_rfl) (fun _ _ _ h => h) (Or.inl ⟨by rfl, ?_⟩) (fun _ => hHeld) ?_
  rotate_left
  · intro w' _
    go_simp
    first | done | with_reducible rfl
  try simp only [Go.Act.put, List.setIfInBounds_toArray, List.set_cons_zero, List.set_cons_succ]
  refine anyZ_ready (rs := [12]) (by kernel_rfl) (by simp) ?_
  refine AllZ.step rfl (fun K hK => ?_) AllZ.nil
  go_simp
  refine (C.out _ hHeld).mono ?_; rintro e w2 ⟨p, rfl, hpk, hh, hnew, hf2⟩
  have HPK := Lib.hid hpk
  have HH := Lib.hid hh
  have HN := Lib.hid hnew
  have HF2 := Lib.hid hf2
  clear hpk hh hnew hf2
  try go_simp
  refine hK.out _ _ (hHeld.trans HF2.out (fun _ _ h => h)) (fun hHeld => ?_)
  clear hK K
  try change anyZ _ _ _ _ _ _ _ _ (Go.Act.put _ (some 38) _) _
  try simp only [Go.Act.put, List.setIfInBounds_toArray, List.set_cons_zero, List.set_cons_succ]
  refine anyZ_ready (rs := [13]) (by kernel_rfl) (by simp) ?_
  refine AllZ.step rfl (fun K hK => ?_) AllZ.nil
  go_simp
  refine hK.out _ _ (hHeld.alloc _) (fun hHeld => ?_)
  clear hK K
  try change anyZ _ _ _ _ _ _ _ _ (Go.Act.put _ (some 39) _) _
  try simp only [Go.Act.put, List.setIfInBounds_toArray, List.set_cons_zero, List.set_cons_succ]
  refine anyZ_ready (rs := [14]) (by kernel_rfl) (by simp) ?_
  refine AllZ.last rfl (by kernel_rfl) (fun K hK => ?_) AllZ.nil
  have hrow := H.out.row.fr0 hHeld
  have hsl : Sl (w2.alloc (.cells #[.int .i64 p.pk.fr, .int .i64 p.pk.to, .int .i64 (p.pk.n : Int), p.fn] 67)) 4 (.slice (some ⟨w2.heap.size, 0, none⟩) 1 1) 1 p.cells := Sl.at rfl rfl (fun j u hu => by rw [Nat.zero_add, (Bk.new w2 _ _).cell]; simpa [PL.cells] using hu)
  refine stepOf_appendR Try.teP rfl (.tmp 30) (.tmp 39) rfl (.slice A0 ps.length c0) ps.length (plc ps) rfl hrow _ 1 p.cells rfl hsl (fun u hu => plc_one [p] u (by simpa [plc] using hu)) (by have := HLL.out; unfold maxLen; omega) (by have := HLL.out; omega) ?_
  intro A3 c3 w3 hr3 hf3 hm3
  have f3 : Fr (fun k => (Value.slice A0 ps.length c0).ownBlock = some k) w w3 := (hHeld.mono (fun _ _ h => h.elim)).trans hf3 (fun _ _ h => h)
  have b3 := H.out.blk.fr f3 H.out.rowg
  have k3 : w3.cell? ⟨g, 3, none⟩ = some (.slice A0 ps.length c0) := b3.cell 3
  have k1 : w3.cell? ⟨g, 1, none⟩ = some (.int .i64 (s.sent : Int)) := b3.cell 1
  have z3 := b3.frozen 3
  have z1 := b3.frozen 1
  have HH3 := Lib.hid (HH.out.fr (((Fr.refl (fun _ => False) w2).alloc (.cells #[.int .i64 p.pk.fr, .int .i64 p.pk.to, .int .i64 (p.pk.n : Int), p.fn] 67)).mono (T := fun k => (Value.slice A0 ps.length c0).ownBlock = some k) (fun _ _ h => h.elim) |>.trans hf3 (fun _ _ h => h)) (fun k hk e => by have h1 := HN.out k hk; have h2 := H.out.row.lt e; have h3 := HF1.out.size; have h4 : w1.drew.heap.size = w1.heap.size := rfl; omega))
  have HR3 := Lib.hid hr3
  have F3 := Lib.hid f3
  have B3 := Lib.hid b3
  have HM3 := Lib.hid (hm3.imp id (fun ⟨k, e, hk⟩ => ⟨k, e, Nat.le_trans hHeld.size hk⟩) : Moved w (.slice A0 ps.length c0) (.slice A3 (ps.length + 1) c3))
  clear hrow hsl hr3 hf3 f3 b3 hm3 hHeld HC C HR
  refine hK.out _ _ ?_
  clear hK K
  try change anyZ _ _ _ _ _ _ _ _ (Go.Act.put _ (some 40) _) _
  try simp only [Go.Act.put, List.setIfInBounds_toArray, List.set_cons_zero, List.set_cons_succ]
  refine anyZ_pure (i := 15) (v := ?_) (some 41) rfl rfl (by kernel_rfl) (by kernel_rfl) (by kernel_rfl) (by kernel_rfl) (fun _ _ _ h => h) (Or.inl ⟨by rfl, ?_⟩) (notYet (by kernel_rfl)) ?_
  rotate_left
  · intro w' _
    go_simp
    first | done | with_reducible rfl
  try simp only [Go.Act.put, List.setIfInBounds_toArray, List.set_cons_zero, List.set_cons_succ]
  refine anyZ_pure (i := 16) (v := ?_) (some 42) rfl rfl (by kernel_rfl) (by kernel_rfl) (by kernel_rfl) (by kernel_rfl) (fun _ _ _ h => h) (Or.inl ⟨by rfl, ?_⟩) (notYet (by kernel_rfl)) ?_
  rotate_left
  · intro w' _
    go_simp
    first | done | with_reducible rfl
  try simp only [Go.Act.put, List.setIfInBounds_toArray, List.set_cons_zero, List.set_cons_succ]
  refine anyZ_ready (rs := [17]) (by kernel_rfl) (by simp) ?_
  refine AllZ.last rfl (by kernel_rfl) (fun K hK => ?_) AllZ.nil
  go_simp
  refine hK.out _ _ ?_
  clear hK K
  try change anyZ _ _ _ _ _ _ _ _ (Go.Act.put _ none _) _
  try simp only [Go.Act.put, List.setIfInBounds_toArray, List.set_cons_zero, List.set_cons_succ]
  refine anyZ_done (by kernel_rfl) ?_ _
  have HHb := HH3.out
  have f3 := F3.out
  clear hf1
  go_wp2
  go_ret
  exact ⟨rfl, send_fin H.out HE.out HJ.out HPK.out (fun k hk => by have h1 := HN.out k hk; have h3 := HF1.out.size; have h4 : w1.drew.heap.size = w1.heap.size := rfl; omega) HHb HR3.out f3 B3.out HM3.out⟩

end Go.Proofs.Ytmlckocgahfnkaa
