/- The reference's Send and without. -/
import Derived.Test.YtmlckocgahfnkaaPa
namespace Go.Proofs.Ytmlckocgahfnkaa
open Go.RowKit

/-- What a packet that is laid behind the others leaves. -/
theorem rsend_fin {w w3 : World} {g : Nat} {s : NS} {A0 A3 : Option Addr} {c0 c3 : Nat} {CV : Value} {ks : List KP} {fr rt : Int} {bs : List UInt8} {K : KP} (h : RefM w g s ⟨.slice A0 ks.length c0, CV, ks⟩) (he : s.err fr rt bs = 0) (hj : (!hasP s.keys (pr fr rt)) = true)
    (hp : K.pk = ⟨fr, rt, s.sent, bs⟩) (hnew : ∀ k, K.sl.ownBlock = some k → w.heap.size ≤ k) (hh : Own8 w3 5 K.sl K.pk.bs) (hr : Row w3 61 4 (.slice A3 (ks.length + 1) c3) (ks.length + 1) (kpc ks ++ K.cells)) (hf : Fr (fun k => (Value.slice A0 ks.length c0).ownBlock = some k) w w3)
    (hb : Bk w3 g 42 (rcells s ⟨.slice A0 ks.length c0, CV, ks⟩)) (hm : Moved w (.slice A0 ks.length c0) (.slice A3 (ks.length + 1) c3)) :
    ∃ m', RefM ((w3.setCell ⟨g, 2, none⟩ (.slice A3 (ks.length + 1) c3)).setCell ⟨g, 1, none⟩ (.int .i64 ((s.sent : Int) + 1))) g (s.send fr rt bs) m' ∧
      Fr (RB g ⟨.slice A0 ks.length c0, CV, ks⟩) w ((w3.setCell ⟨g, 2, none⟩ (.slice A3 (ks.length + 1) c3)).setCell ⟨g, 1, none⟩ (.int .i64 ((s.sent : Int) + 1))) ∧ ∀ k, RB g m' k → RB g ⟨.slice A0 ks.length c0, CV, ks⟩ k ∨ w.heap.size ≤ k := by
  have hst : s.send fr rt bs = { s with sent := s.sent + 1, l := s.l ++ [K.pk] } := by unfold NS.send NS.joins; rw [if_pos he, hj, hp]; rfl
  have f4 := (Bk.fr_set (w := w3) (g := g) 2 (.slice A3 (ks.length + 1) c3)).set 1 (.int .i64 ((s.sent : Int) + 1))
  rw [hst]
  refine ⟨⟨.slice A3 (ks.length + 1) c3, CV, ks ++ [K]⟩, ⟨?_, ?_, (h.cut.fr hf (fun x e e2 => h.rowcut e2 e)).fr f4 (fun x e e2 => h.cutg (by rw [e, e2])), ?_, ?_⟩, ?_, ?_⟩
  · simpa [rcells] using (hb.set 2 (.slice A3 (ks.length + 1) c3)).set 1 (.int .i64 ((s.sent : Int) + 1))
  · have hne := hr.ne hb (by decide)
    have := hr.fr f4 (fun k e e2 => hne (by rw [e, e2]))
    simpa [kpc] using this
  · simp [h.l]
  · intro q hq
    rcases List.mem_append.1 hq with hq | hq
    · exact ((h.each q hq).fr hf (fun k hk e => h.rowd e hq hk)).fr f4 (fun k hk e => h.gd hq (by rw [hk, e]))
    · simp at hq; subst hq
      exact hh.fr f4 (fun k hk e => hh.ne hb (by decide) (by rw [hk, e]))
  · exact (hf.mono (fun _ _ e => .inr (.inl e))).trans f4 (fun _ _ e => .inl e)
  · intro k hk
    rcases hk with e | e | e | ⟨q, hq, e⟩
    · exact .inl (.inl e)
    · rcases hm with e1 | ⟨x, e1, hx⟩
      · exact .inl (.inr (.inl (e1.symm.trans e)))
      · rw [e1] at e; injection e with e; exact .inr (by omega)
    · exact .inl (.inr (.inr (.inl e)))
    · rcases List.mem_append.1 hq with hq | hq
      · exact .inl (.inr (.inr (.inr ⟨q, hq, e⟩)))
      · simp at hq; subst hq; exact .inr (hnew k e)

theorem rsend_bad (g : Nat) (s : NS) (m : RL) (fr rt : Int) (A : Option Addr) (n c : Nat) (bs : List UInt8) (w : World) (h : RefM w g s m) (hn : bs.length = n) (he : s.err fr rt bs ≠ 0) :
    Calls Try.prog 21 #[.pointer (some ⟨g, 0, none⟩), .int .i64 fr, .int .i64 rt, .slice A n c] w fun e w' => e = .returned (.int .i64 (s.err fr rt bs)) ∧ w = w' := by
  have CA := Lib.hid (ris_any g s.N fr w (h.cells rfl))
  have CB := Lib.hid (ris_any g s.N rt w (h.cells rfl))
  unfold NS.err NS.is at *
  clear h
  generalize (decide (0 ≤ fr) && decide (fr < (s.N : Int))) = qa at *
  generalize (decide (0 ≤ rt) && decide (rt < (s.N : Int))) = qb at *
  cases qa with
  | false =>
    go_enter Try.func21, Try.ntmps21
    go_wp2_with fail
    refine CA.out.mono ?_; rintro e w1 ⟨rfl, rfl⟩
    go_wp2
    go_ret
    exact ⟨rfl, rfl⟩
  | true =>
    cases qb with
    | false =>
      go_enter Try.func21, Try.ntmps21
      go_wp2_with fail
      refine CA.out.mono ?_; rintro e w1 ⟨rfl, rfl⟩
      go_wp2_with fail
      refine CB.out.mono ?_; rintro e w1 ⟨rfl, rfl⟩
      go_wp2
      go_ret
      exact ⟨rfl, rfl⟩
    | true =>
      have hl : 1048576 < bs.length := by
        apply Classical.byContradiction
        intro h
        simp [h] at he
      rw [show (if (true && true) = true then (if 1048576 < bs.length then (10 : Int) else 0) else 1) = 10 by simp [hl]]
      have hl' : (1048576 : Int) < (n : Int) := by omega
      go_enter Try.func21, Try.ntmps21
      go_wp2_with fail
      refine CA.out.mono ?_; rintro e w1 ⟨rfl, rfl⟩
      go_wp2_with fail
      refine CB.out.mono ?_; rintro e w1 ⟨rfl, rfl⟩
      go_wp2
      go_ret
      exact ⟨rfl, rfl⟩

theorem mem_two {ks : List KP} {k k' : Nat} {q : KP} (h : q ∈ ks.take k ++ ks.drop k') : q ∈ ks := by
  rcases List.mem_append.1 h with h | h
  · exact List.mem_of_mem_take h
  · exact List.mem_of_mem_drop h
theorem own_fresh {n x : Nat} (h : (Value.slice (some ⟨n, 0, none⟩) 0 0).ownBlock = some x) : x = n := by
  have : n = x := by simpa [Value.ownBlock] using h
  exact this.symm
theorem moved_new {w : World} {o : Obj} {x k : Nat} {v : Value} (hm : Moved (w.alloc o) (.slice (some ⟨w.heap.size, 0, none⟩) 0 0) v) (hs : k ≤ w.heap.size) (e : v.ownBlock = some x) : k ≤ x := by
  rcases hm with e1 | ⟨y, e1, hy⟩
  · have := own_fresh (e1.symm.trans e); omega
  · rw [e1] at e; injection e with e; simp at hy; omega
theorem kpc_append (a b : List KP) : kpc (a ++ b) = kpc a ++ kpc b := by simp [kpc]
theorem kpc_take (ks : List KP) {k : Nat} (h : k ≤ ks.length) : kpc (ks.take k) = (kpc ks).take (k * 4) := by
  have : (kpc (ks.take k)).length = k * 4 := by rw [kpc_len, List.length_take]; congr 1; omega
  conv => rhs; rw [← List.take_append_drop k ks, kpc_append]
  rw [List.take_left' this]
theorem kpc_drop (ks : List KP) {k : Nat} (h : k ≤ ks.length) : kpc (ks.drop k) = (kpc ks).drop (k * 4) := by
  have : (kpc (ks.take k)).length = k * 4 := by rw [kpc_len, List.length_take]; congr 1; omega
  conv => rhs; rw [← List.take_append_drop k ks, kpc_append]
  rw [List.drop_left' this]
theorem slTake {w : World} {T : TypeId} {b off n c : Nat} {ks : List KP} (h : Row w T 4 (.slice (some ⟨b, off, none⟩) n c) n (kpc ks)) {k : Nat} (hk : k ≤ ks.length) : Sl w 4 (.slice (some ⟨b, off, none⟩) k c) k (kpc (ks.take k)) :=
  Sl.at rfl (by rw [kpc_len, List.length_take]; congr 1; omega) (fun j u hu => by
    rw [kpc_take ks hk] at hu
    refine h.cell ?_
    rw [List.getElem?_take] at hu
    split at hu
    · exact hu
    · cases hu)
theorem slDrop {w : World} {T : TypeId} {b off n c c' : Nat} {ks : List KP} (h : Row w T 4 (.slice (some ⟨b, off, none⟩) n c) n (kpc ks)) {k : Nat} (hk : k ≤ ks.length) : Sl w 4 (.slice (some ⟨b, off + k * 4, none⟩) (ks.length - k) c') (ks.length - k) (kpc (ks.drop k)) :=
  Sl.at rfl (by rw [kpc_len, List.length_drop]) (fun j u hu => by
    rw [kpc_drop ks hk, List.getElem?_drop] at hu
    rw [Nat.add_assoc]
    exact h.cell hu)

/-- A row of packets that is new since w; nothing that was there has turned. -/
structure NewRow (w w' : World) (v : Value) (n : Nat) (cs : List Value) : Prop where
  row : Row w' 61 4 v n cs
  new : ∀ x, v.ownBlock = some x → w.heap.size ≤ x
  fr : Fr (fun _ => False) w w'
theorem NewRow.nil {w w' : World} (h : Fr (fun _ => False) w w') : NewRow w w' (.slice none 0 0) 0 [] := ⟨Row.nil _ _ _, fun x e => by simp [Value.ownBlock] at e, h⟩
theorem NewRow.fresh (w : World) : NewRow w (w.alloc (.cells #[] 61)) (.slice (some ⟨w.heap.size, 0, none⟩) 0 0) 0 [] :=
  ⟨⟨rfl, .inr ⟨w.heap.size, 0, 0, #[], rfl, Bk.new _ _ _, Nat.le_refl _, Nat.zero_le _, Nat.le_refl _, fun j hj => by simp at hj⟩⟩, fun x e => by have := own_fresh e; omega, (Fr.refl _ _).alloc _⟩
theorem NewRow.from {w0 w w' : World} {v : Value} {n : Nat} {cs : List Value} (h : NewRow w w' v n cs) (hf : Fr (fun _ => False) w0 w) : NewRow w0 w' v n cs :=
  ⟨h.row, fun x e => Nat.le_trans hf.size (h.new x e), hf.trans h.fr (fun _ _ h => h)⟩
theorem NewRow.fr0 {w w' w'' : World} {v : Value} {n : Nat} {cs : List Value} (h : NewRow w w' v n cs) (hf : Fr (fun _ => False) w' w'') : NewRow w w'' v n cs :=
  ⟨h.row.fr0 hf, h.new, h.fr.trans hf (fun _ _ h => h)⟩
theorem NewRow.step {w w1 w2 : World} {v v' : Value} {n n' : Nat} {cs cs' : List Value} (h : NewRow w w1 v n cs) (hr : Row w2 61 4 v' n' cs') (hf : Fr (fun g => v.ownBlock = some g) w1 w2) (hm : Moved w1 v v') : NewRow w w2 v' n' cs' :=
  ⟨hr, fun x e => by
    rcases hm with e1 | ⟨y, e1, hy⟩
    · exact h.new x (e1.symm.trans e)
    · rw [e1] at e; injection e with e; have := h.fr.size; omega, h.fr.trans hf (fun x hx e => by have := h.new x e; omega)⟩

/-- Its list is turned rt some of its packets. -/
theorem RefM.relist {w w2 : World} {g : Nat} {s : NS} {m : RL} (h : RefM w g s m) {v : Value} {n : Nat} {ks' : List KP} (hin : ∀ k ∈ ks', k ∈ m.ks) (hn : n = ks'.length) (hr : NewRow w w2 v n (kpc ks')) :
    ∃ m', RefM (w2.setCell ⟨g, 2, none⟩ v) g { s with l := ks'.map KP.pk } m' ∧ Fr (fun x => x = g) w (w2.setCell ⟨g, 2, none⟩ v) ∧ ∀ x, RB g m' x → RB g m x ∨ w.heap.size ≤ x := by
  subst hn
  have f4 := Bk.fr_set (w := w2) (g := g) 2 v
  have hb := h.blk.fr hr.fr (fun h => h)
  refine ⟨⟨v, m.CV, ks'⟩, ⟨by simpa [rcells] using hb.set 2 v, ?_, (h.cut.fr0 hr.fr).fr f4 (fun x e e2 => h.cutg (by rw [e, e2])), rfl, fun k hk => ((h.each k (hin k hk)).fr hr.fr (fun _ _ h => h)).fr f4 (fun x e e2 => h.gd (hin k hk) (by rw [e, e2]))⟩, (hr.fr.mono (fun _ _ h => h.elim)).trans f4 (fun _ _ e => e), fun x hx => ?_⟩
  · have hne := hr.row.ne hb (by decide)
    exact hr.row.fr f4 (fun x e e2 => hne (by rw [e, e2]))
  · rcases hx with e | e | e | ⟨k, hk, e⟩
    · exact .inl (.inl e)
    · exact .inr (hr.new x e)
    · exact .inl (.inr (.inr (.inl e)))
    · exact .inl (.inr (.inr (.inr ⟨k, hin k hk, e⟩)))

set_option maxRecDepth 100000 in
set_option maxHeartbeats 4000000 in
theorem rsend_cut (g : Nat) (s : NS) (m : RL) (fr rt : Int) (A : Option Addr) (n c : Nat) (bs : List UInt8) (w : World) (h : RefM w g s m) (hn : bs.length = n) (hr : Rd8 w A bs) (he : s.err fr rt bs = 0) (hj : s.joins fr rt = false) (hs : (s.sent : Int) ≤ 4611686018427387904) (hq : s.l.length ≤ 1048575) (hc : s.cuts.length ≤ 1048576) :
    Calls Try.prog 21 #[.pointer (some ⟨g, 0, none⟩), .int .i64 fr, .int .i64 rt, .slice A n c] w fun e w' => e = .returned (.int .i64 0) ∧ ∃ m', RefM w' g (s.send fr rt bs) m' ∧ Fr (RB g m) w w' ∧ ∀ x, RB g m' x → RB g m x ∨ w.heap.size ≤ x := by
  obtain ⟨ha, hb, hl⟩ := NS.err0 he
  have CA := Lib.hid (ris_any g s.N fr w (h.cells rfl))
  have CB := Lib.hid (ris_any g s.N rt w (h.cells rfl))
  have CJ := Lib.hid (ropen_any g s m fr rt w h hc)
  unfold NS.openB at CJ
  rw [ha, hb, hj] at CJ
  unfold NS.is at ha hb
  rw [ha] at CA
  rw [hb] at CB
  unfold NS.joins at hj
  have H := Lib.hid h
  have HE := Lib.hid he
  have HJ := Lib.hid hj
  have hl' : decide ((1048576 : Int) < (n : Int)) = false := by simp; omega
  have HL := Lib.hid (show n ≤ 1048576 by omega)
  clear h hr he hj ha hb hl
  go_enter Try.func21, Try.ntmps21
  go_wp2_with fail
  refine CA.out.mono ?_; rintro e w1 ⟨rfl, rfl⟩
  go_wp2_with fail
  refine CB.out.mono ?_; rintro e w1 ⟨rfl, rfl⟩
  go_wp2_with fail
  refine CJ.out.mono ?_; rintro e w1 ⟨rfl, hf1⟩
  have h1 := H.out.fr0 hf1
  have H1 := Lib.hid h1
  have HF1 := Lib.hid hf1
  have c1 : w1.cell? ⟨g, 1, none⟩ = some (.int .i64 (s.sent : Int)) := h1.cells rfl
  have f1 : w1.frozen? ⟨g, 1, none⟩ = false := h1.blk.frozen 1
  clear h1 hf1
  go_wp2
  go_ret
  have h1 := H1.out
  have hf := Bk.fr_set (w := w1) (g := g) 1 (.int .i64 ((s.sent : Int) + 1))
  have hst : s.send fr rt bs = { s with sent := s.sent + 1, l := s.l } := by unfold NS.send NS.joins; rw [if_pos HE.out, HJ.out]; rfl
  rw [hst]
  exact ⟨rfl, m, ⟨by simpa [rcells] using h1.blk.set 1 (.int .i64 ((s.sent : Int) + 1)), h1.row.fr hf (fun k e e2 => h1.rowg (by rw [e, e2])), h1.cut.fr hf (fun k e e2 => h1.cutg (by rw [e, e2])), h1.l, fun p hp => (h1.each p hp).fr hf (fun k e e2 => h1.gd hp (by rw [e, e2]))⟩, (HF1.out.mono (fun _ _ h => h.elim)).trans hf (fun _ _ e => .inl e), fun x hx => .inl hx⟩

set_option maxRecDepth 100000 in
set_option maxHeartbeats 4000000 in
theorem rsend_go (g : Nat) (s : NS) (m : RL) (fr rt : Int) (A : Option Addr) (n c : Nat) (bs : List UInt8) (w : World) (h : RefM w g s m) (hn : bs.length = n) (hr : Rd8 w A bs) (he : s.err fr rt bs = 0) (hj : s.joins fr rt = true) (hs : (s.sent : Int) ≤ 4611686018427387904) (hq : s.l.length ≤ 1048575) (hc : s.cuts.length ≤ 1048576) :
    Calls Try.prog 21 #[.pointer (some ⟨g, 0, none⟩), .int .i64 fr, .int .i64 rt, .slice A n c] w fun e w' => e = .returned (.int .i64 0) ∧ ∃ m', RefM w' g (s.send fr rt bs) m' ∧ Fr (RB g m) w w' ∧ ∀ x, RB g m' x → RB g m x ∨ w.heap.size ≤ x := by
  obtain ⟨ha, hb, hl⟩ := NS.err0 he
  have CA := Lib.hid (ris_any g s.N fr w (h.cells rfl))
  have CB := Lib.hid (ris_any g s.N rt w (h.cells rfl))
  have CJ := Lib.hid (ropen_any g s m fr rt w h hc)
  unfold NS.openB at CJ
  rw [ha, hb, hj] at CJ
  unfold NS.is at ha hb
  rw [ha] at CA
  rw [hb] at CB
  unfold NS.joins at hj
  have H := Lib.hid h
  have HE := Lib.hid he
  have HJ := Lib.hid hj
  have hl' : decide ((1048576 : Int) < (n : Int)) = false := by simp; omega
  have HL := Lib.hid (show n ≤ 1048576 by omega)
  have HRD := Lib.hid (fun W (hf : Fr (fun _ => False) w W) => hr.fr hf (fun _ _ _ h => h))
  obtain ⟨A0, c0, hLV, _, _, _⟩ := h.row.form
  have HLL := Lib.hid h.ll
  obtain ⟨LV, CV, ks⟩ := m
  simp only at *
  subst hLV
  have HN := Lib.hid hn
  clear h hr he hj ha hb hl hn
  go_enter Try.func21, Try.ntmps21
  go_wp2_with fail
  refine CA.out.mono ?_; rintro e w1 ⟨rfl, rfl⟩
  go_wp2_with fail
  refine CB.out.mono ?_; rintro e w1 ⟨rfl, rfl⟩
  go_wp2_with fail
  refine CJ.out.mono ?_; rintro e w1 ⟨rfl, hf1⟩
  have HC := Lib.hid (fun w' (hf : Fr (fun _ => False) w w') => show w'.cell? ⟨g, 2, none⟩ = some (.slice A0 ks.length c0) ∧ w'.cell? ⟨g, 1, none⟩ = some (.int .i64 (s.sent : Int)) from ⟨(H.out.fr0 hf).cells rfl, (H.out.fr0 hf).cells rfl⟩)
  have HF1 := Lib.hid hf1
  have hs0 : (0 : Int) ≤ (s.sent : Int) := by omega
  clear CA CB CJ hf1
  go_wp2_with fail
  refine wp_region_Z [16, 19] (fun w' => Fr (fun _ => False) w w') (by kernel_rfl) (HF1.out.drew) (fun hHeld => ?_)
  refine anyZ_pure (i := 0) (v := ?_) (some 26) rfl rfl (by kernel_rfl) (by kernel_rfl) (by kernel_rfl) (by kernel_rfl) (fun _ _ _ h => h) (Or.inl ⟨by rfl, ?_⟩) (fun _ => hHeld) ?_
  rotate_left
  · intro w' _
    go_simp
    first | done | with_reducible rfl
  try simp only [Go.Act.put, List.setIfInBounds_toArray, List.set_cons_zero, List.set_cons_succ]
  refine anyZ_pure (i := 1) (v := ?_) (some 27) rfl rfl (by kernel_rfl) (by kernel_rfl) (by kernel_rfl) (by kernel_rfl) (fun _ _ _ h => h) (Or.inl ⟨by rfl, ?_⟩) (fun _ => hHeld) ?_
  rotate_left
  · intro w' _
    go_simp
    first | done | with_reducible rfl
  try simp only [Go.Act.put, List.setIfInBounds_toArray, List.set_cons_zero, List.set_cons_succ]
  refine anyZ_pure (i := 2) (v := ?_) (some 28) rfl rfl (by kernel_rfl) (by kernel_rfl) (by kernel_rfl) (by kernel_rfl) (fun _ _ _ h => h) (Or.inl ⟨by rfl, ?_⟩) (fun _ => hHeld) ?_
  rotate_left
  · intro w' _
    go_simp
    first | done | with_reducible rfl
  try simp only [Go.Act.put, List.setIfInBounds_toArray, List.set_cons_zero, List.set_cons_succ]
  refine anyZ_pure (i := 3) (v := ?_) (some 29) rfl rfl (by kernel_rfl) (by kernel_rfl) (by kernel_rfl) (by kernel_rfl) (fun _ _ _ h => h) (Or.inl ⟨by rfl, ?_⟩) (fun _ => hHeld) ?_
  rotate_left
  · intro w' _
    go_simp
    first | done | with_reducible rfl
  try simp only [Go.Act.put, List.setIfInBounds_toArray, List.set_cons_zero, List.set_cons_succ]
  refine anyZ_read (i := 4) (v := ?_) (some 30) [16, 17, 18, 19] rfl rfl (by kernel_rfl) (by kernel_rfl) (by kernel_rfl) (by kernel_rfl) (by kernel_rfl) (by kernel_rfl) (fun _ _ _ h => h) (Or.inl ⟨by rfl, ?_⟩) hHeld ?_
  rotate_left
  · intro w' hSw
    obtain ⟨q1, q2⟩ := HC.out w' hSw
    go_simp
    first | done | with_reducible rfl
  try simp only [Go.Act.put, List.setIfInBounds_toArray, List.set_cons_zero, List.set_cons_succ]
  refine anyZ_pure (i := 5) (v := ?_) (some 31) rfl rfl (by kernel_rfl) (by kernel_rfl) (by kernel_rfl) (by kernel_rfl) (fun _ _ _ h => h) (Or.inl ⟨by rfl, ?_⟩) (fun _ => hHeld) ?_
  rotate_left
  · intro w' _
    go_simp
    first | done | with_reducible rfl
  try simp only [Go.Act.put, List.setIfInBounds_toArray, List.set_cons_zero, List.set_cons_succ]
  refine anyZ_pure (i := 6) (v := ?_) (some 32) rfl rfl (by kernel_rfl) (by kernel_rfl) (by kernel_rfl) (by kernel_rfl) (fun _ _ _ h => h) (Or.inl ⟨by rfl, ?_⟩) (fun _ => hHeld) ?_
  rotate_left
  · intro w' _
    go_simp
    first | done | with_reducible rfl
  try simp only [Go.Act.put, List.setIfInBounds_toArray, List.set_cons_zero, List.set_cons_succ]
  refine anyZ_pure (i := 7) (v := ?_) (some 33) rfl rfl (by kernel_rfl) (by kernel_rfl) (by kernel_rfl) (by kernel_rfl) (fun _ _ _ h => h) (Or.inl ⟨by rfl, ?_⟩) (fun _ => hHeld) ?_
  rotate_left
  · intro w' _
    go_simp
    first | done | with_reducible rfl
  try simp only [Go.Act.put, List.setIfInBounds_toArray, List.set_cons_zero, List.set_cons_succ]
  refine anyZ_pure (i := 8) (v := ?_) (some 34) rfl rfl (by kernel_rfl) (by kernel_rfl) (by kernel_rfl) (by kernel_rfl) (fun _ _ _ h => h) (Or.inl ⟨by rfl, ?_⟩) (fun _ => hHeld) ?_
  rotate_left
  · intro w' _
    go_simp
    first | done | with_reducible rfl
  try simp only [Go.Act.put, List.setIfInBounds_toArray, List.set_cons_zero, List.set_cons_succ]
  refine anyZ_pure (i := 9) (v := ?_) (some 35) rfl rfl (by kernel_rfl) (by kernel_rfl) (by kernel_rfl) (by kernel_rfl) (fun _ _ _ h => h) (Or.inl ⟨by rfl, ?_⟩) (fun _ => hHeld) ?_
  rotate_left
  · intro w' _
    go_simp
    first | done | with_reducible rfl
  try simp only [Go.Act.put, List.setIfInBounds_toArray, List.set_cons_zero, List.set_cons_succ]
  refine anyZ_read (i := 10) (v := ?_) (some 36) [14, 15, 16, 17, 18, 19] rfl rfl (by kernel_rfl) (by kernel_rfl) (by kernel_rfl) (by kernel_rfl) (by kernel_rfl) (by kernel_rfl) (fun _ _ _ h => h) (Or.inl ⟨by rfl, ?_⟩) hHeld ?_
  rotate_left
  · intro w' hSw
    obtain ⟨q1, q2⟩ := HC.out w' hSw
    go_simp
    first | done | with_reducible rfl
  try simp only [Go.Act.put, List.setIfInBounds_toArray, List.set_cons_zero, List.set_cons_succ]
  refine anyZ_pure (i := 12) (v := ?_) (some 38) rfl rfl (by kernel_rfl) (by kernel_rfl) (by kernel_rfl) (by kernel_rfl) (fun _ _ _ h => h) (Or.inl ⟨by rfl, ?_⟩) (fun _ => hHeld) ?_
  rotate_left
  · intro w' _
    go_simp
    first | done | with_reducible rfl
  try simp only [Go.Act.put, List.setIfInBounds_toArray, List.set_cons_zero, List.set_cons_succ]
  refine anyZ_ready (rs := [11]) (by kernel_rfl) (by simp) ?_
  refine AllZ.step rfl (fun K hK => ?_) AllZ.nil
  go_simp
  refine hK.out _ _ (hHeld.alloc _) (fun hHeld => ?_)
  clear hK K
  try change anyZ _ _ _ _ _ _ _ _ (Go.Act.put _ (some 37) _) _
  try simp only [Go.Act.put, List.setIfInBounds_toArray, List.set_cons_zero, List.set_cons_succ]
  refine anyZ_ready (rs := [13]) (by kernel_rfl) (by simp) ?_
  refine AllZ.step rfl (fun K hK => ?_) AllZ.nil
  refine stepOf_append8s rfl (.tmp 37) (.tmp 38) Try.t8n rfl _ [] rfl (Own8.fresh _ _ #[] 0 rfl (by decide)) A n c bs rfl HN.out (HRD.out _ hHeld) (by simp; have := HN.out; have := HL.out; omega) ?_
  intro A2 c2 w2 ho2 hf2 hm2
  simp only [List.length_nil, Nat.zero_add, List.nil_append] at ho2 hm2 ⊢
  have HNB := Lib.hid (fun x (e : (Value.slice A2 bs.length c2).ownBlock = some x) => moved_new hm2 HF1.out.size e)
  have HO2 := Lib.hid ho2
  have HF2 := Lib.hid (hHeld.trans hf2 (fun x hx e => by have h2 := own_fresh e; have h3 := HF1.out.size; have h4 : w1.drew.heap.size = w1.heap.size := rfl; omega))
  clear ho2 hf2 hm2
  refine hK.out _ _ (HF2.out) (fun hHeld => ?_)
  clear hK K
  try change anyZ _ _ _ _ _ _ _ _ (Go.Act.put _ (some 39) _) _
  try simp only [Go.Act.put, List.setIfInBounds_toArray, List.set_cons_zero, List.set_cons_succ]
  refine anyZ_pure (i := 14) (v := ?_) (some 40) rfl rfl (by kernel_rfl) (by kernel_rfl) (by kernel_rfl) (by kernel_rfl) (fun _ _ _ h => h) (Or.inl ⟨by rfl, ?_⟩) (fun _ => hHeld) ?_
  rotate_left
  · intro w' _
    go_simp
    first | done | with_reducible rfl
  try simp only [Go.Act.put, List.setIfInBounds_toArray, List.set_cons_zero, List.set_cons_succ]
  refine anyZ_ready (rs := [15]) (by kernel_rfl) (by simp) ?_
  refine AllZ.step rfl (fun K hK => ?_) AllZ.nil
  go_simp
  refine hK.out _ _ (hHeld.alloc _) (fun hHeld => ?_)
  clear hK K
  try change anyZ _ _ _ _ _ _ _ _ (Go.Act.put _ (some 41) _) _
  try simp only [Go.Act.put, List.setIfInBounds_toArray, List.set_cons_zero, List.set_cons_succ]
  refine anyZ_ready (rs := [16]) (by kernel_rfl) (by simp) ?_
  refine AllZ.last rfl (by kernel_rfl) (fun K hK => ?_) AllZ.nil
  have hrow := H.out.row.fr0 hHeld
  have hsl : Sl (w2.alloc (.cells #[.int .i64 fr, .int .i64 rt, .int .i64 (s.sent : Int), .slice A2 bs.length c2] 61)) 4 (.slice (some ⟨w2.heap.size, 0, none⟩) 1 1) 1 (KP.mk ⟨fr, rt, s.sent, bs⟩ A2 c2).cells := Sl.at rfl rfl (fun j u hu => by rw [Nat.zero_add, (Bk.new w2 _ _).cell]; simpa [KP.cells, KP.sl] using hu)
  refine stepOf_appendR Try.teQ rfl (.tmp 30) (.tmp 41) rfl (.slice A0 ks.length c0) ks.length (kpc ks) rfl hrow _ 1 (KP.mk ⟨fr, rt, s.sent, bs⟩ A2 c2).cells rfl hsl (fun u hu => kpc_one [KP.mk ⟨fr, rt, s.sent, bs⟩ A2 c2] u (by simpa [kpc] using hu)) (by have := HLL.out; unfold maxLen; omega) (by have := HLL.out; omega) ?_
  intro A3 c3 w3 hr3 hf3 hm3
  have f3 : Fr (fun k => (Value.slice A0 ks.length c0).ownBlock = some k) w w3 := (hHeld.mono (fun _ _ h => h.elim)).trans hf3 (fun _ _ h => h)
  have b3 := H.out.blk.fr f3 H.out.rowg
  have k2 : w3.cell? ⟨g, 2, none⟩ = some (.slice A0 ks.length c0) := b3.cell 2
  have k1 : w3.cell? ⟨g, 1, none⟩ = some (.int .i64 (s.sent : Int)) := b3.cell 1
  have z2 := b3.frozen 2
  have z1 := b3.frozen 1
  have HO3 := Lib.hid (HO2.out.fr (((Fr.refl (fun _ => False) w2).alloc (.cells #[.int .i64 fr, .int .i64 rt, .int .i64 (s.sent : Int), .slice A2 bs.length c2] 61)).mono (T := fun k => (Value.slice A0 ks.length c0).ownBlock = some k) (fun _ _ h => h.elim) |>.trans hf3 (fun _ _ h => h)) (fun k hk e => by have h1 := HNB.out k hk; have h2 := H.out.row.lt e; omega))
  have HR3 := Lib.hid hr3
  have F3 := Lib.hid f3
  have B3 := Lib.hid b3
  have HM3 := Lib.hid (hm3.imp id (fun ⟨k, e, hk⟩ => ⟨k, e, Nat.le_trans hHeld.size hk⟩) : Moved w (.slice A0 ks.length c0) (.slice A3 (ks.length + 1) c3))
  clear hrow hsl hr3 hf3 f3 b3 hm3 hHeld HC
  refine hK.out _ _ ?_
  clear hK K
  try change anyZ _ _ _ _ _ _ _ _ (Go.Act.put _ (some 42) _) _
  try simp only [Go.Act.put, List.setIfInBounds_toArray, List.set_cons_zero, List.set_cons_succ]
  refine anyZ_pure (i := 17) (v := ?_) (some 43) rfl rfl (by kernel_rfl) (by kernel_rfl) (by kernel_rfl) (by kernel_rfl) (fun _ _ _ h => h) (Or.inl ⟨by rfl, ?_⟩) (notYet (by kernel_rfl)) ?_
  rotate_left
  · intro w' _
    go_simp
    first | done | with_reducible rfl
  try simp only [Go.Act.put, List.setIfInBounds_toArray, List.set_cons_zero, List.set_cons_succ]
  refine anyZ_pure (i := 18) (v := ?_) (some 44) rfl rfl (by kernel_rfl) (by kernel_rfl) (by kernel_rfl) (by kernel_rfl) (fun _ _ _ h => h) (Or.inl ⟨by rfl, ?_⟩) (notYet (by kernel_rfl)) ?_
  rotate_left
  · intro w' _
    go_simp
    first | done | with_reducible rfl
  try simp only [Go.Act.put, List.setIfInBounds_toArray, List.set_cons_zero, List.set_cons_succ]
  refine anyZ_ready (rs := [19]) (by kernel_rfl) (by simp) ?_
  refine AllZ.last rfl (by kernel_rfl) (fun K hK => ?_) AllZ.nil
  go_simp
  refine hK.out _ _ ?_
  clear hK K
  try change anyZ _ _ _ _ _ _ _ _ (Go.Act.put _ none _) _
  try simp only [Go.Act.put, List.setIfInBounds_toArray, List.set_cons_zero, List.set_cons_succ]
  refine anyZ_done (by kernel_rfl) ?_ _
  have ho3 := HO3.out
  have f3 := F3.out
  go_wp2
  go_ret
  exact ⟨rfl, rsend_fin H.out HE.out HJ.out (K := KP.mk ⟨fr, rt, s.sent, bs⟩ A2 c2) rfl (fun k hk => HNB.out k hk) ho3 HR3.out f3 B3.out HM3.out⟩


set_option maxRecDepth 100000 in
set_option maxHeartbeats 4000000 in
theorem rwithout_last (g : Nat) (s : NS) (b off c k : Nat) (CV : Value) (ks : List KP) (w : World) (h : RefM w g s ⟨.slice (some ⟨b, off, none⟩) ks.length c, CV, ks⟩) (hk : k < ks.length) (hq : ks.length ≤ 1048576) (hck : c = k + 1) :
    Calls Try.prog 40 #[.pointer (some ⟨g, 0, none⟩), .int .i64 (k : Int)] w fun e w' => e = .returned (.tuple #[]) ∧ ∃ m', RefM w' g (s.drop k) m' ∧ Fr (fun x => x = g) w w' ∧ ∀ x, RB g m' x → RB g ⟨.slice (some ⟨b, off, none⟩) ks.length c, CV, ks⟩ x ∨ w.heap.size ≤ x := by
  obtain ⟨A0, c0, hLV, hlc, hcm, _⟩ := h.row.form
  simp only at hLV hlc
  injection hLV with e1 _ e3
  subst e1 e3
  obtain ⟨n, hn⟩ : ∃ n, ks.length = n := ⟨_, rfl⟩
  have HC := Lib.hid (fun w' (hf : Fr (fun _ => False) w w') => show w'.cell? ⟨g, 2, none⟩ = some (.slice (some ⟨b, off, none⟩) n c) from by rw [← hn]; exact (h.fr0 hf).cells rfl)
  have H := Lib.hid h
  have HN := Lib.hid hn
  have HS1 := Lib.hid (fun W (hf : Fr (fun _ => False) w W) => slTake (ks := ks) (h.row.fr0 hf) (k := k) (by omega))
  unfold maxLen at hcm
  rw [hn] at hk hlc hq
  obtain rfl : n = k + 1 := by omega
  subst hck
  have HS2 := Lib.hid (fun W => show Sl W 4 (.slice (some ⟨b, off, none⟩) 0 0) 0 (kpc (ks.drop (k + 1))) from by rw [List.drop_eq_nil_of_le (by omega)]; exact Sl.none)
  have hk0 : (0 : Int) ≤ (k : Int) := by omega
  have hkc : (k : Int) ≤ (k : Int) + 1 := by omega
  have hcm' : (k : Int) + 1 ≤ 9223372036854775807 := by omega
  have hb0 : (0 : Int) ≤ (k : Int) + 1 := by omega
  have hwr : IntKind.i64.wrap ((k : Int) + 1) = (k : Int) + 1 := by rw [IntKind.wrap_i64]; omega
  have htk : ((k : Int) + 1).toNat = k + 1 := by omega
  clear h hn hlc hcm
  go_enter Try.func40, Try.ntmps40
  go_wp2_with fail
  refine wp_region_Z [19] (fun w' => Fr (fun _ => False) w w') (by kernel_rfl) ((Fr.refl _ _).drew) (fun hHeld => ?_)
  refine anyZ_pure (i := 0) (v := ?_) (some 4) rfl rfl (by kernel_rfl) (by kernel_rfl) (by kernel_rfl) (by kernel_rfl) (fun _ _ _ h => h) (Or.inl ⟨by rfl, ?_⟩) (fun _ => hHeld) ?_
  rotate_left
  · intro w' _
    go_simp
    first | done | with_reducible rfl
  try simp only [Go.Act.put, List.setIfInBounds_toArray, List.set_cons_zero, List.set_cons_succ]
  refine anyZ_pure (i := 2) (v := ?_) (some 6) rfl rfl (by kernel_rfl) (by kernel_rfl) (by kernel_rfl) (by kernel_rfl) (fun _ _ _ h => h) (Or.inl ⟨by rfl, ?_⟩) (fun _ => hHeld) ?_
  rotate_left
  · intro w' _
    go_simp
    first | done | with_reducible rfl
  try simp only [Go.Act.put, List.setIfInBounds_toArray, List.set_cons_zero, List.set_cons_succ]
  refine anyZ_pure (i := 3) (v := ?_) (some 7) rfl rfl (by kernel_rfl) (by kernel_rfl) (by kernel_rfl) (by kernel_rfl) (fun _ _ _ h => h) (Or.inl ⟨by rfl, ?_⟩) (fun _ => hHeld) ?_
  rotate_left
  · intro w' _
    go_simp
    first | done | with_reducible rfl
  try simp only [Go.Act.put, List.setIfInBounds_toArray, List.set_cons_zero, List.set_cons_succ]
  refine anyZ_pure (i := 4) (v := ?_) (some 8) rfl rfl (by kernel_rfl) (by kernel_rfl) (by kernel_rfl) (by kernel_rfl) (fun _ _ _ h => h) (Or.inl ⟨by rfl, ?_⟩) (fun _ => hHeld) ?_
  rotate_left
  · intro w' _
    go_simp
    first | done | with_reducible rfl
  try simp only [Go.Act.put, List.setIfInBounds_toArray, List.set_cons_zero, List.set_cons_succ]
  refine anyZ_read (i := 5) (v := ?_) (some 9) [7, 8, 16, 17, 18, 19] rfl rfl (by kernel_rfl) (by kernel_rfl) (by kernel_rfl) (by kernel_rfl) (by kernel_rfl) (by kernel_rfl) (fun _ _ _ h => h) (Or.inl ⟨by rfl, ?_⟩) hHeld ?_
  rotate_left
  · intro w' hSw
    have q1 := HC.out w' hSw
    go_simp
    first | done | with_reducible rfl
  try simp only [Go.Act.put, List.setIfInBounds_toArray, List.set_cons_zero, List.set_cons_succ]
  refine anyZ_pure (i := 6) (v := ?_) (some 10) rfl rfl (by kernel_rfl) (by kernel_rfl) (by kernel_rfl) (by kernel_rfl) (fun _ _ _ h => h) (Or.inl ⟨by rfl, ?_⟩) (fun _ => hHeld) ?_
  rotate_left
  · intro w' _
    go_simp
    first | done | with_reducible rfl
  try simp only [Go.Act.put, List.setIfInBounds_toArray, List.set_cons_zero, List.set_cons_succ]
  refine anyZ_pure (i := 7) (v := ?_) (some 11) rfl rfl (by kernel_rfl) (by kernel_rfl) (by kernel_rfl) (by kernel_rfl) (fun _ _ _ h => h) (Or.inl ⟨by rfl, ?_⟩) (fun _ => hHeld) ?_
  rotate_left
  · intro w' _
    go_simp
    first | done | with_reducible rfl
  try simp only [Go.Act.put, List.setIfInBounds_toArray, List.set_cons_zero, List.set_cons_succ]
  refine anyZ_pure (i := 9) (v := ?_) (some 13) rfl rfl (by kernel_rfl) (by kernel_rfl) (by kernel_rfl) (by kernel_rfl) (fun _ _ _ h => h) (Or.inl ⟨by rfl, ?_⟩) (fun _ => hHeld) ?_
  rotate_left
  · intro w' _
    go_simp
    first | done | with_reducible rfl
  try simp only [Go.Act.put, List.setIfInBounds_toArray, List.set_cons_zero, List.set_cons_succ]
  refine anyZ_pure (i := 10) (v := ?_) (some 14) rfl rfl (by kernel_rfl) (by kernel_rfl) (by kernel_rfl) (by kernel_rfl) (fun _ _ _ h => h) (Or.inl ⟨by rfl, ?_⟩) (fun _ => hHeld) ?_
  rotate_left
  · intro w' _
    go_simp
    first | done | with_reducible rfl
  try simp only [Go.Act.put, List.setIfInBounds_toArray, List.set_cons_zero, List.set_cons_succ]
  refine anyZ_pure (i := 11) (v := ?_) (some 15) rfl rfl (by kernel_rfl) (by kernel_rfl) (by kernel_rfl) (by kernel_rfl) (fun _ _ _ h => h) (Or.inl ⟨by rfl, ?_⟩) (fun _ => hHeld) ?_
  rotate_left
  · intro w' _
    go_simp
    first | done | with_reducible rfl
  try simp only [Go.Act.put, List.setIfInBounds_toArray, List.set_cons_zero, List.set_cons_succ]
  refine anyZ_read (i := 12) (v := ?_) (some 16) [15, 16, 17, 18, 19] rfl rfl (by kernel_rfl) (by kernel_rfl) (by kernel_rfl) (by kernel_rfl) (by kernel_rfl) (by kernel_rfl) (fun _ _ _ h => h) (Or.inl ⟨by rfl, ?_⟩) hHeld ?_
  rotate_left
  · intro w' hSw
    have q1 := HC.out w' hSw
    go_simp
    first | done | with_reducible rfl
  try simp only [Go.Act.put, List.setIfInBounds_toArray, List.set_cons_zero, List.set_cons_succ]
  refine anyZ_pure (i := 13) (v := ?_) (some 17) rfl rfl (by kernel_rfl) (by kernel_rfl) (by kernel_rfl) (by kernel_rfl) (fun _ _ _ h => h) (Or.inl ⟨by rfl, ?_⟩) (fun _ => hHeld) ?_
  rotate_left
  · intro w' _
    go_simp
    first | done | with_reducible rfl
  try simp only [Go.Act.put, List.setIfInBounds_toArray, List.set_cons_zero, List.set_cons_succ]
  refine anyZ_pure (i := 14) (v := ?_) (some 18) rfl rfl (by kernel_rfl) (by kernel_rfl) (by kernel_rfl) (by kernel_rfl) (fun _ _ _ h => h) (Or.inl ⟨by rfl, ?_⟩) (fun _ => hHeld) ?_
  rotate_left
  · intro w' _
    go_simp
    first | done | with_reducible rfl
  try simp only [Go.Act.put, List.setIfInBounds_toArray, List.set_cons_zero, List.set_cons_succ]
  refine anyZ_pure (i := 15) (v := ?_) (some 19) rfl rfl (by kernel_rfl) (by kernel_rfl) (by kernel_rfl) (by kernel_rfl) (fun _ _ _ h => h) (Or.inl ⟨by rfl, ?_⟩) (fun _ => hHeld) ?_
  rotate_left
  · intro w' _
    go_simp
    first | done | with_reducible rfl
  try simp only [Go.Act.put, List.setIfInBounds_toArray, List.set_cons_zero, List.set_cons_succ]
  refine anyZ_ready (rs := [1]) (by kernel_rfl) (by simp) ?_
  refine AllZ.step rfl (fun K hK => ?_) AllZ.nil
  go_simp
  refine hK.out _ _ (hHeld.alloc _) (fun hHeld => ?_)
  clear hK K
  try change anyZ _ _ _ _ _ _ _ _ (Go.Act.put _ (some 5) _) _
  try simp only [Go.Act.put, List.setIfInBounds_toArray, List.set_cons_zero, List.set_cons_succ]
  refine anyZ_ready (rs := [8]) (by kernel_rfl) (by simp) ?_
  refine AllZ.step rfl (fun K hK => ?_) AllZ.nil
  have hnr := NewRow.fresh w.drew
  refine stepOf_appendR Try.teQ rfl (.tmp 5) (.tmp 11) rfl _ 0 [] rfl hnr.row (.slice (some ⟨b, off, none⟩) k (k + 1)) k (kpc (ks.take k)) rfl (HS1.out _ hHeld) (kpc_one _) (by unfold maxLen; omega) (by omega) ?_
  intro A8 c8 w8 hr8 hf8 hm8
  have N8 := Lib.hid ((hnr.from (Fr.refl _ w).drew).step hr8 hf8 hm8)
  clear hnr hr8 hf8 hm8
  simp only [Nat.zero_add, List.nil_append] at N8 ⊢
  refine hK.out _ _ (N8.out.fr) (fun hHeld => ?_)
  clear hK K
  try change anyZ _ _ _ _ _ _ _ _ (Go.Act.put _ (some 12) _) _
  try simp only [Go.Act.put, List.setIfInBounds_toArray, List.set_cons_zero, List.set_cons_succ]
  refine anyZ_ready (rs := [16]) (by kernel_rfl) (by simp) ?_
  refine AllZ.step rfl (fun K hK => ?_) AllZ.nil
  refine stepOf_appendR Try.teQ rfl (.tmp 12) (.tmp 19) rfl _ k (kpc (ks.take k)) rfl N8.out.row _ 0 (kpc (ks.drop (k + 1))) rfl (HS2.out _) (kpc_one _) (by unfold maxLen; omega) (by omega) ?_
  intro A9 c9 w9 hr9 hf9 hm9
  have n9 := N8.out.step hr9 hf9 hm9
  have N9 := Lib.hid n9
  have k2 : w9.cell? ⟨g, 2, none⟩ = some (.slice (some ⟨b, off, none⟩) (k + 1) (k + 1)) := HC.out w9 n9.fr
  have z2 : w9.frozen? ⟨g, 2, none⟩ = false := (H.out.blk.fr n9.fr (fun h => h)).frozen 2
  clear hr9 hf9 hm9 n9 HC
  refine hK.out _ _ (N9.out.fr) (fun hHeld => ?_)
  clear hK K
  try change anyZ _ _ _ _ _ _ _ _ (Go.Act.put _ (some 20) _) _
  try simp only [Go.Act.put, List.setIfInBounds_toArray, List.set_cons_zero, List.set_cons_succ]
  refine anyZ_pure (i := 17) (v := ?_) (some 21) rfl rfl (by kernel_rfl) (by kernel_rfl) (by kernel_rfl) (by kernel_rfl) (fun _ _ _ h => h) (Or.inl ⟨by rfl, ?_⟩) (fun _ => hHeld) ?_
  rotate_left
  · intro w' _
    go_simp
    first | done | with_reducible rfl
  try simp only [Go.Act.put, List.setIfInBounds_toArray, List.set_cons_zero, List.set_cons_succ]
  refine anyZ_pure (i := 18) (v := ?_) (some 22) rfl rfl (by kernel_rfl) (by kernel_rfl) (by kernel_rfl) (by kernel_rfl) (fun _ _ _ h => h) (Or.inl ⟨by rfl, ?_⟩) (fun _ => hHeld) ?_
  rotate_left
  · intro w' _
    go_simp
    first | done | with_reducible rfl
  try simp only [Go.Act.put, List.setIfInBounds_toArray, List.set_cons_zero, List.set_cons_succ]
  refine anyZ_ready (rs := [19]) (by kernel_rfl) (by simp) ?_
  refine AllZ.last rfl (by kernel_rfl) (fun K hK => ?_) AllZ.nil
  go_simp
  refine hK.out _ _ ?_
  clear hK K
  try change anyZ _ _ _ _ _ _ _ _ (Go.Act.put _ none _) _
  try simp only [Go.Act.put, List.setIfInBounds_toArray, List.set_cons_zero, List.set_cons_succ]
  refine anyZ_done (by kernel_rfl) ?_ _
  clear hHeld
  go_wp2
  go_end0
  have hl : s.drop k = { s with l := (ks.take k ++ ks.drop (k + 1)).map KP.pk } := by
    unfold NS.drop
    rw [List.eraseIdx_eq_take_drop_succ, H.out.l, List.map_append, List.map_take, List.map_drop]
  rw [hl]
  have n9 := N9.out
  rw [← kpc_append] at n9
  exact ⟨rfl, RefM.relist H.out (n := k + 0) (ks' := ks.take k ++ ks.drop (k + 1)) (fun q hq => by exact mem_two hq) (by have := HN.out; simp; omega) n9⟩


set_option maxRecDepth 100000 in
set_option maxHeartbeats 4000000 in
theorem rwithout_mid (g : Nat) (s : NS) (b off c k : Nat) (CV : Value) (ks : List KP) (w : World) (h : RefM w g s ⟨.slice (some ⟨b, off, none⟩) ks.length c, CV, ks⟩) (hk : k < ks.length) (hq : ks.length ≤ 1048576) (hck : ¬ (c = k + 1)) :
    Calls Try.prog 40 #[.pointer (some ⟨g, 0, none⟩), .int .i64 (k : Int)] w fun e w' => e = .returned (.tuple #[]) ∧ ∃ m', RefM w' g (s.drop k) m' ∧ Fr (fun x => x = g) w w' ∧ ∀ x, RB g m' x → RB g ⟨.slice (some ⟨b, off, none⟩) ks.length c, CV, ks⟩ x ∨ w.heap.size ≤ x := by
  obtain ⟨A0, c0, hLV, hlc, hcm, _⟩ := h.row.form
  simp only at hLV hlc
  injection hLV with e1 _ e3
  subst e1 e3
  obtain ⟨n, hn⟩ : ∃ n, ks.length = n := ⟨_, rfl⟩
  have HC := Lib.hid (fun w' (hf : Fr (fun _ => False) w w') => show w'.cell? ⟨g, 2, none⟩ = some (.slice (some ⟨b, off, none⟩) n c) from by rw [← hn]; exact (h.fr0 hf).cells rfl)
  have H := Lib.hid h
  have HN := Lib.hid hn
  have HS1 := Lib.hid (fun W (hf : Fr (fun _ => False) w W) => slTake (ks := ks) (h.row.fr0 hf) (k := k) (by omega))
  unfold maxLen at hcm
  rw [hn] at hk hlc hq
  have HS2 := Lib.hid (fun W (hf : Fr (fun _ => False) w W) => slDrop (ks := ks) (h.row.fr0 hf) (k := k + 1) (c' := c - (k + 1)) (by omega))
  rw [hn] at HS2
  have hk0 : (0 : Int) ≤ (k : Int) := by omega
  have hkc : (k : Int) ≤ (c : Int) := by omega
  have hcm' : (c : Int) ≤ 9223372036854775807 := by omega
  have hb0 : (0 : Int) ≤ (k : Int) + 1 := by omega
  have hwr : IntKind.i64.wrap ((k : Int) + 1) = (k : Int) + 1 := by rw [IntKind.wrap_i64]; omega
  have htn : ((k : Int) + 1).toNat = k + 1 := by omega
  have hkn : (k : Int) + 1 ≤ (n : Int) := by omega
  have hck2 : ¬ (c = k) := by omega
  clear h hn hlc hcm
  go_enter Try.func40, Try.ntmps40
  go_wp2_with fail
  refine wp_region_Z [19] (fun w' => Fr (fun _ => False) w w') (by kernel_rfl) ((Fr.refl _ _).drew) (fun hHeld => ?_)
  refine anyZ_pure (i := 0) (v := ?_) (some 4) rfl rfl (by kernel_rfl) (by kernel_rfl) (by kernel_rfl) (by kernel_rfl) (fun _ _ _ h => h) (Or.inl ⟨by rfl, ?_⟩) (fun _ => hHeld) ?_
  rotate_left
  · intro w' _
    go_simp
    first | done | with_reducible rfl
  try simp only [Go.Act.put, List.setIfInBounds_toArray, List.set_cons_zero, List.set_cons_succ]
  refine anyZ_pure (i := 2) (v := ?_) (some 6) rfl rfl (by kernel_rfl) (by kernel_rfl) (by kernel_rfl) (by kernel_rfl) (fun _ _ _ h => h) (Or.inl ⟨by rfl, ?_⟩) (fun _ => hHeld) ?_
  rotate_left
  · intro w' _
    go_simp
    first | done | with_reducible rfl
  try simp only [Go.Act.put, List.setIfInBounds_toArray, List.set_cons_zero, List.set_cons_succ]
  refine anyZ_pure (i := 3) (v := ?_) (some 7) rfl rfl (by kernel_rfl) (by kernel_rfl) (by kernel_rfl) (by kernel_rfl) (fun _ _ _ h => h) (Or.inl ⟨by rfl, ?_⟩) (fun _ => hHeld) ?_
  rotate_left
  · intro w' _
    go_simp
    first | done | with_reducible rfl
  try simp only [Go.Act.put, List.setIfInBounds_toArray, List.set_cons_zero, List.set_cons_succ]
  refine anyZ_pure (i := 4) (v := ?_) (some 8) rfl rfl (by kernel_rfl) (by kernel_rfl) (by kernel_rfl) (by kernel_rfl) (fun _ _ _ h => h) (Or.inl ⟨by rfl, ?_⟩) (fun _ => hHeld) ?_
  rotate_left
  · intro w' _
    go_simp
    first | done | with_reducible rfl
  try simp only [Go.Act.put, List.setIfInBounds_toArray, List.set_cons_zero, List.set_cons_succ]
  refine anyZ_read (i := 5) (v := ?_) (some 9) [7, 8, 16, 17, 18, 19] rfl rfl (by kernel_rfl) (by kernel_rfl) (by kernel_rfl) (by kernel_rfl) (by kernel_rfl) (by kernel_rfl) (fun _ _ _ h => h) (Or.inl ⟨by rfl, ?_⟩) hHeld ?_
  rotate_left
  · intro w' hSw
    have q1 := HC.out w' hSw
    go_simp
    first | done | with_reducible rfl
  try simp only [Go.Act.put, List.setIfInBounds_toArray, List.set_cons_zero, List.set_cons_succ]
  refine anyZ_pure (i := 6) (v := ?_) (some 10) rfl rfl (by kernel_rfl) (by kernel_rfl) (by kernel_rfl) (by kernel_rfl) (fun _ _ _ h => h) (Or.inl ⟨by rfl, ?_⟩) (fun _ => hHeld) ?_
  rotate_left
  · intro w' _
    go_simp
    first | done | with_reducible rfl
  try simp only [Go.Act.put, List.setIfInBounds_toArray, List.set_cons_zero, List.set_cons_succ]
  refine anyZ_pure (i := 7) (v := ?_) (some 11) rfl rfl (by kernel_rfl) (by kernel_rfl) (by kernel_rfl) (by kernel_rfl) (fun _ _ _ h => h) (Or.inl ⟨by rfl, ?_⟩) (fun _ => hHeld) ?_
  rotate_left
  · intro w' _
    go_simp
    first | done | with_reducible rfl
  try simp only [Go.Act.put, List.setIfInBounds_toArray, List.set_cons_zero, List.set_cons_succ]
  refine anyZ_pure (i := 9) (v := ?_) (some 13) rfl rfl (by kernel_rfl) (by kernel_rfl) (by kernel_rfl) (by kernel_rfl) (fun _ _ _ h => h) (Or.inl ⟨by rfl, ?_⟩) (fun _ => hHeld) ?_
  rotate_left
  · intro w' _
    go_simp
    first | done | with_reducible rfl
  try simp only [Go.Act.put, List.setIfInBounds_toArray, List.set_cons_zero, List.set_cons_succ]
  refine anyZ_pure (i := 10) (v := ?_) (some 14) rfl rfl (by kernel_rfl) (by kernel_rfl) (by kernel_rfl) (by kernel_rfl) (fun _ _ _ h => h) (Or.inl ⟨by rfl, ?_⟩) (fun _ => hHeld) ?_
  rotate_left
  · intro w' _
    go_simp
    first | done | with_reducible rfl
  try simp only [Go.Act.put, List.setIfInBounds_toArray, List.set_cons_zero, List.set_cons_succ]
  refine anyZ_pure (i := 11) (v := ?_) (some 15) rfl rfl (by kernel_rfl) (by kernel_rfl) (by kernel_rfl) (by kernel_rfl) (fun _ _ _ h => h) (Or.inl ⟨by rfl, ?_⟩) (fun _ => hHeld) ?_
  rotate_left
  · intro w' _
    go_simp
    first | done | with_reducible rfl
  try simp only [Go.Act.put, List.setIfInBounds_toArray, List.set_cons_zero, List.set_cons_succ]
  refine anyZ_read (i := 12) (v := ?_) (some 16) [15, 16, 17, 18, 19] rfl rfl (by kernel_rfl) (by kernel_rfl) (by kernel_rfl) (by kernel_rfl) (by kernel_rfl) (by kernel_rfl) (fun _ _ _ h => h) (Or.inl ⟨by rfl, ?_⟩) hHeld ?_
  rotate_left
  · intro w' hSw
    have q1 := HC.out w' hSw
    go_simp
    first | done | with_reducible rfl
  try simp only [Go.Act.put, List.setIfInBounds_toArray, List.set_cons_zero, List.set_cons_succ]
  refine anyZ_pure (i := 13) (v := ?_) (some 17) rfl rfl (by kernel_rfl) (by kernel_rfl) (by kernel_rfl) (by kernel_rfl) (fun _ _ _ h => h) (Or.inl ⟨by rfl, ?_⟩) (fun _ => hHeld) ?_
  rotate_left
  · intro w' _
    go_simp
    first | done | with_reducible rfl
  try simp only [Go.Act.put, List.setIfInBounds_toArray, List.set_cons_zero, List.set_cons_succ]
  refine anyZ_pure (i := 14) (v := ?_) (some 18) rfl rfl (by kernel_rfl) (by kernel_rfl) (by kernel_rfl) (by kernel_rfl) (fun _ _ _ h => h) (Or.inl ⟨by rfl, ?_⟩) (fun _ => hHeld) ?_
  rotate_left
  · intro w' _
    go_simp
    first | done | with_reducible rfl
  try simp only [Go.Act.put, List.setIfInBounds_toArray, List.set_cons_zero, List.set_cons_succ]
  refine anyZ_pure (i := 15) (v := ?_) (some 19) rfl rfl (by kernel_rfl) (by kernel_rfl) (by kernel_rfl) (by kernel_rfl) (fun _ _ _ h => h) (Or.inl ⟨by rfl, ?_⟩) (fun _ => hHeld) ?_
  rotate_left
  · intro w' _
    go_simp
    first | done | with_reducible rfl
  try simp only [Go.Act.put, List.setIfInBounds_toArray, List.set_cons_zero, List.set_cons_succ]
  refine anyZ_ready (rs := [1]) (by kernel_rfl) (by simp) ?_
  refine AllZ.step rfl (fun K hK => ?_) AllZ.nil
  go_simp
  refine hK.out _ _ (hHeld.alloc _) (fun hHeld => ?_)
  clear hK K
  try change anyZ _ _ _ _ _ _ _ _ (Go.Act.put _ (some 5) _) _
  try simp only [Go.Act.put, List.setIfInBounds_toArray, List.set_cons_zero, List.set_cons_succ]
  refine anyZ_ready (rs := [8]) (by kernel_rfl) (by simp) ?_
  refine AllZ.step rfl (fun K hK => ?_) AllZ.nil
  have hnr := NewRow.fresh w.drew
  refine stepOf_appendR Try.teQ rfl (.tmp 5) (.tmp 11) rfl _ 0 [] rfl hnr.row (.slice (some ⟨b, off, none⟩) k c) k (kpc (ks.take k)) rfl (HS1.out _ hHeld) (kpc_one _) (by unfold maxLen; omega) (by omega) ?_
  intro A8 c8 w8 hr8 hf8 hm8
  have N8 := Lib.hid ((hnr.from (Fr.refl _ w).drew).step hr8 hf8 hm8)
  clear hnr hr8 hf8 hm8
  simp only [Nat.zero_add, List.nil_append] at N8 ⊢
  refine hK.out _ _ (N8.out.fr) (fun hHeld => ?_)
  clear hK K
  try change anyZ _ _ _ _ _ _ _ _ (Go.Act.put _ (some 12) _) _
  try simp only [Go.Act.put, List.setIfInBounds_toArray, List.set_cons_zero, List.set_cons_succ]
  refine anyZ_ready (rs := [16]) (by kernel_rfl) (by simp) ?_
  refine AllZ.step rfl (fun K hK => ?_) AllZ.nil
  refine stepOf_appendR Try.teQ rfl (.tmp 12) (.tmp 19) rfl _ k (kpc (ks.take k)) rfl N8.out.row _ (n - (k + 1)) (kpc (ks.drop (k + 1))) rfl (HS2.out _ N8.out.fr) (kpc_one _) (by unfold maxLen; omega) (by omega) ?_
  intro A9 c9 w9 hr9 hf9 hm9
  have n9 := N8.out.step hr9 hf9 hm9
  have N9 := Lib.hid n9
  have k2 : w9.cell? ⟨g, 2, none⟩ = some (.slice (some ⟨b, off, none⟩) n c) := HC.out w9 n9.fr
  have z2 : w9.frozen? ⟨g, 2, none⟩ = false := (H.out.blk.fr n9.fr (fun h => h)).frozen 2
  clear hr9 hf9 hm9 n9 HC
  refine hK.out _ _ (N9.out.fr) (fun hHeld => ?_)
  clear hK K
  try change anyZ _ _ _ _ _ _ _ _ (Go.Act.put _ (some 20) _) _
  try simp only [Go.Act.put, List.setIfInBounds_toArray, List.set_cons_zero, List.set_cons_succ]
  refine anyZ_pure (i := 17) (v := ?_) (some 21) rfl rfl (by kernel_rfl) (by kernel_rfl) (by kernel_rfl) (by kernel_rfl) (fun _ _ _ h => h) (Or.inl ⟨by rfl, ?_⟩) (fun _ => hHeld) ?_
  rotate_left
  · intro w' _
    go_simp
    first | done | with_reducible rfl
  try simp only [Go.Act.put, List.setIfInBounds_toArray, List.set_cons_zero, List.set_cons_succ]
  refine anyZ_pure (i := 18) (v := ?_) (some 22) rfl rfl (by kernel_rfl) (by kernel_rfl) (by kernel_rfl) (by kernel_rfl) (fun _ _ _ h => h) (Or.inl ⟨by rfl, ?_⟩) (fun _ => hHeld) ?_
  rotate_left
  · intro w' _
    go_simp
    first | done | with_reducible rfl
  try simp only [Go.Act.put, List.setIfInBounds_toArray, List.set_cons_zero, List.set_cons_succ]
  refine anyZ_ready (rs := [19]) (by kernel_rfl) (by simp) ?_
  refine AllZ.last rfl (by kernel_rfl) (fun K hK => ?_) AllZ.nil
  go_simp
  refine hK.out _ _ ?_
  clear hK K
  try change anyZ _ _ _ _ _ _ _ _ (Go.Act.put _ none _) _
  try simp only [Go.Act.put, List.setIfInBounds_toArray, List.set_cons_zero, List.set_cons_succ]
  refine anyZ_done (by kernel_rfl) ?_ _
  clear hHeld
  go_wp2
  go_end0
  have hl : s.drop k = { s with l := (ks.take k ++ ks.drop (k + 1)).map KP.pk } := by
    unfold NS.drop
    rw [List.eraseIdx_eq_take_drop_succ, H.out.l, List.map_append, List.map_take, List.map_drop]
  rw [hl]
  have n9 := N9.out
  rw [← kpc_append] at n9
  exact ⟨rfl, RefM.relist H.out (n := k + (n - (k + 1))) (ks' := ks.take k ++ ks.drop (k + 1)) (fun q hq => by exact mem_two hq) (by have := HN.out; simp; omega) n9⟩


theorem rwithout_any (g : Nat) (s : NS) (m : RL) (k : Nat) (w : World) (h : RefM w g s m) (hk : k < s.l.length) (hq : s.l.length ≤ 1048576) :
    Calls Try.prog 40 #[.pointer (some ⟨g, 0, none⟩), .int .i64 (k : Int)] w fun e w' => e = .returned (.tuple #[]) ∧ ∃ m', RefM w' g (s.drop k) m' ∧ Fr (fun x => x = g) w w' ∧ ∀ x, RB g m' x → RB g m x ∨ w.heap.size ≤ x := by
  have hll := h.ll
  obtain ⟨A, c, hLV, hlc, hcm, hA⟩ := h.row.form
  obtain ⟨LV, CV, ks⟩ := m
  simp only at *
  subst hLV
  obtain ⟨b, off, rfl⟩ := hA (by omega)
  by_cases hck : c = k + 1
  · exact rwithout_last g s b off c k CV ks w h (by omega) (by omega) hck
  · exact rwithout_mid g s b off c k CV ks w h (by omega) (by omega) hck
end Go.Proofs.Ytmlckocgahfnkaa
