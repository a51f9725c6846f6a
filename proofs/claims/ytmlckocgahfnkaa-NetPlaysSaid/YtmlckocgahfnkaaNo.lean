/- The net's Cut and Clear. -/
import Derived.Test.YtmlckocgahfnkaaNn
namespace Go.Proofs.Ytmlckocgahfnkaa
open Go.RowKit

theorem pair_agg (a b X Y : Int) (w : World) (h : pr a b = (X, Y)) :
    Calls Try.prog 31 #[.int .i64 a, .int .i64 b] w fun e w' => e = .returned (.agg #[.int .i64 X, .int .i64 Y]) ∧ Fr (fun _ => False) w w' := by
  have := pair_any a b w
  rw [h] at this
  exact this
theorem run_eql_pairs (W : World) (a b X Y : Int) : (binOp .eql 69 (.agg #[.int .i64 a, .int .i64 b]) (.agg #[.int .i64 X, .int .i64 Y])).run Try.prog W = .ok (.bool (a == X && b == Y)) W := run_eql_pair W (a, b) (X, Y)

set_option maxRecDepth 100000 in
set_option maxHeartbeats 4000000 in
theorem cut1_any (p : PL) (cb : Nat) (X Y : Int) (w : World) (h0 : w.cell? ⟨cb, 0, none⟩ = some (.int .i64 X)) (h1 : w.cell? ⟨cb, 1, none⟩ = some (.int .i64 Y)) :
    Calls Try.prog 33 #[p.agg, .pointer (some ⟨cb, 0, none⟩)] w fun e w' => e = .returned (.bool (decide (pr p.pk.fr p.pk.to = (X, Y)))) ∧ Fr (fun _ => False) w w' := by
  obtain ⟨U, V, huv⟩ : ∃ U V, pr p.pk.fr p.pk.to = (U, V) := ⟨_, _, rfl⟩
  rw [huv]
  have C := Lib.hid (fun w' => pair_agg p.pk.fr p.pk.to U V w' huv)
  have hq := fun W => run_eql_pairs W U V X Y
  rw [show (decide ((U, V) = (X, Y))) = (U == X && V == Y) by rw [Bool.eq_iff_iff]; simp]
  generalize (U == X && V == Y) = q at *
  have hcb := World.block_lt_of_cell? w _ h0
  unfold PL.agg
  obtain ⟨cp, hcp⟩ : ∃ cp, p.fn = .func (.func 44) #[] cp := ⟨_, rfl⟩
  rw [hcp]
  have fa : Fr (fun _ => False) w (w.alloc (.cells #[.int .i64 p.pk.fr, .int .i64 p.pk.to, .int .i64 (p.pk.n : Int), .func (.func 44) #[] cp] 67)) := (Fr.refl _ _).alloc _
  have ka := Bk.new w 67 #[.int .i64 p.pk.fr, .int .i64 p.pk.to, .int .i64 (p.pk.n : Int), .func (.func 44) #[] cp]
  obtain ⟨g0, hg0⟩ : ∃ g0, w.heap.size = g0 := ⟨_, rfl⟩
  rw [hg0] at ka
  have HC := Lib.hid (fun w' (hf : Fr (fun _ => False) w w') => show w'.cell? ⟨cb, 0, none⟩ = some (.int .i64 X) ∧ w'.cell? ⟨cb, 1, none⟩ = some (.int .i64 Y) from ⟨(hf.cell (p := ⟨cb, 0, none⟩) hcb (fun h => h)).trans h0, (hf.cell (p := ⟨cb, 1, none⟩) hcb (fun h => h)).trans h1⟩)
  have FA := Lib.hid fa
  have KA := Lib.hid ka
  clear huv hcp h0 h1 fa ka
  go_enter Try.func33, Try.ntmps33
  go_wp2_with fail
  refine wp_region_Z [] (fun w' => Fr (fun _ => False) w w' ∧ Bk w' g0 67 #[.int .i64 p.pk.fr, .int .i64 p.pk.to, .int .i64 (p.pk.n : Int), .func (.func 44) #[] cp]) (by kernel_rfl) (⟨FA.out.drew, KA.out⟩) (fun hHeld => ?_)
  refine anyZ_pure (i := 0) (v := ?_) (some 4) rfl rfl (by kernel_rfl) (by kernel_rfl) (by kernel_rfl) (by kernel_rfl) (fun _ _ _ h => h) (Or.inl ⟨by rfl, ?_⟩) (fun _ => hHeld) ?_
  rotate_left
  · intro w' _
    go_simp
    first | done | with_reducible rfl
  try simp only [Go.Act.put, List.setIfInBounds_toArray, List.set_cons_zero, List.set_cons_succ]
  refine anyZ_read (i := 1) (v := ?_) (some 5) [4, 6, 7] rfl rfl (by kernel_rfl) (by kernel_rfl) (by kernel_rfl) (by kernel_rfl) (by kernel_rfl) (by kernel_rfl) (fun _ _ _ h => h) (Or.inl ⟨by rfl, ?_⟩) hHeld ?_
  rotate_left
  · intro w' hSw
    have q1 : w'.cell? ⟨g0, 0, none⟩ = some (.int .i64 p.pk.fr) := hSw.2.cell 0
    go_simp
    first | done | with_reducible rfl
  try simp only [Go.Act.put, List.setIfInBounds_toArray, List.set_cons_zero, List.set_cons_succ]
  refine anyZ_pure (i := 2) (v := ?_) (some 6) rfl rfl (by kernel_rfl) (by kernel_rfl) (by kernel_rfl) (by kernel_rfl) (fun _ _ _ h => h) (Or.inl ⟨by rfl, ?_⟩) (fun _ => hHeld) ?_
  rotate_left
  · intro w' _
    go_simp
    first | done | with_reducible rfl
  try simp only [Go.Act.put, List.setIfInBounds_toArray, List.set_cons_zero, List.set_cons_succ]
  refine anyZ_read (i := 3) (v := ?_) (some 7) [4, 6, 7] rfl rfl (by kernel_rfl) (by kernel_rfl) (by kernel_rfl) (by kernel_rfl) (by kernel_rfl) (by kernel_rfl) (fun _ _ _ h => h) (Or.inl ⟨by rfl, ?_⟩) hHeld ?_
  rotate_left
  · intro w' hSw
    have q1 : w'.cell? ⟨g0, 1, none⟩ = some (.int .i64 p.pk.to) := hSw.2.cell 1
    go_simp
    first | done | with_reducible rfl
  try simp only [Go.Act.put, List.setIfInBounds_toArray, List.set_cons_zero, List.set_cons_succ]
  refine anyZ_read (i := 5) (v := ?_) (some 9) [6, 7] rfl rfl (by kernel_rfl) (by kernel_rfl) (by kernel_rfl) (by kernel_rfl) (by kernel_rfl) (by kernel_rfl) (fun _ _ _ h => h) (Or.inl ⟨by rfl, ?_⟩) hHeld ?_
  rotate_left
  · intro w' hSw
    obtain ⟨q1, q2⟩ := HC.out w' hSw.1
    go_simp
    first | done | with_reducible rfl
  try simp only [Go.Act.put, List.setIfInBounds_toArray, List.set_cons_zero, List.set_cons_succ]
  refine anyZ_ready (rs := [4]) (by kernel_rfl) (by simp) ?_
  refine AllZ.step rfl (fun K hK => ?_) AllZ.nil
  go_simp
  refine (C.out _).mono ?_; rintro e w1 ⟨rfl, hf1⟩
  have HF1 := Lib.hid hf1
  clear hf1
  try go_simp
  refine hK.out _ _ (⟨hHeld.1.trans HF1.out (fun _ _ h => h), hHeld.2.fr HF1.out (fun h => h)⟩) (fun hHeld => ?_)
  clear hK K
  try change anyZ _ _ _ _ _ _ _ _ (Go.Act.put _ (some 8) _) _
  try simp only [Go.Act.put, List.setIfInBounds_toArray, List.set_cons_zero, List.set_cons_succ]
  refine anyZ_pure (i := 6) (v := ?_) (some 10) rfl rfl (by kernel_rfl) (by kernel_rfl) (by kernel_rfl) (by kernel_rfl) (fun _ _ _ h => h) (Or.inl ⟨by rfl, ?_⟩) (fun _ => hHeld) ?_
  rotate_left
  · intro w' _
    have q1 := hq w'
    go_simp
    first | done | with_reducible rfl
  try simp only [Go.Act.put, List.setIfInBounds_toArray, List.set_cons_zero, List.set_cons_succ]
  refine anyZ_pure (i := 7) (v := ?_) (some 3) rfl rfl (by kernel_rfl) (by kernel_rfl) (by kernel_rfl) (by kernel_rfl) (fun _ _ _ h => h) (Or.inl ⟨by rfl, ?_⟩) (fun _ => hHeld) ?_
  rotate_left
  · intro w' _
    go_simp
    first | done | with_reducible rfl
  try simp only [Go.Act.put, List.setIfInBounds_toArray, List.set_cons_zero, List.set_cons_succ]
  refine anyZ_done (by kernel_rfl) ?_ _
  have HH := Lib.hid hHeld
  clear hHeld
  go_wp2
  go_ret
  exact ⟨rfl, HH.out.1⟩

theorem clear1_any (p : PL) (cb : Nat) (X : Int) (w : World) (h0 : w.cell? ⟨cb, 0, none⟩ = some (.int .i64 X)) :
    Calls Try.prog 35 #[p.agg, .pointer (some ⟨cb, 0, none⟩)] w fun e w' => e = .returned (.bool (decide (p.pk.to = X))) ∧ Fr (fun _ => False) w w' := by
  have hcb := World.block_lt_of_cell? w _ h0
  simp only at hcb
  unfold PL.agg
  obtain ⟨cp, hcp⟩ : ∃ cp, p.fn = .func (.func 44) #[] cp := ⟨_, rfl⟩
  rw [hcp]
  have fa : Fr (fun _ => False) w (w.alloc (.cells #[.int .i64 p.pk.fr, .int .i64 p.pk.to, .int .i64 (p.pk.n : Int), .func (.func 44) #[] cp] 67)) := (Fr.refl _ _).alloc _
  rw [show decide (p.pk.to = X) = (p.pk.to == X) by rw [Bool.eq_iff_iff]; simp]
  have FA := Lib.hid fa
  clear fa hcp
  go_enter Try.func35, Try.ntmps35
  go_wp2
  go_ret
  exact ⟨rfl, FA.out⟩

theorem deletef_any (A : Option Addr) (n c : Nat) (ps : List PL) (t : PL → Bool) (F : FuncId) (caps : Array Value) (w : World) (h : Row w 67 4 (.slice A n c) n (plc ps)) (hl : ps.length = n) (hn : n ≤ 1048576) (hcf : ∀ args (W : World), (callFunc F args).run Try.prog W = .ok (.enter F args) W)
    (hs : ∀ W, Fr (fun k => (Value.slice A n c).ownBlock = some k) w W → ∀ p ∈ ps, Calls Try.prog F (#[p.agg] ++ caps) W fun e w' => e = .returned (.bool (t p)) ∧ Fr (fun _ => False) W w') :
    Calls Try.prog 42 #[.slice A n c, .func (.func F) #[] caps] w fun e w' => ∃ k, e = .returned (.slice A k c) ∧ k = (ps.filter fun p => !t p).length ∧ Row w' 67 4 (.slice A k c) k (plc (ps.filter fun p => !t p)) ∧ Fr (fun k => (Value.slice A n c).ownBlock = some k) w w' := by
  rcases h.2 with ⟨e, h0⟩ | ⟨b, off, cap, cur, e, _⟩
  · injection e with e1 _ e3
    subst h0 e1 e3
    have hps : ps = [] := List.eq_nil_of_length_eq_zero hl
    subst hps
    have CI := Lib.hid (index_any none 0 0 0 [] t F caps w h rfl hn ⟨hcf, fun W hf p hp => by simp at hp⟩)
    have H := Lib.hid h
    clear h
    go_enter Try.func42, Try.ntmps42
    go_wp2_with fail
    refine CI.out.mono ?_; rintro e w1 ⟨r, rfl, hr, hf1⟩
    rcases hr with ⟨rfl, _⟩ | ⟨i0, _, hi0, _⟩
    · have HF1 := Lib.hid hf1
      clear hf1 CI
      go_wp2
      go_ret
      exact ⟨0, rfl, rfl, H.out.fr0 HF1.out, HF1.out.mono (fun _ _ h => h.elim)⟩
    · simp at hi0
  · injection e with e1 _ e3
    subst e1 e3
    refine (deletef_some b off n c ps t F caps w h hl hn ⟨hcf, fun W hf p hp => hs W (hf.mono (fun x _ e => by rw [e]; rfl)) p hp⟩).mono ?_
    rintro e w' ⟨k, h1, h2, h3, h4⟩
    exact ⟨k, h1, h2, h3, h4.mono (fun x _ e => by rw [e]; rfl)⟩

/-- What lose leaves. -/
theorem lose_fin {w w3 : World} {g mb : Nat} {s : NS} {A : Option Addr} {c k : Nat} {ps : List PL} {t : PL → Bool} {u : Pk → Bool} (h : NetM w g s ⟨mb, .slice A ps.length c, ps⟩) (ht : ∀ p, t p = u p.pk) (hk : k = (ps.filter fun p => !t p).length)
    (hr : Row w3 67 4 (.slice A k c) k (plc (ps.filter fun p => !t p))) (hf : Fr (fun x => (Value.slice A ps.length c).ownBlock = some x) w w3) :
    ∃ m', NetM (w3.setCell ⟨g, 3, none⟩ (.slice A k c)) g { s with l := s.l.filter fun q => !u q } m' ∧
      Fr (NW g ⟨mb, .slice A ps.length c, ps⟩) w (w3.setCell ⟨g, 3, none⟩ (.slice A k c)) ∧ (∀ x, NB g m' x → NB g ⟨mb, .slice A ps.length c, ps⟩ x) ∧ k = (s.l.filter fun q => !u q).length := by
  have f4 := Bk.fr_set (w := w3) (g := g) 3 (.slice A k c)
  have hb := h.blk.fr hf h.rowg
  have hfl : s.l.filter (fun q => !u q) = (ps.filter fun p => !t p).map PL.pk := by
    rw [h.l, List.filter_map]
    congr 1
    apply List.filter_congr
    intro p _
    simp [ht p]
  refine ⟨⟨mb, .slice A k c, ps.filter fun p => !t p⟩, ⟨fun q hq => h.ok q ((List.mem_filter.1 hq).1), h.n9, ?_, (h.map.fr hf h.rowm).fr f4 (fun e => h.mapg e.symm), ?_, hfl, fun q hq => ?_⟩, (hf.mono (fun _ _ e => .inr (.inr e))).trans f4 (fun _ _ e => .inl e), fun x hx => ?_, by rw [hfl, hk]; simp⟩
  · simpa [ncells] using hb.set 3 (.slice A k c)
  · have hne := hr.ne hb (by decide)
    have := hr.fr f4 (fun x e e2 => hne (by rw [e, e2]))
    simp only [← hk]
    exact this
  · have hq' := (List.mem_filter.1 hq).1
    exact ((h.each q hq').fr hf (fun x hx e => h.apart hq' (.inr (.inr e)) hx)).fr f4 (fun x hx e => h.apart hq' (.inl e) hx)
  · rcases hx with (e | e | e) | ⟨q, hq, e⟩
    · exact .inl (.inl e)
    · exact .inl (.inr (.inl e))
    · refine .inl (.inr (.inr ?_))
      rcases A with _ | ad
      · simp [Value.ownBlock] at e
      · exact e
    · exact .inr ⟨q, (List.mem_filter.1 hq).1, e⟩

set_option maxRecDepth 100000 in
set_option maxHeartbeats 4000000 in
theorem lose_any (g : Nat) (s : NS) (m : NL) (t : PL → Bool) (u : Pk → Bool) (F : FuncId) (caps : Array Value) (w : World) (h : NetM w g s m) (hq : s.l.length ≤ 1048576) (ht : ∀ p, t p = u p.pk) (hcf : ∀ args (W : World), (callFunc F args).run Try.prog W = .ok (.enter F args) W)
    (hs : ∀ W, Fr (NW g m) w W → ∀ p ∈ m.ps, Calls Try.prog F (#[p.agg] ++ caps) W fun e w' => e = .returned (.bool (t p)) ∧ Fr (fun _ => False) W w') :
    Calls Try.prog 32 #[.pointer (some ⟨g, 0, none⟩), .func (.func F) #[] caps] w fun e w' => ∃ m', e = .returned (.int .i64 ((s.l.length : Int) - ((s.l.filter fun q => !u q).length : Int))) ∧ NetM w' g { s with l := s.l.filter fun q => !u q } m' ∧ Fr (NW g m) w w' ∧ ∀ k, NB g m' k → NB g m k := by
  obtain ⟨A, c, hLV, hlc, hcm, _⟩ := h.row.form
  have hll := h.ll
  obtain ⟨mb, LV, ps⟩ := m
  simp only at *
  subst hLV
  have c3 : w.cell? ⟨g, 3, none⟩ = some (.slice A ps.length c) := h.cells rfl
  have C := Lib.hid (deletef_any A ps.length c ps t F caps w h.row rfl (by omega) hcf (fun W hf p hp => hs W (hf.mono (fun _ _ e => .inr (.inr e))) p hp))
  have H := Lib.hid h
  have HLL := Lib.hid hll
  have hnb : (ps.length : Int) ≤ 1048576 := by omega
  have HT := Lib.hid ht
  clear h hll hlc hcm hs hcf ht
  obtain ⟨n, hn⟩ : ∃ n, ps.length = n := ⟨_, rfl⟩
  have HN := Lib.hid hn
  rw [hn] at c3 C hnb
  clear hn
  go_enter Try.func32, Try.ntmps32
  go_wp2_with fail
  refine C.out.mono ?_; rintro e w3 ⟨k, rfl, hk, hr, hf⟩
  rw [← HN.out] at hf
  have hb := H.out.blk.fr hf H.out.rowg
  have k3 : w3.cell? ⟨g, 3, none⟩ = some (.slice A ps.length c) := hb.cell 3
  have z3 := hb.frozen 3
  have hkn : (k : Int) ≤ (n : Int) := by
    have h1 := List.length_filter_le (fun p => !t p) ps
    have h2 := HN.out
    omega
  have HK := Lib.hid hk
  have HR := Lib.hid hr
  have HF := Lib.hid hf
  have hk0 : (0 : Int) ≤ (k : Int) := by omega
  clear hb hk hr hf C c3
  go_wp2
  go_ret
  obtain ⟨m', q1, q2, q3, q4⟩ := lose_fin H.out HT.out HK.out HR.out HF.out
  exact ⟨m', by rw [← q4, ← HLL.out, HN.out]; rfl, q1, q2, q3⟩

theorem call33 (args : Array Value) (W : World) : (callFunc 33 args).run Try.prog W = .ok (.enter 33 args) W := by
  go_simp
theorem call35 (args : Array Value) (W : World) : (callFunc 35 args).run Try.prog W = .ok (.enter 35 args) W := by
  go_simp

set_option maxRecDepth 100000 in
set_option maxHeartbeats 4000000 in
theorem clear_any (g : Nat) (s : NS) (m : NL) (k : Int) (w : World) (h : NetM w g s m) (hq : s.l.length ≤ 1048576) :
    Calls Try.prog 18 #[.pointer (some ⟨g, 0, none⟩), .int .i64 k] w fun e w' => ∃ m', e = .returned (.int .i64 ((s.l.length : Int) - ((s.clear k).l.length : Int))) ∧ NetM w' g (s.clear k) m' ∧ Fr (NW g m) w w' ∧ ∀ x, NB g m' x → NB g m x := by
  have hmf : ∀ (fn : Fn) (first cap : Array Value) (w : World), (Instr.makeFunc fn first cap).run Try.prog w = .ok (.func fn first cap) w := fun _ _ _ _ => rfl
  have fa : Fr (fun _ => False) w (w.alloc (.cells #[.int .i64 k] 3)) := (Fr.refl _ _).alloc _
  have ka := Bk.new w 3 #[.int .i64 k]
  have hnw : ∀ x, NW g m x → ¬ x = w.heap.size := fun x hx e => by have := h.lt (.inl hx); omega
  have C := Lib.hid (lose_any g s m (fun p => decide (p.pk.to = k)) (fun q => decide (q.to = k)) 35 #[.pointer (some ⟨w.heap.size, 0, none⟩)] _ (h.fr0 fa) hq (fun _ => rfl) call35 (fun W hf p _ => clear1_any p w.heap.size k W ((ka.fr hf (fun e => hnw _ e rfl)).cell 0)))
  have FA := Lib.hid fa
  clear h fa ka hnw
  go_enter Try.func18, Try.ntmps18
  go_wp2_with fail
  refine C.out.mono ?_; rintro e w3 ⟨m', rfl, h1, h2, h3⟩
  have H1 := Lib.hid h1
  have H2 := Lib.hid h2
  have H3 := Lib.hid h3
  clear h1 h2 h3 C
  go_wp2
  go_ret
  exact ⟨m', rfl, H1.out, (FA.out.mono (fun _ _ h => h.elim)).trans H2.out (fun _ _ h => h), H3.out⟩

theorem cut_bad (g : Nat) (s : NS) (m : NL) (a b : Int) (w : World) (h : NetM w g s m) (he : s.cutErr a b = true) :
    Calls Try.prog 16 #[.pointer (some ⟨g, 0, none⟩), .int .i64 a, .int .i64 b] w fun e w' => e = .returned (.int .i64 1) ∧ w = w' := by
  have CA := Lib.hid (has_any g s.N a w (h.cells rfl))
  have CB := Lib.hid (has_any g s.N b w (h.cells rfl))
  unfold NS.cutErr NS.is at he
  clear h
  generalize (decide (0 ≤ a) && decide (a < (s.N : Int))) = qa at *
  generalize (decide (0 ≤ b) && decide (b < (s.N : Int))) = qb at *
  cases qa with
  | false =>
    go_enter Try.func16, Try.ntmps16
    go_wp2_with (go_at_call 28; refine CA.out.mono ?_; rintro e w1 ⟨rfl, rfl⟩)
    go_ret
    exact ⟨rfl, rfl⟩
  | true =>
    cases qb with
    | false =>
      go_enter Try.func16, Try.ntmps16
      go_wp2_with fail
      refine CA.out.mono ?_; rintro e w1 ⟨rfl, rfl⟩
      go_wp2_with fail
      refine CB.out.mono ?_; rintro e w1 ⟨rfl, rfl⟩
      go_wp2
      go_ret
      exact ⟨rfl, rfl⟩
    | true =>
      have hab : a = b := by simpa using he
      have hab' : (a == b) = true := by simpa using hab
      subst hab
      go_enter Try.func16, Try.ntmps16
      go_wp2_with fail
      refine CA.out.mono ?_; rintro e w1 ⟨rfl, rfl⟩
      go_wp2_with fail
      refine CB.out.mono ?_; rintro e w1 ⟨rfl, rfl⟩
      go_wp2
      go_ret
      exact ⟨rfl, rfl⟩

set_option maxRecDepth 100000 in
set_option maxHeartbeats 4000000 in
theorem cut_any (g : Nat) (s : NS) (m : NL) (a b : Int) (w : World) (h : NetM w g s m) (hq : s.l.length ≤ 1048576) (he : s.cutErr a b = false) :
    Calls Try.prog 16 #[.pointer (some ⟨g, 0, none⟩), .int .i64 a, .int .i64 b] w fun e w' => e = .returned (.int .i64 0) ∧ ∃ m', NetM w' g (s.cut a b) m' ∧ Fr (NW g m) w w' ∧ ∀ x, NB g m' x → NB g m x := by
  have CA := Lib.hid (has_any g s.N a w (h.cells rfl))
  have CB := Lib.hid (has_any g s.N b w (h.cells rfl))
  unfold NS.cutErr at he
  obtain ⟨⟨ha, hb⟩, hab⟩ : (s.is a = true ∧ s.is b = true) ∧ a ≠ b := by simpa using he
  unfold NS.is at ha hb
  rw [ha] at CA
  rw [hb] at CB
  have hab' : (a == b) = false := by simpa using hab
  obtain ⟨X, Y, hxy⟩ : ∃ X Y, pr a b = (X, Y) := ⟨_, _, rfl⟩
  have CP := Lib.hid (fun W => pair_agg a b X Y W hxy)
  have hmf : ∀ (fn : Fn) (first cap : Array Value) (w : World), (Instr.makeFunc fn first cap).run Try.prog w = .ok (.func fn first cap) w := fun _ _ _ _ => rfl
  have HC := Lib.hid (fun w' (hf : Fr (fun _ => False) w w') => show w'.cell? ⟨g, 2, none⟩ = some (.map (some m.mb)) from (h.fr0 hf).cells rfl)
  have H := Lib.hid h
  have HXY := Lib.hid hxy
  clear h he ha hb hab hxy
  go_enter Try.func16, Try.ntmps16
  go_wp2_with fail
  refine CA.out.mono ?_; rintro e w1 ⟨rfl, rfl⟩
  go_wp2_with fail
  refine CB.out.mono ?_; rintro e w1 ⟨rfl, rfl⟩
  go_wp2_with fail
  refine (CP.out _).mono ?_; rintro e w1 ⟨rfl, hf1⟩
  have HF1 := Lib.hid hf1
  clear CA CB CP hf1
  go_wp2_with fail
  have fa : Fr (fun _ => False) w (w1.alloc (.cells #[.int .i64 X, .int .i64 Y] 69)) := HF1.out.alloc _
  have ka := Bk.new w1 69 #[.int .i64 X, .int .i64 Y]
  obtain ⟨W, hW⟩ : ∃ W, w1.alloc (.cells #[.int .i64 X, .int .i64 Y] 69) = W := ⟨_, rfl⟩
  obtain ⟨cb, hcb⟩ : ∃ cb, w1.heap.size = cb := ⟨_, rfl⟩
  rw [hW] at fa ka ⊢
  rw [hcb] at ka ⊢
  have HCB := Lib.hid (show w.heap.size ≤ cb by have := HF1.out.size; omega)
  have FA := Lib.hid fa
  have KA := Lib.hid ka
  clear hW hcb fa ka
  refine wp_region_Z [6] (fun w' => Fr (fun _ => False) W w') (by kernel_rfl) ((Fr.refl _ _).drew) (fun hHeld => ?_)
  refine anyZ_pure (i := 0) (v := ?_) (some 26) rfl rfl (by kernel_rfl) (by kernel_rfl) (by kernel_rfl) (by kernel_rfl) (fun _ _ _ h => h) (Or.inl ⟨by rfl, ?_⟩) (fun _ => hHeld) ?_
  rotate_left
  · intro w' _
    go_simp
    first | done | with_reducible rfl
  try simp only [Go.Act.put, List.setIfInBounds_toArray, List.set_cons_zero, List.set_cons_succ]
  refine anyZ_pure (i := 1) (v := ?_) (some 27) rfl rfl (by kernel_rfl) (by kernel_rfl) (by kernel_rfl) (by kernel_rfl) (fun _ _ _ h => h) (Or.inl ⟨by rfl, ?_⟩) (fun _ => hHeld) ?_
  rotate_left
  · intro w' _
    go_simp
    first | done | with_reducible rfl
  try simp only [Go.Act.put, List.setIfInBounds_toArray, List.set_cons_zero, List.set_cons_succ]
  refine anyZ_pure (i := 2) (v := ?_) (some 28) rfl rfl (by kernel_rfl) (by kernel_rfl) (by kernel_rfl) (by kernel_rfl) (fun _ _ _ h => h) (Or.inl ⟨by rfl, ?_⟩) (fun _ => hHeld) ?_
  rotate_left
  · intro w' _
    go_simp
    first | done | with_reducible rfl
  try simp only [Go.Act.put, List.setIfInBounds_toArray, List.set_cons_zero, List.set_cons_succ]
  refine anyZ_read (i := 3) (v := ?_) (some 29) [6] rfl rfl (by kernel_rfl) (by kernel_rfl) (by kernel_rfl) (by kernel_rfl) (by kernel_rfl) (by kernel_rfl) (fun _ _ _ h => h) (Or.inl ⟨by rfl, ?_⟩) hHeld ?_
  rotate_left
  · intro w' hSw
    have q1 := HC.out w' (FA.out.trans hSw (fun _ _ h => h))
    go_simp
    first | done | with_reducible rfl
  try simp only [Go.Act.put, List.setIfInBounds_toArray, List.set_cons_zero, List.set_cons_succ]
  refine anyZ_read (i := 4) (v := ?_) (some 30) [6] rfl rfl (by kernel_rfl) (by kernel_rfl) (by kernel_rfl) (by kernel_rfl) (by kernel_rfl) (by kernel_rfl) (fun _ _ _ h => h) (Or.inl ⟨by rfl, ?_⟩) hHeld ?_
  rotate_left
  · intro w' hSw
    have q1 : w'.cell? ⟨cb, 0, none⟩ = some (.int .i64 X) := (KA.out.fr hSw (fun h => h)).cell 0; have q2 : w'.cell? ⟨cb, 1, none⟩ = some (.int .i64 Y) := (KA.out.fr hSw (fun h => h)).cell 1
    go_simp
    first | done | with_reducible rfl
  try simp only [Go.Act.put, List.setIfInBounds_toArray, List.set_cons_zero, List.set_cons_succ]
  refine anyZ_pure (i := 5) (v := ?_) (some 31) rfl rfl (by kernel_rfl) (by kernel_rfl) (by kernel_rfl) (by kernel_rfl) (fun _ _ _ h => h) (Or.inl ⟨by rfl, ?_⟩) (fun _ => hHeld) ?_
  rotate_left
  · intro w' _
    go_simp
    first | done | with_reducible rfl
  try simp only [Go.Act.put, List.setIfInBounds_toArray, List.set_cons_zero, List.set_cons_succ]
  refine anyZ_ready (rs := [6]) (by kernel_rfl) (by simp) ?_
  refine AllZ.last rfl (by kernel_rfl) (fun K hK => ?_) AllZ.nil
  obtain ⟨w3, hrun, hm3, hf3⟩ := run_updateP ((H.out.fr0 (FA.out.trans hHeld (fun _ _ h => h))).map) (X, Y)
  unfold keyV at hrun
  go_simp
  have HM3 := Lib.hid hm3
  have HF3 := Lib.hid hf3
  clear hm3 hf3 hrun
  refine hK.out _ _ ?_
  clear hK K
  try change anyZ _ _ _ _ _ _ _ _ (Go.Act.put _ none _) _
  try simp only [Go.Act.put, List.setIfInBounds_toArray, List.set_cons_zero, List.set_cons_succ]
  refine anyZ_done (by kernel_rfl) ?_ _
  clear hHeld
  have fW3 : Fr (NW g m) w w3 := (FA.out.mono (fun _ _ h => h.elim)).trans ((Fr.refl (fun _ => False) W).drew.mono (T := NW g m) (fun _ _ h => h.elim) |>.trans HF3.out (fun _ _ e => .inr (.inl e))) (fun _ _ h => h)
  have h0 := H.out
  have hN : NetM w3 g { s.cut a b with l := s.l } m := by
    have f1 : Fr (fun k => k = m.mb) w w3 := (FA.out.mono (fun _ _ h => h.elim)).trans ((Fr.refl (fun _ => False) W).drew.mono (T := fun k => k = m.mb) (fun _ _ h => h.elim) |>.trans HF3.out (fun _ _ e => e)) (fun _ _ h => h)
    refine ⟨h0.ok, h0.n9, h0.blk.fr f1 h0.mapg, ?_, h0.row.fr f1 (fun k e e2 => h0.rowm (by rw [e, e2])), h0.l, fun p hp => (h0.each p hp).fr f1 (fun k hk e => h0.apart hp (.inr (.inl e)) hk)⟩
    have := HM3.out
    rw [← HXY.out, ← NS.keys_cut] at this
    exact this
  have kb : Bk w3 cb 69 #[.int .i64 X, .int .i64 Y] := KA.out.drew.fr HF3.out (fun e => by have h1 := h0.lt (.inl (.inr (.inl e))); have h2 := HCB.out; omega)
  have hnw : ∀ x, NW g m x → ¬ x = cb := fun x hx e => by have h1 := h0.lt (.inl hx); have h2 := HCB.out; omega
  have CL := Lib.hid (lose_any g { s.cut a b with l := s.l } m (fun p => decide (pr p.pk.fr p.pk.to = (X, Y))) (fun q => decide (pr q.fr q.to = pr a b)) 33 #[.pointer (some ⟨cb, 0, none⟩)] w3 hN hq (fun p => by rw [HXY.out]) call33 (fun W hf p _ => cut1_any p cb X Y W ((kb.fr hf (fun e => hnw _ e rfl)).cell 0) ((kb.fr hf (fun e => hnw _ e rfl)).cell 1)))
  have FW := Lib.hid fW3
  clear fW3 h0 hN kb hnw
  go_wp2_with fail
  refine CL.out.mono ?_; rintro e w4 ⟨m', rfl, h1, h2, h3⟩
  have H1 := Lib.hid h1
  have H2 := Lib.hid h2
  have H3 := Lib.hid h3
  clear h1 h2 h3 CL
  go_wp2
  go_ret
  exact ⟨rfl, m', H1.out, FW.out.trans H2.out (fun _ _ h => h), H3.out⟩
end Go.Proofs.Ytmlckocgahfnkaa
