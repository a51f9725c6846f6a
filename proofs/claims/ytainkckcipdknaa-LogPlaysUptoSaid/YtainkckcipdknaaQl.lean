/- Rows of entries that are the same; LogCompacts. -/
import Derived.Test.YtainkckcipdknaaQk
import Derived.Test.YtainkckcipdknaaStr
namespace Go.Proofs.Ytainkckcipdknaa
open Go.RowKit

/-- An operation is taken first; the slot that it writes is named (else the frame grows by a layer a take). -/
theorem wpAnyH_takeD {P : Program} {ops : Array Oper} {Q : Exit → Go.Act → World → Prop} {md : Region.Mode} {S : World → Prop} {i : Nat} {oi : Oper} {v : Value} {fuel : Nat} {listed : Array Bool} {a : Go.Act} {w : World} (d : Option Tmp) (hi : ops[i]? = some oi) (hd : oi.dst = d)
    (hs : Region.noSelect ops = true) (hf : Region.free md ops listed i = true) (hr : (Region.ready md ops listed).contains i = true)
    (hQ : ∀ c a w, Q (.panic c) (a.put oi.dst v) w → Q (.panic c) a w) (hy : YieldsIf P ops S oi v a) (hS : S w)
    (h : wpAnyH P md ops Q S fuel (listed.setIfInBounds i true) (a.put d v) w) : wpAnyH P md ops Q S (fuel + 1) listed a w := by
  subst hd
  exact wpAnyH_take hi hs hf hr hQ hy hS h

theorem Es.at' {F : Nat → Prop} {w : World} {b off n : Nat} {ps : List EL} (h : Es w (some ⟨b, off, none⟩) n ps F) {i : Nat} (hi : i < n) :
    w.cell? ⟨b, off + i * 2, none⟩ = some (.int .i64 (ps.getD i default).e.t) ∧ w.cell? ⟨b, off + i * 2 + 1, none⟩ = some (.slice (ps.getD i default).A (ps.getD i default).e.d.length (ps.getD i default).c) ∧ RdE w F (ps.getD i default) := by
  obtain ⟨b', off', e, h1, h2, h3⟩ := h.at hi
  injection e with e
  injection e with e1 e2
  subst e1 e2
  exact ⟨h1, h2, h3⟩
theorem getD_e {ps qs : List EL} (he : ps.map EL.e = qs.map EL.e) {i : Nat} (hi : i < ps.length) : (ps.getD i default).e = (qs.getD i default).e := by
  have h1 := getD_map EL.e hi
  have h2 := getD_map EL.e (l := qs) (i := i) (by have := congrArg List.length he; simp at this; omega)
  rw [← h1, ← h2, he]

set_option maxRecDepth 100000 in
set_option maxHeartbeats 4000000 in
theorem same_any (A B : Option Addr) (n c d : Nat) (ks rs : List EL) (G H : Nat → Prop) (w : World) (hk : Es w A n ks G) (hr : Es w B n rs H) (he : ks.map EL.e = rs.map EL.e) (hn : n ≤ 5000000000000) :
    Calls Try.prog 14 #[.slice A n c, .slice B n d] w fun e w' => e = .returned (.bool true) ∧ Fr (fun _ => False) w w' := by
  have HK := Lib.hid hk
  have HR := Lib.hid hr
  have HE := Lib.hid he
  have hnI : (n : Int) ≤ 5000000000000 := by omega
  clear hk hr he hn
  go_enter Try.func14, Try.ntmps14
  go_wp2_with fail
  go_loopw [5] (fun i wr => ∃ k : Nat, i = .int .i64 (k : Int) ∧ k ≤ n ∧ Fr (fun _ => False) w wr) (fun i _ => n - (intOf i).toNat)
  case atStart => exact ⟨0, rfl, Nat.zero_le _, Fr.refl _ _⟩
  case round =>
    obtain ⟨k, rfl, hk, hf⟩ := hrel
    have HF := Lib.hid hf
    clear hf
    have hk0 : (0 : Int) ≤ (k : Int) := by omega
    by_cases hlt : k < n
    · have hlt' : (k : Int) < n := by omega
      obtain ⟨b1, o1, rfl, _⟩ := HK.out.at hlt
      obtain ⟨b2, o2, rfl, _⟩ := HR.out.at hlt
      have HA := Lib.hid (fun w' (hf : Fr (fun _ => False) wr w') => (HK.out.fr0 (HF.out.trans hf (fun _ _ h => h))).at' hlt)
      have HB := Lib.hid (fun w' (hf : Fr (fun _ => False) wr w') => (HR.out.fr0 (HF.out.trans hf (fun _ _ h => h))).at' hlt)
      have hpk := getD_e HE.out (i := k) (by rw [HK.out.len]; exact hlt)
      have FA := Lib.hid (fun w' (hf : Fr (fun _ => False) wr w') => run_str8 Try.t8n Try.underlying5 Try.underlying9 (ks.getD k default).c (HA.out w' hf).2.2.rd rfl)
      have FB := Lib.hid (fun w' (hf : Fr (fun _ => False) wr w') => run_str8 Try.t8n Try.underlying5 Try.underlying9 (rs.getD k default).c (HB.out w' hf).2.2.rd rfl)
      generalize ks.getD k default = q at *
      generalize rs.getD k default = r at *
      rw [← hpk] at HB FB
      clear hpk
      obtain ⟨⟨t, X⟩, qA, qc⟩ := q
      obtain ⟨rp, rA, rc⟩ := r
      simp only at HA HB FA FB
      have b0 : ((strOf X).toList == (strOf X).toList) = true := by simp
      have b1 : (t == t) = true := by simp
      go_wp2_with fail
      refine wp_region_held_drew (S := fun w' => Fr (fun _ => False) wr w') (by kernel_rfl) ((Fr.refl _ _).drew) (fun hHeld => ?_)
      refine wpAnyH_takeD (i := 0) (v := ?_) (some 17) rfl rfl (by kernel_rfl) (by kernel_rfl) (by kernel_rfl) (fun _ _ _ h => h) (Or.inl ⟨by rfl, ?_⟩) (by assumption) ?_
      rotate_left
      · intro w' hSw
        go_simp
        first | done | with_reducible rfl
      try simp only [Go.Act.put, List.setIfInBounds_toArray, List.set_cons_zero, List.set_cons_succ]
      refine wpAnyH_takeD (i := 1) (v := ?_) (some 18) rfl rfl (by kernel_rfl) (by kernel_rfl) (by kernel_rfl) (fun _ _ _ h => h) (Or.inl ⟨by rfl, ?_⟩) (by assumption) ?_
      rotate_left
      · intro w' hSw
        go_simp
        first | done | with_reducible rfl
      try simp only [Go.Act.put, List.setIfInBounds_toArray, List.set_cons_zero, List.set_cons_succ]
      refine wpAnyH_takeD (i := 2) (v := ?_) (some 19) rfl rfl (by kernel_rfl) (by kernel_rfl) (by kernel_rfl) (fun _ _ _ h => h) (Or.inl ⟨by rfl, ?_⟩) (by assumption) ?_
      rotate_left
      · intro w' hSw
        go_simp
        first | done | with_reducible rfl
      try simp only [Go.Act.put, List.setIfInBounds_toArray, List.set_cons_zero, List.set_cons_succ]
      refine wpAnyH_takeD (i := 3) (v := ?_) (some 20) rfl rfl (by kernel_rfl) (by kernel_rfl) (by kernel_rfl) (fun _ _ _ h => h) (Or.inl ⟨by rfl, ?_⟩) (by assumption) ?_
      rotate_left
      · intro w' hSw
        go_simp
        first | done | with_reducible rfl
      try simp only [Go.Act.put, List.setIfInBounds_toArray, List.set_cons_zero, List.set_cons_succ]
      refine wpAnyH_takeD (i := 4) (v := ?_) (some 21) rfl rfl (by kernel_rfl) (by kernel_rfl) (by kernel_rfl) (fun _ _ _ h => h) (Or.inl ⟨by rfl, ?_⟩) (by assumption) ?_
      rotate_left
      · intro w' hSw
        obtain ⟨q0, q1, _⟩ := HA.out w' hSw
        go_simp
        first | done | with_reducible rfl
      try simp only [Go.Act.put, List.setIfInBounds_toArray, List.set_cons_zero, List.set_cons_succ]
      refine wpAnyH_takeD (i := 5) (v := ?_) (some 22) rfl rfl (by kernel_rfl) (by kernel_rfl) (by kernel_rfl) (fun _ _ _ h => h) (Or.inl ⟨by rfl, ?_⟩) (by assumption) ?_
      rotate_left
      · intro w' hSw
        go_simp
        first | done | with_reducible rfl
      try simp only [Go.Act.put, List.setIfInBounds_toArray, List.set_cons_zero, List.set_cons_succ]
      refine wpAnyH_takeD (i := 6) (v := ?_) (some 23) rfl rfl (by kernel_rfl) (by kernel_rfl) (by kernel_rfl) (fun _ _ _ h => h) (Or.inl ⟨by rfl, ?_⟩) (by assumption) ?_
      rotate_left
      · intro w' hSw
        go_simp
        first | done | with_reducible rfl
      try simp only [Go.Act.put, List.setIfInBounds_toArray, List.set_cons_zero, List.set_cons_succ]
      refine wpAnyH_takeD (i := 7) (v := ?_) (some 24) rfl rfl (by kernel_rfl) (by kernel_rfl) (by kernel_rfl) (fun _ _ _ h => h) (Or.inl ⟨by rfl, ?_⟩) (by assumption) ?_
      rotate_left
      · intro w' hSw
        go_simp
        first | done | with_reducible rfl
      try simp only [Go.Act.put, List.setIfInBounds_toArray, List.set_cons_zero, List.set_cons_succ]
      refine wpAnyH_takeD (i := 8) (v := ?_) (some 25) rfl rfl (by kernel_rfl) (by kernel_rfl) (by kernel_rfl) (fun _ _ _ h => h) (Or.inl ⟨by rfl, ?_⟩) (by assumption) ?_
      rotate_left
      · intro w' hSw
        go_simp
        first | done | with_reducible rfl
      try simp only [Go.Act.put, List.setIfInBounds_toArray, List.set_cons_zero, List.set_cons_succ]
      refine wpAnyH_takeD (i := 9) (v := ?_) (some 26) rfl rfl (by kernel_rfl) (by kernel_rfl) (by kernel_rfl) (fun _ _ _ h => h) (Or.inl ⟨by rfl, ?_⟩) (by assumption) ?_
      rotate_left
      · intro w' hSw
        obtain ⟨q0, q1, _⟩ := HB.out w' hSw
        go_simp
        first | done | with_reducible rfl
      try simp only [Go.Act.put, List.setIfInBounds_toArray, List.set_cons_zero, List.set_cons_succ]
      refine wpAnyH_takeD (i := 10) (v := ?_) (some 27) rfl rfl (by kernel_rfl) (by kernel_rfl) (by kernel_rfl) (fun _ _ _ h => h) (Or.inl ⟨by rfl, ?_⟩) (by assumption) ?_
      rotate_left
      · intro w' hSw
        go_simp
        first | done | with_reducible rfl
      try simp only [Go.Act.put, List.setIfInBounds_toArray, List.set_cons_zero, List.set_cons_succ]
      refine wpAnyH_takeD (i := 11) (v := ?_) (some 28) rfl rfl (by kernel_rfl) (by kernel_rfl) (by kernel_rfl) (fun _ _ _ h => h) (Or.inl ⟨by rfl, ?_⟩) (by assumption) ?_
      rotate_left
      · intro w' hSw
        go_simp
        first | done | with_reducible rfl
      try simp only [Go.Act.put, List.setIfInBounds_toArray, List.set_cons_zero, List.set_cons_succ]
      refine wpAnyH_takeD (i := 12) (v := ?_) (some 29) rfl rfl (by kernel_rfl) (by kernel_rfl) (by kernel_rfl) (fun _ _ _ h => h) (Or.inl ⟨by rfl, ?_⟩) (by assumption) ?_
      rotate_left
      · intro w' hSw
        go_simp
        first | done | with_reducible rfl
      try simp only [Go.Act.put, List.setIfInBounds_toArray, List.set_cons_zero, List.set_cons_succ]
      refine wpAnyH_takeD (i := 13) (v := ?_) (some 30) rfl rfl (by kernel_rfl) (by kernel_rfl) (by kernel_rfl) (fun _ _ _ h => h) (Or.inl ⟨by rfl, ?_⟩) (by assumption) ?_
      rotate_left
      · intro w' hSw
        go_simp
        first | done | with_reducible rfl
      try simp only [Go.Act.put, List.setIfInBounds_toArray, List.set_cons_zero, List.set_cons_succ]
      refine wpAnyH_takeD (i := 14) (v := ?_) (some 31) rfl rfl (by kernel_rfl) (by kernel_rfl) (by kernel_rfl) (fun _ _ _ h => h) (Or.inl ⟨by rfl, ?_⟩) (by assumption) ?_
      rotate_left
      · intro w' hSw
        go_simp
        first | done | with_reducible rfl
      try simp only [Go.Act.put, List.setIfInBounds_toArray, List.set_cons_zero, List.set_cons_succ]
      refine wpAnyH_takeD (i := 15) (v := ?_) (some 32) rfl rfl (by kernel_rfl) (by kernel_rfl) (by kernel_rfl) (fun _ _ _ h => h) (Or.inl ⟨by rfl, ?_⟩) (by assumption) ?_
      rotate_left
      · intro w' hSw
        go_simp
        first | done | with_reducible rfl
      try simp only [Go.Act.put, List.setIfInBounds_toArray, List.set_cons_zero, List.set_cons_succ]
      refine wpAnyH_takeD (i := 16) (v := ?_) (some 33) rfl rfl (by kernel_rfl) (by kernel_rfl) (by kernel_rfl) (fun _ _ _ h => h) (Or.inl ⟨by rfl, ?_⟩) (by assumption) ?_
      rotate_left
      · intro w' hSw
        obtain ⟨q0, q1, _⟩ := HA.out w' hSw
        go_simp
        first | done | with_reducible rfl
      try simp only [Go.Act.put, List.setIfInBounds_toArray, List.set_cons_zero, List.set_cons_succ]
      refine wpAnyH_takeD (i := 17) (v := ?_) (some 34) rfl rfl (by kernel_rfl) (by kernel_rfl) (by kernel_rfl) (fun _ _ _ h => h) (Or.inl ⟨by rfl, ?_⟩) (by assumption) ?_
      rotate_left
      · intro w' hSw
        have s1 := FA.out w' hSw
        go_simp
        first | done | with_reducible rfl
      try simp only [Go.Act.put, List.setIfInBounds_toArray, List.set_cons_zero, List.set_cons_succ]
      refine wpAnyH_takeD (i := 18) (v := ?_) (some 35) rfl rfl (by kernel_rfl) (by kernel_rfl) (by kernel_rfl) (fun _ _ _ h => h) (Or.inl ⟨by rfl, ?_⟩) (by assumption) ?_
      rotate_left
      · intro w' hSw
        go_simp
        first | done | with_reducible rfl
      try simp only [Go.Act.put, List.setIfInBounds_toArray, List.set_cons_zero, List.set_cons_succ]
      refine wpAnyH_takeD (i := 19) (v := ?_) (some 36) rfl rfl (by kernel_rfl) (by kernel_rfl) (by kernel_rfl) (fun _ _ _ h => h) (Or.inl ⟨by rfl, ?_⟩) (by assumption) ?_
      rotate_left
      · intro w' hSw
        go_simp
        first | done | with_reducible rfl
      try simp only [Go.Act.put, List.setIfInBounds_toArray, List.set_cons_zero, List.set_cons_succ]
      refine wpAnyH_takeD (i := 20) (v := ?_) (some 37) rfl rfl (by kernel_rfl) (by kernel_rfl) (by kernel_rfl) (fun _ _ _ h => h) (Or.inl ⟨by rfl, ?_⟩) (by assumption) ?_
      rotate_left
      · intro w' hSw
        go_simp
        first | done | with_reducible rfl
      try simp only [Go.Act.put, List.setIfInBounds_toArray, List.set_cons_zero, List.set_cons_succ]
      refine wpAnyH_takeD (i := 21) (v := ?_) (some 38) rfl rfl (by kernel_rfl) (by kernel_rfl) (by kernel_rfl) (fun _ _ _ h => h) (Or.inl ⟨by rfl, ?_⟩) (by assumption) ?_
      rotate_left
      · intro w' hSw
        go_simp
        first | done | with_reducible rfl
      try simp only [Go.Act.put, List.setIfInBounds_toArray, List.set_cons_zero, List.set_cons_succ]
      refine wpAnyH_takeD (i := 22) (v := ?_) (some 39) rfl rfl (by kernel_rfl) (by kernel_rfl) (by kernel_rfl) (fun _ _ _ h => h) (Or.inl ⟨by rfl, ?_⟩) (by assumption) ?_
      rotate_left
      · intro w' hSw
        obtain ⟨q0, q1, _⟩ := HB.out w' hSw
        go_simp
        first | done | with_reducible rfl
      try simp only [Go.Act.put, List.setIfInBounds_toArray, List.set_cons_zero, List.set_cons_succ]
      refine wpAnyH_takeD (i := 23) (v := ?_) (some 40) rfl rfl (by kernel_rfl) (by kernel_rfl) (by kernel_rfl) (fun _ _ _ h => h) (Or.inl ⟨by rfl, ?_⟩) (by assumption) ?_
      rotate_left
      · intro w' hSw
        have s1 := FB.out w' hSw
        go_simp
        first | done | with_reducible rfl
      try simp only [Go.Act.put, List.setIfInBounds_toArray, List.set_cons_zero, List.set_cons_succ]
      refine wpAnyH_takeD (i := 24) (v := ?_) (some 41) rfl rfl (by kernel_rfl) (by kernel_rfl) (by kernel_rfl) (fun _ _ _ h => h) (Or.inl ⟨by rfl, ?_⟩) (by assumption) ?_
      rotate_left
      · intro w' hSw
        go_simp
        first | done | with_reducible rfl
      try simp only [Go.Act.put, List.setIfInBounds_toArray, List.set_cons_zero, List.set_cons_succ]
      refine wpAnyH_takeD (i := 25) (v := ?_) (some 42) rfl rfl (by kernel_rfl) (by kernel_rfl) (by kernel_rfl) (fun _ _ _ h => h) (Or.inl ⟨by rfl, ?_⟩) (by assumption) ?_
      rotate_left
      · intro w' hSw
        go_simp
        first | done | with_reducible rfl
      try simp only [Go.Act.put, List.setIfInBounds_toArray, List.set_cons_zero, List.set_cons_succ]
      refine wpAnyH_done (by kernel_rfl) ?_ _
      have HH := Lib.hid hHeld
      clear hHeld
      go_wp2_with fail
      refine ⟨⟨k + 1, by simp, by omega, HF.out.trans HH.out (fun _ _ h => h)⟩, ?_⟩
      first | omega | (show _ < _; simp [intOf]; omega)
    · obtain rfl : k = n := by omega
      go_wp2
      go_ret
      exact ⟨rfl, HF.out⟩

/-- Get, its row as it can be read. -/
theorem lgGet2 {w : World} {g : Nat} {s : LG} {F : Nat → Prop} (h : Lg 65 51 w g s F) (f p : Int) (f0 : -9223372036854775808 ≤ f) (f1 : f ≤ 9223372036854775807) (p0 : -9223372036854775808 ≤ p) (p1 : p ≤ 9223372036854775807) (m : Nat) (hm : (s.get f p).length = m) :
    Calls Try.prog 15 #[.pointer (some ⟨g, 0, none⟩), .int .i64 f, .int .i64 p] w fun e w' => ∃ A c qs, e = .returned (.slice A m c) ∧ Es w' A m qs (fun k => w.heap.size ≤ k) ∧ qs.map EL.e = s.get f p ∧ Fr (fun _ => False) w w' := by
  refine (lgGet h f p f0 f1 p0 p1).mono ?_
  rintro e w' ⟨v, qs, rfl, ⟨h1, h2, h3⟩, h4⟩
  obtain ⟨A, c, rfl, _⟩ := h1.row.form
  have hl : qs.length = m := by have := congrArg List.length h4; rw [List.length_map, hm] at this; exact this
  rw [hl] at h1 h3 ⊢
  exact ⟨A, c, qs, rfl, (h1.es).mono h3, h4, h2⟩

theorem LG.get_past {s : LG} {f p : Int} (h : p ≤ (s.ix : Int) + 1) : s.get f p = [] := by
  unfold LG.get LG.lo
  rw [show (p - (s.ix : Int) - 1).toNat = 0 by omega]
  simp
theorem LG.get_one {s : LG} {i : Int} (h : s.has i = true) : s.get i (i + 1) = [s.l.getD (i - s.ix - 1).toNat default] := by
  have hb := LG.is_has h
  unfold LG.get LG.lo
  obtain ⟨j, hj⟩ : ∃ j : Nat, (i - (s.ix : Int) - 1).toNat = j := ⟨_, rfl⟩
  rw [hj, show (i + 1 - (s.ix : Int) - 1).toNat = j + 1 by omega]
  have hjl : j < s.l.length := by omega
  rw [take_succ_getD hjl, List.drop_append, List.drop_of_length_le (by rw [List.length_take]; omega), List.length_take, Nat.min_eq_left (by omega), Nat.sub_self]
  rfl
theorem getD_drop {l : List En} {a i : Nat} (h : a + i < l.length) : (l.drop a).getD i default = l.getD (a + i) default := by
  simp [List.getD, h]

/-- A compacted log's places. -/
theorem comp_lo {s : LG} {i : Int} (h : i < (s.ix : Int)) : s.term i = 0 ∧ s.is i = false ∧ s.get i (i + 1) = [] := by
  have hh : s.has i = false := by unfold LG.has; simp; omega
  obtain ⟨h1, h2⟩ := LG.term_not (s := s) (i := i) (by omega) hh
  exact ⟨h1, h2, LG.get_past (by omega)⟩

set_option maxRecDepth 100000 in
set_option maxHeartbeats 4000000 in
theorem compacts_any (A : Option Addr) (n c : Nat) (ps : List EL) (at_ : Int) (w : World) (h : Es w A n ps (fun k => k < w.heap.size)) (hn : n ≤ 5000000000000) (a0 : -9223372036854775808 ≤ at_) (a1 : at_ ≤ 9223372036854775807) :
    Calls Try.prog 6 #[.slice A n c, .int .i64 at_] w fun e w' => e = .returned (.bool true) ∧ Fr (fun _ => False) w w' := by
  have H1 := Lib.hid h
  have HN := Lib.hid hn
  have hnI : (n : Int) ≤ 5000000000000 := by omega
  clear h hn
  go_enter Try.func6, Try.ntmps6
  go_wp2_with fail
  refine (known_any w).mono ?_; rintro e w0 ⟨rfl, hf0⟩
  have HF := Lib.hid hf0
  clear hf0
  go_wp2_with fail
  refine (few_q A n c ps _ w0 (H1.out.fr0 HF.out) HN.out).mono ?_; rintro e w1 ⟨q1, rfl, rfl⟩
  cases q1 with
  | false =>
    go_wp2
    go_ret
    exact ⟨rfl, HF.out⟩
  | true =>
    have C1 := Lib.hid (lgNew 0 0 A n c ps _ w0 (H1.out.fr0 HF.out) (fun k hk => Nat.lt_of_lt_of_le hk HF.out.size) HN.out (by omega) (by omega))
    unfold NewL at C1
    rw [begins00, Bool.true_and] at C1
    go_wp2_with fail
    by_cases hq1 : rise 0 (ps.map EL.e) = true
    · simp only [hq1, if_true] at C1
      refine C1.out.mono ?_; rintro e w1 ⟨g, F1, rfl, hl1, hf1, hn1, hg1⟩
      have HF1 := Lib.hid (HF.out.trans hf1 (fun _ _ h => h))
      obtain ⟨es, hes⟩ : ∃ es, ps.map EL.e = es := ⟨_, rfl⟩
      have HES := Lib.hid hes
      have HEL : Hid (es.length = n) := Lib.hid (by rw [← hes, List.length_map, H1.out.len])
      rw [hes, show ((0 : Int).toNat) = 0 from rfl] at hl1
      have CC := Lib.hid (lgCompact hl1 at_ a0 a1)
      obtain ⟨s0, hs0⟩ : ∃ s0, (⟨0, 0, es⟩ : LG) = s0 := ⟨_, rfl⟩
      rw [hs0] at CC
      have HS0 := Lib.hid hs0
      have HNF : Hid (∀ k, F1 k → w.heap.size ≤ k) := Lib.hid (fun k hk => Nat.le_trans HF.out.size (hn1 k hk))
      clear hl1 hf1 hn1 hg1 C1 hq1 hes hs0
      go_wp2_with fail
      cases hh : s0.has at_ with
      | false =>
        rw [hh] at CC
        have hout : at_ < 1 ∨ (n : Int) < at_ := by
          rw [← HS0.out] at hh
          unfold LG.has at hh
          have := HEL.out
          simp at hh
          omega
        have HFR : Hid (∀ w2, Fr F1 w1 w2 → Fr (fun _ => False) w w2) := Lib.hid (fun w2 hf2 => HF1.out.trans hf2 (fun k hk e => by have := HNF.out k e; omega))
        clear hh
        rcases hout with h1 | h1
        · refine CC.out.mono ?_; rintro e w2 ⟨rfl, _, hf2⟩
          have HF2 := Lib.hid (HFR.out w2 hf2)
          clear hf2 CC
          go_wp2
          go_ret
          exact ⟨rfl, HF2.out⟩
        · have d1 : decide (at_ < 1) = false := decide_eq_false (by omega)
          refine CC.out.mono ?_; rintro e w2 ⟨rfl, _, hf2⟩
          have HF2 := Lib.hid (HFR.out w2 hf2)
          clear hf2 CC
          go_wp2
          go_ret
          exact ⟨rfl, HF2.out⟩
      | true =>
        rw [hh] at CC
        have hb := LG.is_has hh
        have hbn : 0 < at_ ∧ at_ ≤ (n : Int) := by
          rw [← HS0.out] at hb
          have := HEL.out
          simp at hb
          omega
        obtain ⟨kk, hkk⟩ : ∃ kk : Nat, at_ = (kk : Int) := ⟨at_.toNat, by omega⟩
        subst hkk
        obtain ⟨s1, hs1⟩ : ∃ s1, s0.comp (kk : Int) = s1 := ⟨_, rfl⟩
        have hs1e : s1 = ⟨kk, s0.term (kk : Int), es.drop kk⟩ := by
          rw [← hs1]
          unfold LG.comp
          rw [hh]
          simp only [if_true]
          rw [← HS0.out]
          simp
        have htk : s0.term (kk : Int) = (es.getD (kk - 1) default).t := by
          rw [LG.term_has hh, ← HS0.out]
          congr 2
          simp
        have HIX : Hid (s1.ix = kk) := Lib.hid (by rw [hs1e])
        have HTM : Hid (s1.tm = (es.getD (kk - 1) default).t) := Lib.hid (by rw [hs1e, ← htk])
        have HLL : Hid (s1.l = es.drop kk) := Lib.hid (by rw [hs1e])
        have HK : Hid (0 < kk ∧ kk ≤ n) := Lib.hid (by omega)
        have hk1 : (1 : Int) ≤ (kk : Int) := by omega
        have hkn : (kk : Int) ≤ (n : Int) := by omega
        rw [hs1] at CC
        clear hh hb hbn hs1e htk hs1
        refine CC.out.mono ?_; rintro e w2 ⟨rfl, hl2, hf2⟩
        have HF2 : Hid (Fr (fun _ => False) w w2) := Lib.hid (HF1.out.trans hf2 (fun k hk e => by have := HNF.out k e; omega))
        have CT := Lib.hid (fun (x : Int) (x0 : -9223372036854775808 ≤ x) (x1 : x ≤ 9223372036854775807) w' (hf : Fr (fun _ => False) w2 w') => lgTerm (hl2.fr0 hf) x x0 x1)
        have CG := Lib.hid (fun (x y : Int) (x0 : -9223372036854775808 ≤ x) (x1 : x ≤ 9223372036854775807) (y0 : -9223372036854775808 ≤ y) (y1 : y ≤ 9223372036854775807) (m : Nat) (hm : (s1.get x y).length = m) w' (hf : Fr (fun _ => False) w2 w') => lgGet2 (hl2.fr0 hf) x y x0 x1 y0 y1 m hm)
        have CF := Lib.hid (fun w' (hf : Fr (fun _ => False) w2 w') => lgFirst (hl2.fr0 hf))
        have CN := Lib.hid (fun w' (hf : Fr (fun _ => False) w2 w') => lgLen (hl2.fr0 hf))
        rw [HIX.out] at CF
        rw [HLL.out, List.length_drop, HEL.out] at CN
        clear hl2 hf2 CC
        go_wp2_with fail
        go_loopw [7] (fun u wr => ∃ m : Nat, u = .int .i64 (m : Int) ∧ m ≤ n + 2 ∧ Fr (fun _ => False) w2 wr) (fun u _ => n + 2 - (intOf u).toNat)
        case atStart => exact ⟨0, rfl, Nat.zero_le _, Fr.refl _ _⟩
        case round =>
          obtain ⟨m, rfl, hm, hf⟩ := hrel
          have HFR := Lib.hid hf
          clear hf
          have hm0 : (0 : Int) ≤ (m : Int) := by omega
          have hmb : (m : Int) ≤ 5000000000002 := by omega
          by_cases hlt : m ≤ n + 1
          · have hlt1 : (m : Int) ≤ (n : Int) + 1 := by omega
            have C := Lib.hid (CT.out (m : Int) (by omega) (by omega) wr HFR.out)
            go_wp2_with fail
            rcases Nat.lt_trichotomy m kk with hmk | hmk | hmk
            · obtain ⟨e1, e2, e3⟩ := comp_lo (s := s1) (i := (m : Int)) (by rw [HIX.out]; omega)
              rw [e1, e2] at C
              have hmkI : (m : Int) < (kk : Int) := by omega
              have CG1 := Lib.hid (CG.out (m : Int) ((m : Int) + 1) (by omega) (by omega) (by omega) (by omega) 0 (by rw [e3]; rfl))
              clear e1 e2 e3
              refine C.out.mono ?_; rintro e w5 ⟨rfl, hf5⟩
              have HF5 := Lib.hid (HFR.out.trans hf5 (fun _ _ h => h))
              clear hf5 C
              go_wp2_with fail
              refine (CG1.out _ HF5.out).mono ?_; rintro e w6 ⟨A6, c6, qs6, rfl, _, _, hf6⟩
              have HF6 := Lib.hid (HF5.out.trans hf6 (fun _ _ h => h))
              clear hf6 CG1
              go_wp2
              refine ⟨⟨m + 1, by simp, by omega, HF6.out⟩, ?_⟩
              first | omega | (show _ < _; simp [intOf]; omega)
            · have HMK := Lib.hid hmk
              have e1 : s1.term (m : Int) = s1.tm := by rw [hmk, ← HIX.out]; exact s1.term_self
              have e2 : s1.is (m : Int) = true := by rw [hmk, ← HIX.out]; exact s1.is_self
              rw [e1, e2, HTM.out] at C
              have CG1 := Lib.hid (CG.out (m : Int) ((m : Int) + 1) (by omega) (by omega) (by omega) (by omega) 0 (by rw [LG.get_past (by rw [HIX.out]; omega)]; rfl))
              have hle : kk - 1 < n := by have := HK.out; omega
              obtain ⟨b, off, rfl, e0, _, _⟩ := (H1.out.fr0 HF2.out).at hle
              have hX : (es.getD (kk - 1) default).t = (ps.getD (kk - 1) default).e.t := by rw [← HES.out, getD_map EL.e (by rw [H1.out.len]; exact hle)]
              rw [hX] at C
              have HE0 : Hid (∀ w', Fr (fun _ => False) w2 w' → w'.cell? ⟨b, off + (kk - 1) * 2, none⟩ = some (.int .i64 (ps.getD (kk - 1) default).e.t)) := Lib.hid (fun w' hf => ((H1.out.fr0 HF2.out).fr0 hf).at' hle |>.1)
              generalize (ps.getD (kk - 1) default).e.t = tx at *
              have em : (m : Int) - 1 = ((kk - 1 : Nat) : Int) := by omega
              obtain ⟨k1, hk1e⟩ : ∃ k1, kk - 1 = k1 := ⟨_, rfl⟩
              rw [hk1e] at em HE0 hle
              have hk1b : (k1 : Int) < (n : Int) := by omega
              have g1 : ¬ ((m : Int) < (kk : Int)) := by omega
              have g2 : ((m : Int) == (kk : Int)) = true := by rw [beq_iff_eq]; omega
              have g3 : decide ((m : Int) < (kk : Int)) = false := decide_eq_false g1
              have g4 : (tx == tx) = true := by simp
              have g5 : (tx != tx) = false := by simp
              have g6 : decide (m < kk) = false := decide_eq_false (by omega)
              have g7 : (m == kk) = true := by rw [beq_iff_eq]; omega
              clear e1 e2 hX e0 hk1e hmk
              refine C.out.mono ?_; rintro e w5 ⟨rfl, hf5⟩
              have HF5 := Lib.hid (HFR.out.trans hf5 (fun _ _ h => h))
              have k0 := HE0.out w5 HF5.out
              clear hf5 C
              go_wp2_with fail
              refine (CG1.out _ HF5.out).mono ?_; rintro e w6 ⟨A6, c6, qs6, rfl, _, _, hf6⟩
              have HF6 := Lib.hid (HF5.out.trans hf6 (fun _ _ h => h))
              clear hf6 CG1
              go_wp2
              refine ⟨⟨m + 1, by simp, by omega, HF6.out⟩, ?_⟩
              first | omega | (show _ < _; simp [intOf]; omega)
            · have g1 : ¬ ((m : Int) < (kk : Int)) := by omega
              have g2 : ((m : Int) == (kk : Int)) = false := by rw [beq_eq_false_iff_ne]; omega
              have g3 : decide ((m : Int) < (kk : Int)) = false := decide_eq_false g1
              have g6 : decide (m < kk) = false := decide_eq_false (by omega)
              have g7 : (m == kk) = false := by rw [beq_eq_false_iff_ne]; omega
              by_cases hmn : m ≤ n
              · have hmnI : (m : Int) ≤ (n : Int) := by omega
                have g8 : decide (m ≤ n) = true := decide_eq_true hmn
                have hh : s1.has (m : Int) = true := by unfold LG.has; rw [HIX.out, HLL.out, List.length_drop, HEL.out]; simp; omega
                have e1 := LG.term_has hh
                have e2 := LG.is_of_has hh
                have e3 := LG.get_one hh
                have hel := HEL.out
                rw [HIX.out, HLL.out, getD_drop (by omega), show kk + ((m : Int) - (kk : Int) - 1).toNat = m - 1 by omega] at e1 e3
                rw [e1, e2] at C
                have CG1 := Lib.hid (CG.out (m : Int) ((m : Int) + 1) (by omega) (by omega) (by omega) (by omega) 1 (by rw [e3]; rfl))
                rw [e3] at CG1
                have hle : m - 1 < n := by omega
                obtain ⟨b, off, rfl, _, _, _⟩ := (H1.out.fr0 HF2.out).at hle
                have hX : (es.getD (m - 1) default) = (ps.getD (m - 1) default).e := by rw [← HES.out, getD_map EL.e (by rw [H1.out.len]; exact hle)]
                rw [hX] at C CG1
                obtain ⟨k1, hk1e⟩ : ∃ k1, m - 1 = k1 := ⟨_, rfl⟩
                have em : (m : Int) - 1 = (k1 : Int) := by omega
                have hk1b : (k1 : Int) < (n : Int) := by omega
                rw [hk1e] at C CG1 hle
                clear e1 e2 e3 hX hh hk1e hel
                obtain ⟨tx, htx⟩ : ∃ tx, (ps.getD k1 default).e.t = tx := ⟨_, rfl⟩
                have HTX := Lib.hid htx
                rw [htx] at C
                clear htx
                have hk10 : (0 : Int) ≤ (k1 : Int) := by omega
                have ew : IntKind.i64.wrap (k1 : Int) = (k1 : Int) := IntWalk.i64_in _ (by omega)
                refine C.out.mono ?_; rintro e w5 ⟨rfl, hf5⟩
                have HF5 := Lib.hid (HFR.out.trans hf5 (fun _ _ h => h))
                clear hf5 C
                go_wp2_with fail
                refine (CG1.out _ HF5.out).mono ?_; rintro e w6 ⟨A6, c6, qs6, rfl, hes6, hq6, hf6⟩
                have HF6 := Lib.hid (HF5.out.trans hf6 (fun _ _ h => h))
                have HES6 := Lib.hid hes6
                obtain ⟨b6, o6, rfl, _⟩ := hes6.at (i := 0) (by omega)
                have HA := Lib.hid (fun w' (hf : Fr (fun _ => False) w6 w') => (H1.out.fr0 (HF2.out.trans (HF6.out.trans hf (fun _ _ h => h)) (fun _ _ h => h))).at' hle)
                have HB := Lib.hid (fun w' (hf : Fr (fun _ => False) w6 w') => (HES6.out.fr0 hf).at' (i := 0) (by omega))
                have hq : (qs6.getD 0 default).e = (ps.getD k1 default).e := by
                  rw [← getD_map EL.e (by rw [hes6.len]; omega), hq6]; rfl
                have FA := Lib.hid (fun w' (hf : Fr (fun _ => False) w6 w') => run_str8 Try.t8n Try.underlying5 Try.underlying9 (ps.getD k1 default).c (HA.out w' hf).2.2.rd rfl)
                have FB := Lib.hid (fun w' (hf : Fr (fun _ => False) w6 w') => run_str8 Try.t8n Try.underlying5 Try.underlying9 (qs6.getD 0 default).c (HB.out w' hf).2.2.rd rfl)
                clear hes6 hq6 hf6 CG1
                generalize ps.getD k1 default = p at *
                generalize qs6.getD 0 default = r at *
                rw [hq] at HB FB
                clear hq
                obtain ⟨⟨t9, X⟩, pA, pc⟩ := p
                obtain ⟨re, rA, rc⟩ := r
                simp only at HA HB FA FB HTX
                rw [HTX.out] at HA
                have b0 : ((strOf X).toList == (strOf X).toList) = true := by simp
                have b1 : (tx == tx) = true := by simp
                go_wp2_with fail
                refine wp_region_held_drew (S := fun w' => Fr (fun _ => False) w6 w') (by kernel_rfl) ((Fr.refl _ _).drew) (fun hHeld => ?_)
                refine wpAnyH_takeD (i := 0) (v := ?_) (some 106) rfl rfl (by kernel_rfl) (by kernel_rfl) (by kernel_rfl) (fun _ _ _ h => h) (Or.inl ⟨by rfl, ?_⟩) (by assumption) ?_
                rotate_left
                · intro w' hSw
                  go_simp
                  first | done | with_reducible rfl
                try simp only [Go.Act.put, List.setIfInBounds_toArray, List.set_cons_zero, List.set_cons_succ]
                refine wpAnyH_takeD (i := 1) (v := ?_) (some 107) rfl rfl (by kernel_rfl) (by kernel_rfl) (by kernel_rfl) (fun _ _ _ h => h) (Or.inl ⟨by rfl, ?_⟩) (by assumption) ?_
                rotate_left
                · intro w' hSw
                  go_simp
                  first | done | with_reducible rfl
                try simp only [Go.Act.put, List.setIfInBounds_toArray, List.set_cons_zero, List.set_cons_succ]
                refine wpAnyH_takeD (i := 2) (v := ?_) (some 108) rfl rfl (by kernel_rfl) (by kernel_rfl) (by kernel_rfl) (fun _ _ _ h => h) (Or.inl ⟨by rfl, ?_⟩) (by assumption) ?_
                rotate_left
                · intro w' hSw
                  go_simp
                  first | done | with_reducible rfl
                try simp only [Go.Act.put, List.setIfInBounds_toArray, List.set_cons_zero, List.set_cons_succ]
                refine wpAnyH_takeD (i := 3) (v := ?_) (some 109) rfl rfl (by kernel_rfl) (by kernel_rfl) (by kernel_rfl) (fun _ _ _ h => h) (Or.inl ⟨by rfl, ?_⟩) (by assumption) ?_
                rotate_left
                · intro w' hSw
                  go_simp
                  first | done | with_reducible rfl
                try simp only [Go.Act.put, List.setIfInBounds_toArray, List.set_cons_zero, List.set_cons_succ]
                refine wpAnyH_takeD (i := 4) (v := ?_) (some 110) rfl rfl (by kernel_rfl) (by kernel_rfl) (by kernel_rfl) (fun _ _ _ h => h) (Or.inl ⟨by rfl, ?_⟩) (by assumption) ?_
                rotate_left
                · intro w' hSw
                  go_simp
                  first | done | with_reducible rfl
                try simp only [Go.Act.put, List.setIfInBounds_toArray, List.set_cons_zero, List.set_cons_succ]
                refine wpAnyH_takeD (i := 5) (v := ?_) (some 111) rfl rfl (by kernel_rfl) (by kernel_rfl) (by kernel_rfl) (fun _ _ _ h => h) (Or.inl ⟨by rfl, ?_⟩) (by assumption) ?_
                rotate_left
                · intro w' hSw
                  go_simp
                  first | done | with_reducible rfl
                try simp only [Go.Act.put, List.setIfInBounds_toArray, List.set_cons_zero, List.set_cons_succ]
                refine wpAnyH_takeD (i := 6) (v := ?_) (some 112) rfl rfl (by kernel_rfl) (by kernel_rfl) (by kernel_rfl) (fun _ _ _ h => h) (Or.inl ⟨by rfl, ?_⟩) (by assumption) ?_
                rotate_left
                · intro w' hSw
                  go_simp
                  first | done | with_reducible rfl
                try simp only [Go.Act.put, List.setIfInBounds_toArray, List.set_cons_zero, List.set_cons_succ]
                refine wpAnyH_takeD (i := 7) (v := ?_) (some 113) rfl rfl (by kernel_rfl) (by kernel_rfl) (by kernel_rfl) (fun _ _ _ h => h) (Or.inl ⟨by rfl, ?_⟩) (by assumption) ?_
                rotate_left
                · intro w' hSw
                  go_simp
                  first | done | with_reducible rfl
                try simp only [Go.Act.put, List.setIfInBounds_toArray, List.set_cons_zero, List.set_cons_succ]
                refine wpAnyH_takeD (i := 8) (v := ?_) (some 114) rfl rfl (by kernel_rfl) (by kernel_rfl) (by kernel_rfl) (fun _ _ _ h => h) (Or.inl ⟨by rfl, ?_⟩) (by assumption) ?_
                rotate_left
                · intro w' hSw
                  go_simp
                  first | done | with_reducible rfl
                try simp only [Go.Act.put, List.setIfInBounds_toArray, List.set_cons_zero, List.set_cons_succ]
                refine wpAnyH_takeD (i := 9) (v := ?_) (some 115) rfl rfl (by kernel_rfl) (by kernel_rfl) (by kernel_rfl) (fun _ _ _ h => h) (Or.inl ⟨by rfl, ?_⟩) (by assumption) ?_
                rotate_left
                · intro w' hSw
                  obtain ⟨q0, q1, _⟩ := HA.out w' hSw
                  go_simp
                  first | done | with_reducible rfl
                try simp only [Go.Act.put, List.setIfInBounds_toArray, List.set_cons_zero, List.set_cons_succ]
                refine wpAnyH_takeD (i := 10) (v := ?_) (some 116) rfl rfl (by kernel_rfl) (by kernel_rfl) (by kernel_rfl) (fun _ _ _ h => h) (Or.inl ⟨by rfl, ?_⟩) (by assumption) ?_
                rotate_left
                · intro w' hSw
                  go_simp
                  first | done | with_reducible rfl
                try simp only [Go.Act.put, List.setIfInBounds_toArray, List.set_cons_zero, List.set_cons_succ]
                refine wpAnyH_takeD (i := 11) (v := ?_) (some 117) rfl rfl (by kernel_rfl) (by kernel_rfl) (by kernel_rfl) (fun _ _ _ h => h) (Or.inl ⟨by rfl, ?_⟩) (by assumption) ?_
                rotate_left
                · intro w' hSw
                  go_simp
                  first | done | with_reducible rfl
                try simp only [Go.Act.put, List.setIfInBounds_toArray, List.set_cons_zero, List.set_cons_succ]
                refine wpAnyH_takeD (i := 12) (v := ?_) (some 118) rfl rfl (by kernel_rfl) (by kernel_rfl) (by kernel_rfl) (fun _ _ _ h => h) (Or.inl ⟨by rfl, ?_⟩) (by assumption) ?_
                rotate_left
                · intro w' hSw
                  go_simp
                  first | done | with_reducible rfl
                try simp only [Go.Act.put, List.setIfInBounds_toArray, List.set_cons_zero, List.set_cons_succ]
                refine wpAnyH_takeD (i := 13) (v := ?_) (some 119) rfl rfl (by kernel_rfl) (by kernel_rfl) (by kernel_rfl) (fun _ _ _ h => h) (Or.inl ⟨by rfl, ?_⟩) (by assumption) ?_
                rotate_left
                · intro w' hSw
                  go_simp
                  first | done | with_reducible rfl
                try simp only [Go.Act.put, List.setIfInBounds_toArray, List.set_cons_zero, List.set_cons_succ]
                refine wpAnyH_takeD (i := 14) (v := ?_) (some 120) rfl rfl (by kernel_rfl) (by kernel_rfl) (by kernel_rfl) (fun _ _ _ h => h) (Or.inl ⟨by rfl, ?_⟩) (by assumption) ?_
                rotate_left
                · intro w' hSw
                  go_simp
                  first | done | with_reducible rfl
                try simp only [Go.Act.put, List.setIfInBounds_toArray, List.set_cons_zero, List.set_cons_succ]
                refine wpAnyH_takeD (i := 15) (v := ?_) (some 121) rfl rfl (by kernel_rfl) (by kernel_rfl) (by kernel_rfl) (fun _ _ _ h => h) (Or.inl ⟨by rfl, ?_⟩) (by assumption) ?_
                rotate_left
                · intro w' hSw
                  go_simp
                  first | done | with_reducible rfl
                try simp only [Go.Act.put, List.setIfInBounds_toArray, List.set_cons_zero, List.set_cons_succ]
                refine wpAnyH_takeD (i := 16) (v := ?_) (some 122) rfl rfl (by kernel_rfl) (by kernel_rfl) (by kernel_rfl) (fun _ _ _ h => h) (Or.inl ⟨by rfl, ?_⟩) (by assumption) ?_
                rotate_left
                · intro w' hSw
                  go_simp
                  first | done | with_reducible rfl
                try simp only [Go.Act.put, List.setIfInBounds_toArray, List.set_cons_zero, List.set_cons_succ]
                refine wpAnyH_takeD (i := 17) (v := ?_) (some 123) rfl rfl (by kernel_rfl) (by kernel_rfl) (by kernel_rfl) (fun _ _ _ h => h) (Or.inl ⟨by rfl, ?_⟩) (by assumption) ?_
                rotate_left
                · intro w' hSw
                  go_simp
                  first | done | with_reducible rfl
                try simp only [Go.Act.put, List.setIfInBounds_toArray, List.set_cons_zero, List.set_cons_succ]
                refine wpAnyH_takeD (i := 18) (v := ?_) (some 124) rfl rfl (by kernel_rfl) (by kernel_rfl) (by kernel_rfl) (fun _ _ _ h => h) (Or.inl ⟨by rfl, ?_⟩) (by assumption) ?_
                rotate_left
                · intro w' hSw
                  go_simp
                  first | done | with_reducible rfl
                try simp only [Go.Act.put, List.setIfInBounds_toArray, List.set_cons_zero, List.set_cons_succ]
                refine wpAnyH_takeD (i := 19) (v := ?_) (some 125) rfl rfl (by kernel_rfl) (by kernel_rfl) (by kernel_rfl) (fun _ _ _ h => h) (Or.inl ⟨by rfl, ?_⟩) (by assumption) ?_
                rotate_left
                · intro w' hSw
                  go_simp
                  first | done | with_reducible rfl
                try simp only [Go.Act.put, List.setIfInBounds_toArray, List.set_cons_zero, List.set_cons_succ]
                refine wpAnyH_takeD (i := 20) (v := ?_) (some 126) rfl rfl (by kernel_rfl) (by kernel_rfl) (by kernel_rfl) (fun _ _ _ h => h) (Or.inl ⟨by rfl, ?_⟩) (by assumption) ?_
                rotate_left
                · intro w' hSw
                  go_simp
                  first | done | with_reducible rfl
                try simp only [Go.Act.put, List.setIfInBounds_toArray, List.set_cons_zero, List.set_cons_succ]
                refine wpAnyH_takeD (i := 21) (v := ?_) (some 127) rfl rfl (by kernel_rfl) (by kernel_rfl) (by kernel_rfl) (fun _ _ _ h => h) (Or.inl ⟨by rfl, ?_⟩) (by assumption) ?_
                rotate_left
                · intro w' hSw
                  obtain ⟨q0, q1, _⟩ := HB.out w' hSw
                  go_simp
                  first | done | with_reducible rfl
                try simp only [Go.Act.put, List.setIfInBounds_toArray, List.set_cons_zero, List.set_cons_succ]
                refine wpAnyH_takeD (i := 22) (v := ?_) (some 128) rfl rfl (by kernel_rfl) (by kernel_rfl) (by kernel_rfl) (fun _ _ _ h => h) (Or.inl ⟨by rfl, ?_⟩) (by assumption) ?_
                rotate_left
                · intro w' hSw
                  have s1 := FB.out w' hSw
                  go_simp
                  first | done | with_reducible rfl
                try simp only [Go.Act.put, List.setIfInBounds_toArray, List.set_cons_zero, List.set_cons_succ]
                refine wpAnyH_takeD (i := 23) (v := ?_) (some 129) rfl rfl (by kernel_rfl) (by kernel_rfl) (by kernel_rfl) (fun _ _ _ h => h) (Or.inl ⟨by rfl, ?_⟩) (by assumption) ?_
                rotate_left
                · intro w' hSw
                  go_simp
                  first | done | with_reducible rfl
                try simp only [Go.Act.put, List.setIfInBounds_toArray, List.set_cons_zero, List.set_cons_succ]
                refine wpAnyH_takeD (i := 24) (v := ?_) (some 130) rfl rfl (by kernel_rfl) (by kernel_rfl) (by kernel_rfl) (fun _ _ _ h => h) (Or.inl ⟨by rfl, ?_⟩) (by assumption) ?_
                rotate_left
                · intro w' hSw
                  go_simp
                  first | done | with_reducible rfl
                try simp only [Go.Act.put, List.setIfInBounds_toArray, List.set_cons_zero, List.set_cons_succ]
                refine wpAnyH_takeD (i := 25) (v := ?_) (some 131) rfl rfl (by kernel_rfl) (by kernel_rfl) (by kernel_rfl) (fun _ _ _ h => h) (Or.inl ⟨by rfl, ?_⟩) (by assumption) ?_
                rotate_left
                · intro w' hSw
                  go_simp
                  first | done | with_reducible rfl
                try simp only [Go.Act.put, List.setIfInBounds_toArray, List.set_cons_zero, List.set_cons_succ]
                refine wpAnyH_takeD (i := 26) (v := ?_) (some 132) rfl rfl (by kernel_rfl) (by kernel_rfl) (by kernel_rfl) (fun _ _ _ h => h) (Or.inl ⟨by rfl, ?_⟩) (by assumption) ?_
                rotate_left
                · intro w' hSw
                  go_simp
                  first | done | with_reducible rfl
                try simp only [Go.Act.put, List.setIfInBounds_toArray, List.set_cons_zero, List.set_cons_succ]
                refine wpAnyH_takeD (i := 27) (v := ?_) (some 133) rfl rfl (by kernel_rfl) (by kernel_rfl) (by kernel_rfl) (fun _ _ _ h => h) (Or.inl ⟨by rfl, ?_⟩) (by assumption) ?_
                rotate_left
                · intro w' hSw
                  go_simp
                  first | done | with_reducible rfl
                try simp only [Go.Act.put, List.setIfInBounds_toArray, List.set_cons_zero, List.set_cons_succ]
                refine wpAnyH_takeD (i := 28) (v := ?_) (some 134) rfl rfl (by kernel_rfl) (by kernel_rfl) (by kernel_rfl) (fun _ _ _ h => h) (Or.inl ⟨by rfl, ?_⟩) (by assumption) ?_
                rotate_left
                · intro w' hSw
                  obtain ⟨q0, q1, _⟩ := HA.out w' hSw
                  go_simp
                  first | done | with_reducible rfl
                try simp only [Go.Act.put, List.setIfInBounds_toArray, List.set_cons_zero, List.set_cons_succ]
                refine wpAnyH_takeD (i := 29) (v := ?_) (some 135) rfl rfl (by kernel_rfl) (by kernel_rfl) (by kernel_rfl) (fun _ _ _ h => h) (Or.inl ⟨by rfl, ?_⟩) (by assumption) ?_
                rotate_left
                · intro w' hSw
                  have s1 := FA.out w' hSw
                  go_simp
                  first | done | with_reducible rfl
                try simp only [Go.Act.put, List.setIfInBounds_toArray, List.set_cons_zero, List.set_cons_succ]
                refine wpAnyH_takeD (i := 30) (v := ?_) (some 136) rfl rfl (by kernel_rfl) (by kernel_rfl) (by kernel_rfl) (fun _ _ _ h => h) (Or.inl ⟨by rfl, ?_⟩) (by assumption) ?_
                rotate_left
                · intro w' hSw
                  go_simp
                  first | done | with_reducible rfl
                try simp only [Go.Act.put, List.setIfInBounds_toArray, List.set_cons_zero, List.set_cons_succ]
                refine wpAnyH_takeD (i := 31) (v := ?_) (some 137) rfl rfl (by kernel_rfl) (by kernel_rfl) (by kernel_rfl) (fun _ _ _ h => h) (Or.inl ⟨by rfl, ?_⟩) (by assumption) ?_
                rotate_left
                · intro w' hSw
                  go_simp
                  first | done | with_reducible rfl
                try simp only [Go.Act.put, List.setIfInBounds_toArray, List.set_cons_zero, List.set_cons_succ]
                refine wpAnyH_done (by kernel_rfl) ?_ _
                have HH := Lib.hid (HF6.out.trans hHeld (fun _ _ h => h))
                clear hHeld
                go_wp2
                refine ⟨⟨m + 1, by simp, by omega, HH.out⟩, ?_⟩
                first | omega | (show _ < _; simp [intOf]; omega)
              · have hmnI : ¬ ((m : Int) ≤ (n : Int)) := by omega
                have g8 : decide (m ≤ n) = false := decide_eq_false hmn
                have g9 : decide ((m : Int) ≤ (n : Int)) = false := decide_eq_false hmnI
                have hh : s1.has (m : Int) = false := by unfold LG.has; rw [HIX.out, HLL.out, List.length_drop, HEL.out]; simp; omega
                obtain ⟨e1, e2⟩ := LG.term_not (s := s1) (i := (m : Int)) (by rw [HIX.out]; omega) hh
                rw [e1, e2] at C
                clear e1 e2 hh
                refine C.out.mono ?_; rintro e w5 ⟨rfl, hf5⟩
                have HF5 := Lib.hid (HFR.out.trans hf5 (fun _ _ h => h))
                clear hf5 C
                go_wp2
                refine ⟨⟨m + 1, by simp, by omega, HF5.out⟩, ?_⟩
                first | omega | (show _ < _; simp [intOf]; omega)
          · have hlt1 : ¬ ((m : Int) ≤ (n : Int) + 1) := by omega
            have g1 : decide ((m : Int) ≤ (n : Int) + 1) = false := decide_eq_false hlt1
            have hnk : ((n - kk : Nat) : Int) = (n : Int) - (kk : Int) := by omega
            rw [hnk] at CN
            have g2 : ((kk : Int) + 1 == (kk : Int) + 1) = true := by simp
            go_wp2_with fail
            refine (CF.out _ HFR.out).mono ?_; rintro e w5 ⟨rfl, rfl⟩
            go_wp2_with fail
            refine (CN.out _ HFR.out).mono ?_; rintro e w5 ⟨rfl, rfl⟩
            go_wp2
            go_ret
            exact ⟨rfl, HF2.out.trans HFR.out (fun _ _ h => h)⟩
    · simp only [hq1] at C1
      refine C1.out.mono ?_; rintro e w1 ⟨rfl, hf1⟩
      have HF1 := Lib.hid (HF.out.trans hf1 (fun _ _ h => h))
      clear hf1 C1 hq1
      go_wp2
      go_ret
      exact ⟨rfl, HF1.out⟩
end Go.Proofs.Ytainkckcipdknaa
