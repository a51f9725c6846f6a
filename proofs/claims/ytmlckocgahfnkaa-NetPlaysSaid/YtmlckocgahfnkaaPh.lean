/- The walk of NetPlays. -/
import Derived.Test.YtmlckocgahfnkaaPg
namespace Go.Proofs.Ytmlckocgahfnkaa
open Go.RowKit

theorem step_any {w wi : World} {g gr k : Nat} {s : NS} {F G : Nat → Prop} (q : NAct) (h : Hnd w wi g s F gr G k q.bA q.bs) :
    Calls Try.prog 11 #[.pointer (some ⟨g, 0, none⟩), .pointer (some ⟨gr, 0, none⟩), q.v] wi fun e w' => e = .returned (.bool true) ∧ ∃ F' G', Pair w w' g (s.stp q) F' gr (s.stp q) G' := by
  obtain ⟨op, a, b, A, c, bs⟩ := q
  unfold NAct.v
  simp only at h ⊢
  by_cases h1 : op = 1
  · subst h1; exact step_send h a b _ c rfl
  by_cases h2 : op = 2
  · subst h2; exact step_take h a b _ c rfl
  by_cases h3 : op = 3
  · subst h3; exact step_drop h a b _ c rfl
  by_cases h4 : op = 4
  · subst h4; exact step_again h a b _ c rfl
  by_cases h5 : op = 5
  · subst h5; exact step_cut h a b _ c rfl
  by_cases h6 : op = 6
  · subst h6; exact step_heal h a b _ c rfl
  by_cases h7 : op = 7
  · subst h7; exact step_clear h a b _ c rfl
  exact step_none h op a b _ c rfl h1 h2 h3 h4 h5 h6 h7

theorem RunN.waitP {w w1 : World} {g : Nat} {s : NS} {F : Nat → Prop} (h : RunN w w1 g s F) (hq : s.l.length ≤ 1048576) :
    Calls Try.prog 13 #[.pointer (some ⟨g, 0, none⟩)] w1 fun e w' => ∃ A c ks, e = .returned (.slice A s.l.length c) ∧ Pks w' A s.l.length c ks ∧ ks.map KP.pk = s.l ∧ Fr (fun _ => False) w1 w' := by
  refine (h.nt.wait hq).mono ?_
  rintro e w' ⟨v, ks, rfl, ht, hk, hf⟩
  obtain ⟨A, c, rfl, _⟩ := ht.row.form
  have hl : ks.length = s.l.length := by rw [← hk, List.length_map]
  have hr := ht.row
  rw [hl] at hr ⊢
  exact ⟨A, c, ks, rfl, Pks.of hr hl ht.own, hk, hf⟩
theorem Rt.listed {w : World} {g : Nat} {s : NS} {F : Nat → Prop} (h : Rt w g s F) : ∃ A c ks, (∀ w', Fr (fun _ => False) w w' → w'.cell? ⟨g, 2, none⟩ = some (.slice A s.l.length c) ∧ Pks w' A s.l.length c ks) ∧ ks.map KP.pk = s.l := by
  obtain ⟨m, hm, hF, hlt⟩ := h
  obtain ⟨A, c, hLV, _⟩ := hm.row.form
  refine ⟨A, c, m.ks, fun w' hf => ?_, hm.l.symm⟩
  have h2 := hm.fr0 hf
  have hr := h2.row
  rw [← h2.ll, ← hLV]
  refine ⟨h2.cells rfl, ?_⟩
  rw [hLV] at hr
  exact Pks.of hr rfl h2.each
theorem RunN.base {w w1 w2 : World} {g : Nat} {s : NS} {F : Nat → Prop} (h : RunN w1 w2 g s F) (hf : Fr (fun _ => False) w w1) : RunN w w2 g s F :=
  ⟨h.nt, fun k hk => Nat.le_trans hf.size (h.low k hk), hf.trans h.fr (fun _ _ h => h)⟩
theorem Pair.made {w w2 w3 : World} {g gr : Nat} {s : NS} {F : Nat → Prop} (h : RunN w w2 g s F) (hr : RefM w3 gr s ⟨.slice none 0 0, .slice none 0 0, []⟩) (hf : Fr (fun _ => False) w2 w3) (hg : w2.heap.size ≤ gr) : ∃ G, Pair w w3 g s F gr s G := by
  have hB : ∀ x, RB gr ⟨.slice none 0 0, .slice none 0 0, []⟩ x → x = gr := fun x hx => by
    rcases hx with e | e | e | ⟨k, hk, e⟩
    · exact e
    · simp [Value.ownBlock] at e
    · simp [Value.ownBlock] at e
    · simp at hk
  refine ⟨RB gr ⟨.slice none 0 0, .slice none 0 0, []⟩, h.on0 hf, ⟨_, hr, fun _ hx => hx, fun _ hx => hr.lt hx⟩, fun k hk => ?_, fun k hF hG => ?_⟩
  · have := hB k hk; have := h.fr.size; omega
  · have := hB k hG; have := h.lt hF; omega

set_option maxRecDepth 100000 in
set_option maxHeartbeats 4000000 in
theorem plays_long (N : Int) (A : Option Addr) (n c : Nat) (l : List NAct) (w : World) (hl : NActs w w.heap.size A l) (hn : l.length = n) (hnb : (n : Int) ≤ 9223372036854775807) (hf1 : nfew l = false) :
    Calls Try.prog 3 #[.int .i64 N, .slice A n c] w fun e w' => e = .returned (.bool true) ∧ Fr (fun _ => False) w w' := by
  have CF1 := Lib.hid (fun w' (hf : Fr (fun _ => False) w w') => nfew_any A n c w.heap.size l w' (hl.fr hf (fun _ _ h => h)) hn hnb)
  rw [hf1] at CF1
  clear hl hn hf1
  go_enter Try.func3, Try.ntmps3
  go_wp2_with fail
  refine (known_any w).mono ?_; rintro e w0 ⟨rfl, hf0⟩
  have C1 := Lib.hid (CF1.out w0 hf0)
  have HF := Lib.hid hf0
  clear CF1 hf0
  go_wp2_with fail
  refine C1.out.mono ?_; rintro e w1 ⟨rfl, g1⟩
  have HG := Lib.hid g1
  clear C1 g1
  go_wp2
  go_ret
  exact ⟨rfl, HF.out.trans HG.out (fun _ _ h => h)⟩

set_option maxRecDepth 100000 in
set_option maxHeartbeats 4000000 in
theorem plays_bad (N : Int) (A : Option Addr) (n c : Nat) (l : List NAct) (w : World) (hl : NActs w w.heap.size A l) (hn : l.length = n) (hnb : (n : Int) ≤ 9223372036854775807) (hf1 : nfew l = true) (hb : N < 1 ∨ 9 < N) :
    Calls Try.prog 3 #[.int .i64 N, .slice A n c] w fun e w' => e = .returned (.bool true) ∧ Fr (fun _ => False) w w' := by
  have CF1 := Lib.hid (fun w' (hf : Fr (fun _ => False) w w') => nfew_any A n c w.heap.size l w' (hl.fr hf (fun _ _ h => h)) hn hnb)
  rw [hf1] at CF1
  have C2 := Lib.hid (fun w' => new_bad N w' hb)
  have C3 := Lib.hid (fun w' => rnew_bad N w' hb)
  clear hl hn hf1 hb
  go_enter Try.func3, Try.ntmps3
  go_wp2_with fail
  refine (known_any w).mono ?_; rintro e w0 ⟨rfl, hf0⟩
  have C1 := Lib.hid (CF1.out w0 hf0)
  have HF := Lib.hid hf0
  clear CF1 hf0
  go_wp2_with fail
  refine C1.out.mono ?_; rintro e w1 ⟨rfl, g1⟩
  have HG := Lib.hid g1
  have C2 := Lib.hid (C2.out w1)
  have C3 := Lib.hid (C3.out w1)
  clear C1 g1
  go_wp2_with fail
  refine C2.out.mono ?_; rintro e w2 ⟨rfl, rfl⟩
  clear C2
  go_wp2_with fail
  refine C3.out.mono ?_; rintro e w2 ⟨rfl, rfl⟩
  clear C3
  go_wp2
  go_ret
  exact ⟨rfl, HF.out.trans HG.out (fun _ _ h => h)⟩

set_option maxRecDepth 100000 in
set_option maxHeartbeats 4000000 in
theorem plays_go (N : Nat) (A : Option Addr) (n c : Nat) (l : List NAct) (w : World) (hl : NActs w w.heap.size A l) (hn : l.length = n) (hf1 : nfew l = true) (h1 : 1 ≤ N) (h9 : N ≤ 9) :
    Calls Try.prog 3 #[.int .i64 (N : Int), .slice A n c] w fun e w' => e = .returned (.bool true) ∧ Fr (fun _ => False) w w' := by
  have hn2 : n ≤ 200 := by have := (nfew_yes hf1).1; omega
  have CF1 := Lib.hid (fun w' (hf : Fr (fun _ => False) w w') => nfew_any A n c w.heap.size l w' (hl.fr hf (fun _ _ h => h)) hn (by omega))
  rw [hf1] at CF1
  have C2 := Lib.hid (fun w' => RunN.made N w' h1 h9)
  have C3 := Lib.hid (fun w' => rnew_ok N w' h1 h9)
  have HL := Lib.hid hl
  have HN := Lib.hid hn
  clear hl hn hf1
  go_enter Try.func3, Try.ntmps3
  go_wp2_with fail
  refine (known_any w).mono ?_; rintro e w0 ⟨rfl, hf0⟩
  have C1 := Lib.hid (CF1.out w0 hf0)
  have HF := Lib.hid hf0
  clear CF1 hf0
  go_wp2_with fail
  refine C1.out.mono ?_; rintro e w1 ⟨rfl, g1⟩
  have HG := Lib.hid (HF.out.trans g1 (fun _ _ h => h))
  have C2 := Lib.hid (C2.out w1)
  clear C1 g1 HF
  go_wp2_with fail
  refine C2.out.mono ?_; rintro e w2 ⟨g, F, rfl, hr⟩
  have HR := Lib.hid (hr.base HG.out)
  have C3 := Lib.hid (C3.out w2)
  clear C2 hr HG
  go_wp2_with fail
  refine C3.out.mono ?_; rintro e w3 ⟨gr, rfl, k1, k2, k3⟩
  obtain ⟨G, hP⟩ := Pair.made HR.out k1 k2 k3
  have HP := Lib.hid hP
  clear C3 k1 k2 k3 hP HR
  go_wp2_with fail
  go_loopw [9] (fun i wr => ∃ (k : Nat) (s : NS) (F G : Nat → Prop), i = .int .i64 (k : Int) ∧ k ≤ n ∧ PInv s k ∧ Pair w wr g s F gr s G) (fun i _ => n - (intOf i).toNat)
  case atStart => exact ⟨0, _, F, G, rfl, Nat.zero_le _, PInv.new N, HP.out⟩
  case round =>
    obtain ⟨k, s, F1, G1, rfl, hk, hinv, hpair⟩ := hrel
    have HI := Lib.hid hinv
    have HX := Lib.hid hpair
    clear hinv hpair HP
    have hk0 : (0 : Int) ≤ (k : Int) := by omega
    by_cases hlt : k < n
    · have hkl : k < l.length := by rw [HN.out]; exact hlt
      obtain ⟨b, o, rfl, hat⟩ := HL.out.at_ hkl
      have hlt' : (k : Int) < n := by omega
      have HNX := Lib.hid (HI.out.stp (l.getD k default))
      generalize l.getD k default = q at *
      have HAT := Lib.hid hat
      have CA := Lib.hid (fun w' (hf : Fr (fun _ => False) w w') => have ha := HAT.out.fr hf (fun _ _ h => h); show w'.cell? ⟨b, o + k * 4, none⟩ = some (.int .i64 q.op) ∧ w'.cell? ⟨b, o + k * 4 + 1, none⟩ = some (.int .i64 q.a) ∧ w'.cell? ⟨b, o + k * 4 + 2, none⟩ = some (.int .i64 q.b) ∧ w'.cell? ⟨b, o + k * 4 + 3, none⟩ = some (.slice q.bA q.bs.length q.bc) from ⟨ha.c0, ha.c1, ha.c2, ha.c3⟩)
      have CS0 := step_any q (k := k) (s := s) (show Hnd w wr.drew g s F1 gr G1 k q.bA q.bs from ⟨HX.out.quiet (Fr.refl _ _).drew, HI.out, by omega, HAT.out.rb.fr (HX.out.run.fr.drew) (fun _ _ _ h => h), HAT.out.bb⟩)
      unfold NAct.v at CS0
      have CS := Lib.hid CS0
      generalize s.stp q = s2 at *
      have hs2 := HNX.out.l
      have hc2 := HNX.out.cuts
      clear hat hkl CS0
      go_wp2_with fail
      refine wp_region_held_drew (S := fun w' => Fr (fun _ => False) w w') (by kernel_rfl) (HX.out.run.fr.drew) (fun hHeld => ?_)
      refine wpAnyH_takeD (i := 0) (v := ?_) (some 43) rfl rfl (by kernel_rfl) (by kernel_rfl) (by kernel_rfl) (fun _ _ _ h => h) (Or.inl ⟨by rfl, ?_⟩) (by assumption) ?_
      rotate_left
      · intro w' hSw
        go_simp
        first | done | with_reducible rfl
      try simp only [Go.Act.put, List.setIfInBounds_toArray, List.set_cons_zero, List.set_cons_succ]
      refine wpAnyH_takeD (i := 1) (v := ?_) (some 44) rfl rfl (by kernel_rfl) (by kernel_rfl) (by kernel_rfl) (fun _ _ _ h => h) (Or.inl ⟨by rfl, ?_⟩) (by assumption) ?_
      rotate_left
      · intro w' hSw
        go_simp
        first | done | with_reducible rfl
      try simp only [Go.Act.put, List.setIfInBounds_toArray, List.set_cons_zero, List.set_cons_succ]
      refine wpAnyH_takeD (i := 2) (v := ?_) (some 45) rfl rfl (by kernel_rfl) (by kernel_rfl) (by kernel_rfl) (fun _ _ _ h => h) (Or.inl ⟨by rfl, ?_⟩) (by assumption) ?_
      rotate_left
      · intro w' hSw
        go_simp
        first | done | with_reducible rfl
      try simp only [Go.Act.put, List.setIfInBounds_toArray, List.set_cons_zero, List.set_cons_succ]
      refine wpAnyH_takeD (i := 3) (v := ?_) (some 46) rfl rfl (by kernel_rfl) (by kernel_rfl) (by kernel_rfl) (fun _ _ _ h => h) (Or.inl ⟨by rfl, ?_⟩) (by assumption) ?_
      rotate_left
      · intro w' hSw
        go_simp
        first | done | with_reducible rfl
      try simp only [Go.Act.put, List.setIfInBounds_toArray, List.set_cons_zero, List.set_cons_succ]
      refine wpAnyH_takeD (i := 4) (v := ?_) (some 47) rfl rfl (by kernel_rfl) (by kernel_rfl) (by kernel_rfl) (fun _ _ _ h => h) (Or.inl ⟨by rfl, ?_⟩) (by assumption) ?_
      rotate_left
      · intro w' hSw
        go_simp
        first | done | with_reducible rfl
      try simp only [Go.Act.put, List.setIfInBounds_toArray, List.set_cons_zero, List.set_cons_succ]
      refine wpAnyH_takeD (i := 5) (v := ?_) (some 48) rfl rfl (by kernel_rfl) (by kernel_rfl) (by kernel_rfl) (fun _ _ _ h => h) (Or.inl ⟨by rfl, ?_⟩) (by assumption) ?_
      rotate_left
      · intro w' hSw
        obtain ⟨q0, q1, q2, q3⟩ := CA.out w' hSw
        go_simp
        first | done | with_reducible rfl
      try simp only [Go.Act.put, List.setIfInBounds_toArray, List.set_cons_zero, List.set_cons_succ]
      refine wpAnyH_ready (rs := [6]) (by kernel_rfl) (by simp) ?_
      refine AllReadyH.cons rfl (fun K hK => ?_) AllReadyH.nil
      go_simp
      refine CS.out.mono ?_; rintro e w4 ⟨rfl, F4, G4, hP4⟩
      have HP4 := Lib.hid hP4
      try go_simp
      refine hK.out _ _ (hP4.run.fr) (fun hHeld => ?_)
      clear hK K
      try change wpAnyH _ _ _ _ _ _ _ (Go.Act.put _ (some 49) _) _
      try simp only [Go.Act.put, List.setIfInBounds_toArray, List.set_cons_zero, List.set_cons_succ]
      refine wpAnyH_more (S' := fun w' => Fr (fun _ => False) w4 w') (fun _ h => HP4.out.run.fr.trans h (fun _ _ h => h)) _ _ _ _ ?_
      replace hHeld : Fr (fun _ => False) w4 w4 := Fr.refl _ _
      have CW := Lib.hid (fun w' (hf : Fr (fun _ => False) w4 w') => (HP4.out.quiet hf).run.waitP (by omega))
      have CO := Lib.hid (fun w' (hf : Fr (fun _ => False) w4 w') => (HP4.out.quiet hf).run.nt.open q.a q.b)
      have CR := Lib.hid (fun w' (hf : Fr (fun _ => False) w4 w') => (HP4.out.quiet hf).ref.open (by omega) q.a q.b)
      obtain ⟨Ar, cr, rs, hli, hrs⟩ := hP4.ref.listed
      have HLI := Lib.hid hli
      have HRS := Lib.hid hrs
      have hzz : (s2.openB q.a q.b == s2.openB q.a q.b) = true := by simp
      generalize s2.openB q.a q.b = z at *
      clear hP4 CS hli hrs
      refine wpAnyH_takeD (i := 7) (v := ?_) (some 50) rfl rfl (by kernel_rfl) (by kernel_rfl) (by kernel_rfl) (fun _ _ _ h => h) (Or.inl ⟨by rfl, ?_⟩) (by assumption) ?_
      rotate_left
      · intro w' hSw
        go_simp
        first | done | with_reducible rfl
      try simp only [Go.Act.put, List.setIfInBounds_toArray, List.set_cons_zero, List.set_cons_succ]
      refine wpAnyH_takeD (i := 8) (v := ?_) (some 51) rfl rfl (by kernel_rfl) (by kernel_rfl) (by kernel_rfl) (fun _ _ _ h => h) (Or.inl ⟨by rfl, ?_⟩) (by assumption) ?_
      rotate_left
      · intro w' hSw
        go_simp
        first | done | with_reducible rfl
      try simp only [Go.Act.put, List.setIfInBounds_toArray, List.set_cons_zero, List.set_cons_succ]
      refine wpAnyH_takeD (i := 9) (v := ?_) (some 52) rfl rfl (by kernel_rfl) (by kernel_rfl) (by kernel_rfl) (fun _ _ _ h => h) (Or.inl ⟨by rfl, ?_⟩) (by assumption) ?_
      rotate_left
      · intro w' hSw
        go_simp
        first | done | with_reducible rfl
      try simp only [Go.Act.put, List.setIfInBounds_toArray, List.set_cons_zero, List.set_cons_succ]
      refine wpAnyH_takeD (i := 11) (v := ?_) (some 54) rfl rfl (by kernel_rfl) (by kernel_rfl) (by kernel_rfl) (fun _ _ _ h => h) (Or.inl ⟨by rfl, ?_⟩) (by assumption) ?_
      rotate_left
      · intro w' hSw
        go_simp
        first | done | with_reducible rfl
      try simp only [Go.Act.put, List.setIfInBounds_toArray, List.set_cons_zero, List.set_cons_succ]
      refine wpAnyH_takeD (i := 12) (v := ?_) (some 55) rfl rfl (by kernel_rfl) (by kernel_rfl) (by kernel_rfl) (fun _ _ _ h => h) (Or.inl ⟨by rfl, ?_⟩) (by assumption) ?_
      rotate_left
      · intro w' hSw
        go_simp
        first | done | with_reducible rfl
      try simp only [Go.Act.put, List.setIfInBounds_toArray, List.set_cons_zero, List.set_cons_succ]
      refine wpAnyH_takeD (i := 13) (v := ?_) (some 56) rfl rfl (by kernel_rfl) (by kernel_rfl) (by kernel_rfl) (fun _ _ _ h => h) (Or.inl ⟨by rfl, ?_⟩) (by assumption) ?_
      rotate_left
      · intro w' hSw
        go_simp
        first | done | with_reducible rfl
      try simp only [Go.Act.put, List.setIfInBounds_toArray, List.set_cons_zero, List.set_cons_succ]
      refine wpAnyH_takeD (i := 14) (v := ?_) (some 57) rfl rfl (by kernel_rfl) (by kernel_rfl) (by kernel_rfl) (fun _ _ _ h => h) (Or.inl ⟨by rfl, ?_⟩) (by assumption) ?_
      rotate_left
      · intro w' hSw
        have q1 := (HLI.out w' hSw).1
        go_simp
        first | done | with_reducible rfl
      try simp only [Go.Act.put, List.setIfInBounds_toArray, List.set_cons_zero, List.set_cons_succ]
      refine wpAnyH_ready (rs := [10]) (by kernel_rfl) (by simp) ?_
      refine AllReadyH.cons rfl (fun K hK => ?_) AllReadyH.nil
      go_simp
      refine (CW.out _ hHeld).mono ?_; rintro e w5 ⟨Av, cv, ks, rfl, hpk, hks, hf5⟩
      try go_simp
      refine hK.out _ _ (hHeld.trans hf5 (fun _ _ h => h)) (fun hHeld => ?_)
      clear hK K
      try change wpAnyH _ _ _ _ _ _ _ (Go.Act.put _ (some 53) _) _
      try simp only [Go.Act.put, List.setIfInBounds_toArray, List.set_cons_zero, List.set_cons_succ]
      have CM := Lib.hid (same_any Av Ar s2.l.length cv cr ks rs w5 hpk (HLI.out _ hHeld).2 (hks.trans HRS.out.symm) (by omega))
      clear hpk hks hf5 CW
      refine wpAnyH_ready (rs := [15]) (by kernel_rfl) (by simp) ?_
      refine AllReadyH.cons rfl (fun K hK => ?_) AllReadyH.nil
      go_simp
      refine CM.out.mono ?_; rintro e w6 ⟨rfl, f6⟩
      try go_simp
      refine hK.out _ _ (hHeld.trans f6 (fun _ _ h => h)) (fun hHeld => ?_)
      clear hK K
      try change wpAnyH _ _ _ _ _ _ _ (Go.Act.put _ (some 58) _) _
      try simp only [Go.Act.put, List.setIfInBounds_toArray, List.set_cons_zero, List.set_cons_succ]
      clear f6 CM
      refine wpAnyH_takeD (i := 16) (v := ?_) (some 59) rfl rfl (by kernel_rfl) (by kernel_rfl) (by kernel_rfl) (fun _ _ _ h => h) (Or.inl ⟨by rfl, ?_⟩) (by assumption) ?_
      rotate_left
      · intro w' hSw
        go_simp
        first | done | with_reducible rfl
      try simp only [Go.Act.put, List.setIfInBounds_toArray, List.set_cons_zero, List.set_cons_succ]
      refine wpAnyH_takeD (i := 17) (v := ?_) (some 60) rfl rfl (by kernel_rfl) (by kernel_rfl) (by kernel_rfl) (fun _ _ _ h => h) (Or.inl ⟨by rfl, ?_⟩) (by assumption) ?_
      rotate_left
      · intro w' hSw
        go_simp
        first | done | with_reducible rfl
      try simp only [Go.Act.put, List.setIfInBounds_toArray, List.set_cons_zero, List.set_cons_succ]
      refine wpAnyH_takeD (i := 18) (v := ?_) (some 61) rfl rfl (by kernel_rfl) (by kernel_rfl) (by kernel_rfl) (fun _ _ _ h => h) (Or.inl ⟨by rfl, ?_⟩) (by assumption) ?_
      rotate_left
      · intro w' hSw
        go_simp
        first | done | with_reducible rfl
      try simp only [Go.Act.put, List.setIfInBounds_toArray, List.set_cons_zero, List.set_cons_succ]
      refine wpAnyH_takeD (i := 19) (v := ?_) (some 62) rfl rfl (by kernel_rfl) (by kernel_rfl) (by kernel_rfl) (fun _ _ _ h => h) (Or.inl ⟨by rfl, ?_⟩) (by assumption) ?_
      rotate_left
      · intro w' hSw
        go_simp
        first | done | with_reducible rfl
      try simp only [Go.Act.put, List.setIfInBounds_toArray, List.set_cons_zero, List.set_cons_succ]
      refine wpAnyH_takeD (i := 20) (v := ?_) (some 63) rfl rfl (by kernel_rfl) (by kernel_rfl) (by kernel_rfl) (fun _ _ _ h => h) (Or.inl ⟨by rfl, ?_⟩) (by assumption) ?_
      rotate_left
      · intro w' hSw
        go_simp
        first | done | with_reducible rfl
      try simp only [Go.Act.put, List.setIfInBounds_toArray, List.set_cons_zero, List.set_cons_succ]
      refine wpAnyH_takeD (i := 21) (v := ?_) (some 64) rfl rfl (by kernel_rfl) (by kernel_rfl) (by kernel_rfl) (fun _ _ _ h => h) (Or.inl ⟨by rfl, ?_⟩) (by assumption) ?_
      rotate_left
      · intro w' hSw
        go_simp
        first | done | with_reducible rfl
      try simp only [Go.Act.put, List.setIfInBounds_toArray, List.set_cons_zero, List.set_cons_succ]
      refine wpAnyH_takeD (i := 22) (v := ?_) (some 65) rfl rfl (by kernel_rfl) (by kernel_rfl) (by kernel_rfl) (fun _ _ _ h => h) (Or.inl ⟨by rfl, ?_⟩) (by assumption) ?_
      rotate_left
      · intro w' hSw
        go_simp
        first | done | with_reducible rfl
      try simp only [Go.Act.put, List.setIfInBounds_toArray, List.set_cons_zero, List.set_cons_succ]
      refine wpAnyH_takeD (i := 23) (v := ?_) (some 66) rfl rfl (by kernel_rfl) (by kernel_rfl) (by kernel_rfl) (fun _ _ _ h => h) (Or.inl ⟨by rfl, ?_⟩) (by assumption) ?_
      rotate_left
      · intro w' hSw
        go_simp
        first | done | with_reducible rfl
      try simp only [Go.Act.put, List.setIfInBounds_toArray, List.set_cons_zero, List.set_cons_succ]
      refine wpAnyH_takeD (i := 24) (v := ?_) (some 67) rfl rfl (by kernel_rfl) (by kernel_rfl) (by kernel_rfl) (fun _ _ _ h => h) (Or.inl ⟨by rfl, ?_⟩) (by assumption) ?_
      rotate_left
      · intro w' hSw
        obtain ⟨q0, q1, q2, q3⟩ := CA.out w' (HP4.out.run.fr.trans hSw (fun _ _ h => h))
        go_simp
        first | done | with_reducible rfl
      try simp only [Go.Act.put, List.setIfInBounds_toArray, List.set_cons_zero, List.set_cons_succ]
      refine wpAnyH_takeD (i := 25) (v := ?_) (some 68) rfl rfl (by kernel_rfl) (by kernel_rfl) (by kernel_rfl) (fun _ _ _ h => h) (Or.inl ⟨by rfl, ?_⟩) (by assumption) ?_
      rotate_left
      · intro w' hSw
        go_simp
        first | done | with_reducible rfl
      try simp only [Go.Act.put, List.setIfInBounds_toArray, List.set_cons_zero, List.set_cons_succ]
      refine wpAnyH_takeD (i := 26) (v := ?_) (some 69) rfl rfl (by kernel_rfl) (by kernel_rfl) (by kernel_rfl) (fun _ _ _ h => h) (Or.inl ⟨by rfl, ?_⟩) (by assumption) ?_
      rotate_left
      · intro w' hSw
        go_simp
        first | done | with_reducible rfl
      try simp only [Go.Act.put, List.setIfInBounds_toArray, List.set_cons_zero, List.set_cons_succ]
      refine wpAnyH_takeD (i := 27) (v := ?_) (some 70) rfl rfl (by kernel_rfl) (by kernel_rfl) (by kernel_rfl) (fun _ _ _ h => h) (Or.inl ⟨by rfl, ?_⟩) (by assumption) ?_
      rotate_left
      · intro w' hSw
        go_simp
        first | done | with_reducible rfl
      try simp only [Go.Act.put, List.setIfInBounds_toArray, List.set_cons_zero, List.set_cons_succ]
      refine wpAnyH_takeD (i := 28) (v := ?_) (some 71) rfl rfl (by kernel_rfl) (by kernel_rfl) (by kernel_rfl) (fun _ _ _ h => h) (Or.inl ⟨by rfl, ?_⟩) (by assumption) ?_
      rotate_left
      · intro w' hSw
        go_simp
        first | done | with_reducible rfl
      try simp only [Go.Act.put, List.setIfInBounds_toArray, List.set_cons_zero, List.set_cons_succ]
      refine wpAnyH_takeD (i := 29) (v := ?_) (some 72) rfl rfl (by kernel_rfl) (by kernel_rfl) (by kernel_rfl) (fun _ _ _ h => h) (Or.inl ⟨by rfl, ?_⟩) (by assumption) ?_
      rotate_left
      · intro w' hSw
        obtain ⟨q0, q1, q2, q3⟩ := CA.out w' (HP4.out.run.fr.trans hSw (fun _ _ h => h))
        go_simp
        first | done | with_reducible rfl
      try simp only [Go.Act.put, List.setIfInBounds_toArray, List.set_cons_zero, List.set_cons_succ]
      refine wpAnyH_takeD (i := 31) (v := ?_) (some 74) rfl rfl (by kernel_rfl) (by kernel_rfl) (by kernel_rfl) (fun _ _ _ h => h) (Or.inl ⟨by rfl, ?_⟩) (by assumption) ?_
      rotate_left
      · intro w' hSw
        go_simp
        first | done | with_reducible rfl
      try simp only [Go.Act.put, List.setIfInBounds_toArray, List.set_cons_zero, List.set_cons_succ]
      refine wpAnyH_takeD (i := 32) (v := ?_) (some 75) rfl rfl (by kernel_rfl) (by kernel_rfl) (by kernel_rfl) (fun _ _ _ h => h) (Or.inl ⟨by rfl, ?_⟩) (by assumption) ?_
      rotate_left
      · intro w' hSw
        go_simp
        first | done | with_reducible rfl
      try simp only [Go.Act.put, List.setIfInBounds_toArray, List.set_cons_zero, List.set_cons_succ]
      refine wpAnyH_takeD (i := 33) (v := ?_) (some 76) rfl rfl (by kernel_rfl) (by kernel_rfl) (by kernel_rfl) (fun _ _ _ h => h) (Or.inl ⟨by rfl, ?_⟩) (by assumption) ?_
      rotate_left
      · intro w' hSw
        go_simp
        first | done | with_reducible rfl
      try simp only [Go.Act.put, List.setIfInBounds_toArray, List.set_cons_zero, List.set_cons_succ]
      refine wpAnyH_takeD (i := 34) (v := ?_) (some 77) rfl rfl (by kernel_rfl) (by kernel_rfl) (by kernel_rfl) (fun _ _ _ h => h) (Or.inl ⟨by rfl, ?_⟩) (by assumption) ?_
      rotate_left
      · intro w' hSw
        go_simp
        first | done | with_reducible rfl
      try simp only [Go.Act.put, List.setIfInBounds_toArray, List.set_cons_zero, List.set_cons_succ]
      refine wpAnyH_takeD (i := 35) (v := ?_) (some 78) rfl rfl (by kernel_rfl) (by kernel_rfl) (by kernel_rfl) (fun _ _ _ h => h) (Or.inl ⟨by rfl, ?_⟩) (by assumption) ?_
      rotate_left
      · intro w' hSw
        go_simp
        first | done | with_reducible rfl
      try simp only [Go.Act.put, List.setIfInBounds_toArray, List.set_cons_zero, List.set_cons_succ]
      refine wpAnyH_takeD (i := 36) (v := ?_) (some 79) rfl rfl (by kernel_rfl) (by kernel_rfl) (by kernel_rfl) (fun _ _ _ h => h) (Or.inl ⟨by rfl, ?_⟩) (by assumption) ?_
      rotate_left
      · intro w' hSw
        obtain ⟨q0, q1, q2, q3⟩ := CA.out w' (HP4.out.run.fr.trans hSw (fun _ _ h => h))
        go_simp
        first | done | with_reducible rfl
      try simp only [Go.Act.put, List.setIfInBounds_toArray, List.set_cons_zero, List.set_cons_succ]
      refine wpAnyH_takeD (i := 37) (v := ?_) (some 80) rfl rfl (by kernel_rfl) (by kernel_rfl) (by kernel_rfl) (fun _ _ _ h => h) (Or.inl ⟨by rfl, ?_⟩) (by assumption) ?_
      rotate_left
      · intro w' hSw
        go_simp
        first | done | with_reducible rfl
      try simp only [Go.Act.put, List.setIfInBounds_toArray, List.set_cons_zero, List.set_cons_succ]
      refine wpAnyH_takeD (i := 38) (v := ?_) (some 81) rfl rfl (by kernel_rfl) (by kernel_rfl) (by kernel_rfl) (fun _ _ _ h => h) (Or.inl ⟨by rfl, ?_⟩) (by assumption) ?_
      rotate_left
      · intro w' hSw
        go_simp
        first | done | with_reducible rfl
      try simp only [Go.Act.put, List.setIfInBounds_toArray, List.set_cons_zero, List.set_cons_succ]
      refine wpAnyH_takeD (i := 39) (v := ?_) (some 82) rfl rfl (by kernel_rfl) (by kernel_rfl) (by kernel_rfl) (fun _ _ _ h => h) (Or.inl ⟨by rfl, ?_⟩) (by assumption) ?_
      rotate_left
      · intro w' hSw
        go_simp
        first | done | with_reducible rfl
      try simp only [Go.Act.put, List.setIfInBounds_toArray, List.set_cons_zero, List.set_cons_succ]
      refine wpAnyH_takeD (i := 40) (v := ?_) (some 83) rfl rfl (by kernel_rfl) (by kernel_rfl) (by kernel_rfl) (fun _ _ _ h => h) (Or.inl ⟨by rfl, ?_⟩) (by assumption) ?_
      rotate_left
      · intro w' hSw
        go_simp
        first | done | with_reducible rfl
      try simp only [Go.Act.put, List.setIfInBounds_toArray, List.set_cons_zero, List.set_cons_succ]
      refine wpAnyH_takeD (i := 41) (v := ?_) (some 84) rfl rfl (by kernel_rfl) (by kernel_rfl) (by kernel_rfl) (fun _ _ _ h => h) (Or.inl ⟨by rfl, ?_⟩) (by assumption) ?_
      rotate_left
      · intro w' hSw
        obtain ⟨q0, q1, q2, q3⟩ := CA.out w' (HP4.out.run.fr.trans hSw (fun _ _ h => h))
        go_simp
        first | done | with_reducible rfl
      try simp only [Go.Act.put, List.setIfInBounds_toArray, List.set_cons_zero, List.set_cons_succ]
      refine wpAnyH_ready (rs := [30]) (by kernel_rfl) (by simp) ?_
      refine AllReadyH.cons rfl (fun K hK => ?_) AllReadyH.nil
      go_simp
      refine (CO.out _ hHeld).mono ?_; rintro e w7 ⟨rfl, f7⟩
      try go_simp
      refine hK.out _ _ (hHeld.trans f7 (fun _ _ h => h)) (fun hHeld => ?_)
      clear hK K
      try change wpAnyH _ _ _ _ _ _ _ (Go.Act.put _ (some 73) _) _
      try simp only [Go.Act.put, List.setIfInBounds_toArray, List.set_cons_zero, List.set_cons_succ]
      clear f7
      refine wpAnyH_ready (rs := [42]) (by kernel_rfl) (by simp) ?_
      refine AllReadyH.cons rfl (fun K hK => ?_) AllReadyH.nil
      go_simp
      refine (CR.out _ hHeld).mono ?_; rintro e w8 ⟨rfl, f8⟩
      try go_simp
      refine hK.out _ _ (hHeld.trans f8 (fun _ _ h => h)) (fun hHeld => ?_)
      clear hK K
      try change wpAnyH _ _ _ _ _ _ _ (Go.Act.put _ (some 85) _) _
      try simp only [Go.Act.put, List.setIfInBounds_toArray, List.set_cons_zero, List.set_cons_succ]
      clear f8
      refine wpAnyH_takeD (i := 43) (v := ?_) (some 86) rfl rfl (by kernel_rfl) (by kernel_rfl) (by kernel_rfl) (fun _ _ _ h => h) (Or.inl ⟨by rfl, ?_⟩) (by assumption) ?_
      rotate_left
      · intro w' hSw
        go_simp
        first | done | with_reducible rfl
      try simp only [Go.Act.put, List.setIfInBounds_toArray, List.set_cons_zero, List.set_cons_succ]
      refine wpAnyH_takeD (i := 44) (v := ?_) (some 87) rfl rfl (by kernel_rfl) (by kernel_rfl) (by kernel_rfl) (fun _ _ _ h => h) (Or.inl ⟨by rfl, ?_⟩) (by assumption) ?_
      rotate_left
      · intro w' hSw
        go_simp
        first | done | with_reducible rfl
      try simp only [Go.Act.put, List.setIfInBounds_toArray, List.set_cons_zero, List.set_cons_succ]
      refine wpAnyH_done (by kernel_rfl) ?_ _
      have HZ := Lib.hid (HP4.out.quiet hHeld)
      clear hHeld
      go_wp2_with fail
      refine ⟨⟨k + 1, s2, F4, G4, by simp, by omega, HNX.out, HZ.out⟩, ?_⟩
      first | omega | (show _ < _; simp [intOf]; omega)
    · obtain rfl : k = n := by omega
      have HF := Lib.hid HX.out.run.fr
      go_wp2
      go_ret
      exact ⟨rfl, HF.out⟩

theorem plays_any (N : Int) (A : Option Addr) (n c : Nat) (l : List NAct) (w : World) (hl : NActs w w.heap.size A l) (hn : l.length = n) (hnb : (n : Int) ≤ 9223372036854775807) :
    Calls Try.prog 3 #[.int .i64 N, .slice A n c] w fun e w' => e = .returned (.bool true) ∧ Fr (fun _ => False) w w' := by
  cases hf : nfew l with
  | false => exact plays_long N A n c l w hl hn hnb hf
  | true =>
    by_cases hb : N < 1 ∨ 9 < N
    · exact plays_bad N A n c l w hl hn hnb hf hb
    · obtain ⟨M, rfl⟩ : ∃ M : Nat, N = M := ⟨N.toNat, by omega⟩
      exact plays_go M A n c l w hl hn hf (by omega) (by omega)
end Go.Proofs.Ytmlckocgahfnkaa
