/- The reference's Done; of; few. -/
import Derived.Test.YtacafjbbdklleaaDoorAy
import Derived.Test.YtacafjbbdklleaaDoorAm
import Derived.Test.YtacafjbbdklleaaDoorGa
import Derived.Test.YtacafjbbdklleaaDoorRowK
namespace Go.Proofs.YtacafjbbdklleaaDoor
open Go.RowKit

/-- What the reference's Done makes. -/
def RDoneE (b : Nat) (s : BSt) (v : Value) (w : World) (e : Ending) (w' : World) : Prop :=
  e = .returned (.tuple #[if s.doneE = 0 then v else .slice none 0 0, .int .i64 s.id, .int .i64 s.doneE]) ∧ RB w' b s.done (if s.doneE = 6 then v else .slice none 0 0) ∧ Fr (fun x => x = b) w w'
theorem rb_none {w : World} {b : Nat} (h : Bk w b 45 #[.int .i64 (-1), .int .i64 0, .int .u32 0, .slice none 0 0]) : RB w b BSt.none (.slice none 0 0) := ⟨BSt.none_ok, h, Own8.nil _ _⟩

set_option maxRecDepth 100000 in
set_option maxHeartbeats 4000000 in
theorem refDone_any (rb : Nat) (s : BSt) (v : Value) (w : World) (hb : RB w rb s v) :
    Calls Tryd.prog 15 #[.pointer (some ⟨rb, 0, none⟩)] w (RDoneE rb s v w) := by
  have HRB := Lib.hid hb
  have HOK := Lib.hid hb.1
  obtain ⟨A, c, rfl, _, hcm⟩ := hb.2.2.slice
  obtain ⟨n, hn⟩ : ∃ n, s.data.length = n := ⟨_, rfl⟩
  have KR := hb.2.1
  have HO := hb.2.2
  have hlen := hb.1.len
  rw [hn] at KR HO HRB hlen ⊢
  obtain ⟨rt, hrt⟩ : ∃ rt, rtot s = rt := ⟨_, rfl⟩
  rw [hrt] at KR
  have HN := Lib.hid hn
  have HOW := Lib.hid HO
  have HKR := Lib.hid KR
  have HLEN := Lib.hid hlen
  have r0 := KR.cell 0
  have r1 := KR.cell 1
  have r2 := KR.cell 2
  have r3 := KR.cell 3
  unfold RDoneE
  by_cases h1 : s.id < 0
  · have hE : s.doneE = 6 := by
      rcases hb.1 with h | h
      · rw [h]; rfl
      · omega
    have hD : s.done = s := by unfold BSt.done; rw [hE]; rfl
    have g1 : decide (s.id < 0) = true := decide_eq_true h1
    rw [hE, hD]
    clear hb KR HO hE hD h1 hrt hlen
    go_enter Tryd.func15, Tryd.ntmps15
    go_wp2_with fail
    go_quiet (fail)
    have FQ0 : Hid (Fr (fun _ => False) w (w.drewN nq)) := Lib.hid ((Fr.refl _ _).drewN _)
    generalize w.drewN nq = W1 at *
    have K1 := Lib.hid (HKR.out.fr FQ0.out (fun h => h))
    clear r0 r1 r2 r3
    have r0 := K1.out.cell 0
    go_wp2_with fail
    go_quiet (fail)
    go_wp2
    go_ret3
    exact ⟨rfl, (HRB.out.fr0 FQ0.out).fr0 ((Fr.refl _ _).drewN _), ((FQ0.out).drewN _).mono (fun _ _ h => h.elim)⟩
  · have g1 : decide (s.id < 0) = false := decide_eq_false h1
    have hrs : rt = s.total := by rw [← hrt]; unfold rtot; rw [if_neg h1]
    by_cases h2 : s.whole
    · have h3 : (n : Int) = s.total := by rw [← hn]; exact h2
      have hE' : s.doneE = if crcOf s.data ≠ s.sum then 9 else 0 := by unfold BSt.doneE; rw [if_neg (fun h => h h2)]
      have hD : s.done = BSt.none := by unfold BSt.done; rw [hE', if_neg (by split <;> decide)]
      have g2 : decide ((n : Int) < rt) = false := decide_eq_false (by omega)
      obtain ⟨W5, hW5⟩ : ∃ W5, set4 w rb (.int .i64 (-1)) (.int .i64 0) (.int .u32 0) (.slice none 0 0) = W5 := ⟨_, rfl⟩
      have HD := Lib.hid hD
      have HE := Lib.hid hE'
      have HS4 : Hid (∀ k, Bk (set4 (w.drewN k) rb (.int .i64 (-1)) (.int .i64 0) (.int .u32 0) (.slice none 0 0)) rb 45 #[.int .i64 (-1), .int .i64 0, .int .u32 0, .slice none 0 0] ∧ Fr (fun x => x = rb) w (set4 (w.drewN k) rb (.int .i64 (-1)) (.int .i64 0) (.int .u32 0) (.slice none 0 0))) := Lib.hid (fun k => ⟨(HKR.out.drewN k).set4 .., Fr.set4 ((Fr.refl (fun x => x = rb) w).drewN k) (fun _ => rfl) ..⟩)
      have CS : Hid (∀ w', Fr (fun x => x = rb) w w' → Calls Tryd.prog 24 #[.slice A n c] w' fun e w2 => e = .returned (.int .u32 (crcOf s.data)) ∧ w' = w2) := Lib.hid (fun w' hf => refSum_any A n c s.data w' ((HOW.out.fr hf (fun x hx e => HOW.out.ne HKR.out (by decide) (e ▸ hx))).rd) HN.out (by have := HLEN.out; omega))
      rw [hE', hD]
      obtain ⟨x, hx⟩ : ∃ x, crcOf s.data = x := ⟨_, rfl⟩
      rw [hx] at CS ⊢
      clear hb KR HO hE' hD h1 hrt hrs h2 h3 hlen hW5 hx HE HD
      have HXV : Hid ((Value.slice A n c).ownBlock ≠ some rb) := Lib.hid (HOW.out.ne HKR.out (by decide))
      by_cases h4 : x = s.sum
      · have g4 : ((x : Int) != (s.sum : Int)) = false := by rw [bne_eq_false_iff_eq]; omega
        rw [show (if x ≠ s.sum then (9 : Int) else 0) = 0 from if_neg (fun h => h h4)]
        simp only [show ((0 : Int) = 6) = False by decide, if_true, if_false]
        clear h4
        go_enter Tryd.func15, Tryd.ntmps15
        go_wp2_with fail
        go_quiet (fail)
        have FQ0 : Hid (Fr (fun _ => False) w (w.drewN nq)) := Lib.hid ((Fr.refl _ _).drewN _)
        have HS5 := Lib.hid (HS4.out nq)
        generalize w.drewN nq = W1 at *
        have K1 := Lib.hid (HKR.out.fr FQ0.out (fun h => h))
        clear r0 r1 r2 r3
        have r0 := K1.out.cell 0
        have r1 := K1.out.cell 1
        have r2 := K1.out.cell 2
        have r3 := K1.out.cell 3
        have rf0 := K1.out.frozen 0
        have rf1 := K1.out.frozen 1
        have rf2 := K1.out.frozen 2
        have rf3 := K1.out.frozen 3
        have CS5 := Lib.hid (CS.out _ HS5.out.2)
        obtain ⟨W5, hW5⟩ : ∃ W5, set4 W1 rb (.int .i64 (-1)) (.int .i64 0) (.int .u32 0) (.slice none 0 0) = W5 := ⟨_, rfl⟩
        rw [hW5] at HS5 CS5
        unfold set4 at hW5
        go_wp2_with fail
        clear r0 r1 r2 r3 rf0 rf1 rf2 rf3 hW5
        refine CS5.out.mono ?_; rintro e w2 ⟨rfl, rfl⟩
        go_wp2
        go_ret3
        refine ⟨rfl, ?_, HS5.out.2⟩
        exact rb_none HS5.out.1
      · have g4 : ((x : Int) != (s.sum : Int)) = true := by rw [bne_iff_ne]; omega
        rw [show (if x ≠ s.sum then (9 : Int) else 0) = 9 from if_pos h4]
        simp only [show ((9 : Int) = 0) = False by decide, show ((9 : Int) = 6) = False by decide, if_false]
        clear h4
        go_enter Tryd.func15, Tryd.ntmps15
        go_wp2_with fail
        go_quiet (fail)
        have FQ0 : Hid (Fr (fun _ => False) w (w.drewN nq)) := Lib.hid ((Fr.refl _ _).drewN _)
        have HS5 := Lib.hid (HS4.out nq)
        generalize w.drewN nq = W1 at *
        have K1 := Lib.hid (HKR.out.fr FQ0.out (fun h => h))
        clear r0 r1 r2 r3
        have r0 := K1.out.cell 0
        have r1 := K1.out.cell 1
        have r2 := K1.out.cell 2
        have r3 := K1.out.cell 3
        have rf0 := K1.out.frozen 0
        have rf1 := K1.out.frozen 1
        have rf2 := K1.out.frozen 2
        have rf3 := K1.out.frozen 3
        have CS5 := Lib.hid (CS.out _ HS5.out.2)
        obtain ⟨W5, hW5⟩ : ∃ W5, set4 W1 rb (.int .i64 (-1)) (.int .i64 0) (.int .u32 0) (.slice none 0 0) = W5 := ⟨_, rfl⟩
        rw [hW5] at HS5 CS5
        unfold set4 at hW5
        go_wp2_with fail
        clear r0 r1 r2 r3 rf0 rf1 rf2 rf3 hW5
        refine CS5.out.mono ?_; rintro e w2 ⟨rfl, rfl⟩
        go_wp2
        go_ret3
        refine ⟨rfl, ?_, HS5.out.2⟩
        exact rb_none HS5.out.1
    · have hE : s.doneE = 6 := by unfold BSt.doneE; rw [if_pos h2]
      have hD : s.done = s := by unfold BSt.done; rw [hE]; rfl
      have h3 : (n : Int) < rt := by
        unfold BSt.whole at h2
        rw [hn] at h2
        rcases hb.1 with h | ⟨_, _, h5, _⟩
        · rw [h] at h1; simp [BSt.none] at h1
        · rw [hn] at h5; omega
      have g2 : decide ((n : Int) < rt) = true := decide_eq_true h3
      rw [hE, hD]
      clear hb KR HO hE hD h1 hrt hrs h2 h3 hlen
      go_enter Tryd.func15, Tryd.ntmps15
      go_wp2_with fail
      go_quiet (fail)
      have FQ0 : Hid (Fr (fun _ => False) w (w.drewN nq)) := Lib.hid ((Fr.refl _ _).drewN _)
      generalize w.drewN nq = W1 at *
      have K1 := Lib.hid (HKR.out.fr FQ0.out (fun h => h))
      clear r0 r1 r2 r3
      have r0 := K1.out.cell 0
      go_wp2_with fail
      go_quiet (fail)
      go_wp2
      go_ret3
      exact ⟨rfl, (HRB.out.fr0 FQ0.out).fr0 ((Fr.refl _ _).drewN _), ((FQ0.out).drewN _).mono (fun _ _ h => h.elim)⟩

set_option maxRecDepth 100000 in
set_option maxHeartbeats 4000000 in
theorem of_any (p : Pc) (D : Option Addr) (m k : Nat) (w : World) :
    Calls Tryd.prog 19 #[p.v (.slice D m k)] w fun e w' => e = .returned (p.v (.slice D m k)) ∧ Fr (fun _ => False) w w' := by
  obtain ⟨id, at_, tot, sum, xs⟩ := p
  unfold Pc.v
  simp only
  obtain ⟨g, hg⟩ : ∃ g, w.heap.size = g := ⟨_, rfl⟩
  obtain ⟨W, hW⟩ : ∃ W, (w.alloc (.cells #[.int .i64 id, .int .i64 at_, .int .i64 tot, .int .u32 sum, .slice D m k] 36)).alloc (.cells #[.int .i64 0, .int .i64 0, .int .i64 0, .int .u32 0, .slice none 0 0] 37) = W := ⟨_, rfl⟩
  have K1 : Bk W g 36 #[.int .i64 id, .int .i64 at_, .int .i64 tot, .int .u32 sum, .slice D m k] := by rw [← hW, ← hg]; exact (Bk.new _ _ _).alloc _
  have K2 : Bk W (g + 1) 37 #[.int .i64 0, .int .i64 0, .int .i64 0, .int .u32 0, .slice none 0 0] := by
    rw [← hW, ← hg]
    have := Bk.new (w.alloc (.cells #[.int .i64 id, .int .i64 at_, .int .i64 tot, .int .u32 sum, .slice D m k] 36)) 37 #[.int .i64 0, .int .i64 0, .int .i64 0, .int .u32 0, .slice none 0 0]
    simpa using this
  have FW : Hid (Fr (fun _ => False) w W) := Lib.hid (by rw [← hW]; exact ((Fr.refl _ _).alloc _).alloc _)
  have HG := Lib.hid hg
  have p0 := K1.cell 0
  have p1 := K1.cell 1
  have p2 := K1.cell 2
  have p3 := K1.cell 3
  have p4 := K1.cell 4
  have f0 := K2.frozen 0
  have f1 := K2.frozen 1
  have f2 := K2.frozen 2
  have f3 := K2.frozen 3
  have f4 := K2.frozen 4
  have z0 := K2.cell 0
  have z1 := K2.cell 1
  have z2 := K2.cell 2
  have z3 := K2.cell 3
  have z4 := K2.cell 4
  have G2 : Hid (Bk (set5 W (g + 1) (.int .i64 id) (.int .i64 at_) (.int .i64 tot) (.int .u32 sum) (.slice D m k)) (g + 1) 37 #[.int .i64 id, .int .i64 at_, .int .i64 tot, .int .u32 sum, .slice D m k] ∧ Fr (fun _ => False) w (set5 W (g + 1) (.int .i64 id) (.int .i64 at_) (.int .i64 tot) (.int .u32 sum) (.slice D m k))) :=
    Lib.hid ⟨K2.set5 .., Fr.set5 FW.out (fun h => by have := HG.out; omega) ..⟩
  clear K1 K2
  go_enter Tryd.func19, Tryd.ntmps19
  go_wp2
  change bodyPost _ _ _ _ _ (set5 W (g + 1) (.int .i64 id) (.int .i64 at_) (.int .i64 tot) (.int .u32 sum) (.slice D m k))
  have G2' := G2.out
  generalize set5 W (g + 1) (.int .i64 id) (.int .i64 at_) (.int .i64 tot) (.int .u32 sum) (.slice D m k) = w5 at *
  have q0 := G2'.1.cell 0
  have q1 := G2'.1.cell 1
  have q2 := G2'.1.cell 2
  have q3 := G2'.1.cell 3
  have q4 := G2'.1.cell 4
  refine bodyPost_ret (v := .agg #[.int .i64 id, .int .i64 at_, .int .i64 tot, .int .u32 sum, .slice D m k]) (by simp [results, Tryd.results19, go_sem, q0, q1, q2, q3, q4]) rfl ⟨rfl, G2'.2⟩

set_option maxRecDepth 100000 in
set_option maxHeartbeats 2000000 in
theorem few_any (A : Option Addr) (n c F : Nat) (f : Nat → Ca) (w : World) (h : Cas w F A n f) (hnb : (n : Int) ≤ 9223372036854775807) :
    Calls Tryd.prog 12 #[.slice A n c] w fun e w' => ∃ q, e = .returned (.bool q) ∧ Fr (fun _ => False) w w' := by
  have H := Lib.hid h
  have HNB := Lib.hid hnb
  clear h
  go_enter Tryd.func12, Tryd.ntmps12
  go_wp2_with fail
  go_loopw [3, 4] (fun s i wr => ∃ (k : Nat) (u : Int), k ≤ n ∧ i = .int .i64 k ∧ s = .int .i64 u ∧ Fr (fun _ => False) w wr) (fun _ i _ => n - (intOf i).toNat)
  case atStart => exact ⟨0, 0, Nat.zero_le _, rfl, rfl, Fr.refl _ _⟩
  case round =>
    obtain ⟨k, u, hk, rfl, rfl, hf⟩ := hrel
    have HF := Lib.hid hf
    clear hf
    by_cases hlt : k < n
    · obtain ⟨b, o, rfl, hat⟩ := (H.out.fr HF.out (fun _ _ h => h)) k hlt
      obtain ⟨D, dm, dk, _, _, _, _, p4, _⟩ := hat.pc
      have hlt' : (k : Int) < n := by omega
      have p4' : wr.cell? ⟨b, o + k * 6 + 1 + 4, none⟩ = some (.slice D dm dk) := p4
      have p4'' : wr.cell? ⟨b, o + k * 6 + 5, none⟩ = some (.slice D dm dk) := p4
      clear hat
      go_wp2
      go_roundw
      case rel => exact ⟨k + 1, _, by omega, by go_num, rfl, HF.out⟩
      case measure => simp [intOf]; omega
    · obtain rfl : k = n := by omega
      by_cases h150 : k ≤ 150
      · have g1 : decide (k ≤ 150) = true := decide_eq_true h150
        have g2 : decide ((k : Int) ≤ 150) = true := decide_eq_true (by omega)
        go_wp2
        go_ret
        exact ⟨_, rfl, HF.out⟩
      · have g1 : decide (k ≤ 150) = false := decide_eq_false h150
        have g2 : decide ((k : Int) ≤ 150) = false := decide_eq_false (by omega)
        go_wp2
        go_ret
        exact ⟨_, rfl, HF.out⟩
end Go.Proofs.YtacafjbbdklleaaDoor
