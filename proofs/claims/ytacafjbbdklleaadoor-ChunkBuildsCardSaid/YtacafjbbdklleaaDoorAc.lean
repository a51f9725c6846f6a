/- chunk: isWhole, verdict, built, NewBuilder, Drop, Next. -/
import Derived.Test.YtacafjbbdklleaaDoorAb
namespace Go.Proofs.YtacafjbbdklleaaDoor
open Go.RowKit

theorem Bd.fr {S : Nat → Prop} {w w' : World} {b : Nat} {s : BSt} {v : Value} (h : Bd w b s v) (hf : Fr S w w') (h1 : ¬ S b) (h2 : ∀ k, v.ownBlock = some k → ¬ S k) (h3 : ∀ k, S k → k < w.heap.size → ∃ t cs, Bk w k t cs ∧ t ≠ 36) : Bd w' b s v := by
  refine ⟨h.1, ?_⟩
  rcases h.2 with ⟨e1, e2, hb⟩ | ⟨fb, hb, hp, ho⟩
  · exact .inl ⟨e1, e2, hb.fr hf h1⟩
  · refine .inr ⟨fb, hb.fr hf h1, hp.fr hf (fun hs => ?_), ho.fr hf h2⟩
    obtain ⟨t, cs, hk, hne⟩ := h3 fb hs hp.lt
    exact Bk.ne hk hp hne rfl
theorem Bd.fr0 {w w' : World} {b : Nat} {s : BSt} {v : Value} (h : Bd w b s v) (hf : Fr (fun _ => False) w w') : Bd w' b s v := h.fr hf (fun h => h) (fun _ _ h => h) (fun _ h => h.elim)

theorem isWhole_any (a b c : Int) (u : Nat) (A : Option Addr) (n m : Nat) (w : World) :
    Calls Tryd.prog 34 #[.agg #[.int .i64 a, .int .i64 b, .int .i64 c, .int .u32 u, .slice A n m]] w fun e w' => e = .returned (.bool ((n : Int) == c)) ∧ Fr (fun _ => False) w w' := by
  go_enter Tryd.func34, Tryd.ntmps34
  go_wp2
  go_ret
  exact ⟨rfl, (Fr.refl _ _).alloc _⟩

set_option maxRecDepth 100000 in
set_option maxHeartbeats 2000000 in
theorem verdict_any (s : BSt) (A : Option Addr) (n m : Nat) (w : World) (ht : Tab w) (hr : Rd8 w A s.data) (hn : s.data.length = n) (hb : n ≤ 140737488355328) :
    Calls Tryd.prog 32 #[.agg #[.int .i64 s.id, .int .i64 0, .int .i64 s.total, .int .u32 s.sum, .slice A n m]] w fun e w' => e = .returned (.int .i64 s.doneE) ∧ Fr (fun _ => False) w w' := by
  obtain ⟨id, tot, sum, xs⟩ := s
  have HD : Hid (BSt.doneE ⟨id, tot, sum, xs⟩ = if ¬ ((n : Int) = tot) then 6 else if crcOf xs ≠ sum then 9 else 0) := Lib.hid (by unfold BSt.doneE BSt.whole; rw [← hn])
  have CS : Hid (∀ w', Fr (fun _ => False) w w' → ∀ k, Calls Tryd.prog 35 #[.slice A n m] (w'.drewN k) fun e w2 => e = .returned (.int .u32 (crcOf xs)) ∧ w2 = w'.drewN k) := Lib.hid (fun w' hf k =>
    (sum_any A n m xs (w'.drewN k) ((ht.fr hf (fun h => h)).fr ((Fr.refl (fun _ => False) w').drewN k) (fun h => h)) ((hr.fr hf (fun _ _ _ h => h)).fr ((Fr.refl (fun _ => False) w').drewN k) (fun _ _ _ h => h)) hn hb).mono fun _ _ ⟨h1, h2⟩ => ⟨h1, h2.symm⟩)
  simp only at *
  clear ht hr hn hb
  obtain ⟨g, hg⟩ : ∃ g, w.heap.size = g := ⟨_, rfl⟩
  obtain ⟨W, hW⟩ : ∃ W, w.alloc (.cells #[.int .i64 id, .int .i64 0, .int .i64 tot, .int .u32 sum, .slice A n m] 36) = W := ⟨_, rfl⟩
  have KW : Hid (Bk W g 36 #[.int .i64 id, .int .i64 0, .int .i64 tot, .int .u32 sum, .slice A n m]) := Lib.hid (by rw [← hW, ← hg]; exact Bk.new _ _ _)
  have FW : Hid (Fr (fun _ => False) w W) := Lib.hid (by rw [← hW]; exact (Fr.refl _ _).alloc _)
  have CW := Lib.hid (fun w' => isWhole_any id 0 tot sum A n m w')
  have c0 := KW.out.cell 0
  have c1 := KW.out.cell 1
  have c2 := KW.out.cell 2
  have c3 := KW.out.cell 3
  have c4 := KW.out.cell 4
  by_cases h1 : (n : Int) = tot
  · have d1 : ((n : Int) == tot) = true := by simp [h1]
    have HD1 := Lib.hid h1
    rw [d1] at CW
    clear h1 d1
    obtain ⟨x, hx⟩ : ∃ x, crcOf xs = x := ⟨_, rfl⟩
    rw [hx] at CS HD
    by_cases h2 : x = sum
    · have d2 : ((x : Int) != (sum : Int)) = false := by rw [bne_eq_false_iff_eq]; omega
      have HD2 := Lib.hid h2
      clear h2 hx
      go_enter Tryd.func32, Tryd.ntmps32
      go_wp2_with fail
      clear c0 c1 c2 c3 c4
      refine (CW.out _).mono ?_; rintro e w1 ⟨rfl, hf1⟩
      have F1 := Lib.hid (FW.out.trans hf1 (fun _ _ h => h))
      have k1 := KW.out.fr hf1 (fun h => h)
      have c3 := k1.cell 3
      have c4 := k1.cell 4
      clear k1 hf1
      go_wp2_with fail
      go_quiet (first
        | (go_at_call 35; exact Calls.quiet_of_same (CS.out w1 F1.out _)))
      go_wp2
      go_ret
      refine ⟨?_, F1.out.drewN _⟩
      rw [HD.out, if_neg (fun h => h HD1.out), if_neg (fun h => h HD2.out)]
      rfl
    · have d2 : ((x : Int) != (sum : Int)) = true := by rw [bne_iff_ne]; omega
      have HD2 := Lib.hid h2
      clear h2 hx
      go_enter Tryd.func32, Tryd.ntmps32
      go_wp2_with fail
      clear c0 c1 c2 c3 c4
      refine (CW.out _).mono ?_; rintro e w1 ⟨rfl, hf1⟩
      have F1 := Lib.hid (FW.out.trans hf1 (fun _ _ h => h))
      have k1 := KW.out.fr hf1 (fun h => h)
      have c3 := k1.cell 3
      have c4 := k1.cell 4
      clear k1 hf1
      go_wp2_with fail
      go_quiet (first
        | (go_at_call 35; exact Calls.quiet_of_same (CS.out w1 F1.out _)))
      go_wp2
      go_ret
      refine ⟨?_, F1.out.drewN _⟩
      rw [HD.out, if_neg (fun h => h HD1.out), if_pos HD2.out]
      rfl
  · have d1 : ((n : Int) == tot) = false := by simp [h1]
    have HD1 := Lib.hid h1
    rw [d1] at CW
    clear h1 d1
    go_enter Tryd.func32, Tryd.ntmps32
    go_wp2_with fail
    refine (CW.out _).mono ?_; rintro e w1 ⟨rfl, hf1⟩
    go_wp2
    go_ret
    refine ⟨?_, FW.out.trans hf1 (fun _ _ h => h)⟩
    rw [HD.out, if_pos HD1.out]
    rfl

/-- A piece laid over five cells. -/
def set5 (w : World) (g : Nat) (a b c d e : Value) : World := ((((w.setCell ⟨g, 0, none⟩ a).setCell ⟨g, 1, none⟩ b).setCell ⟨g, 2, none⟩ c).setCell ⟨g, 3, none⟩ d).setCell ⟨g, 4, none⟩ e
theorem Bk.set5 {w : World} {g : Nat} {t : TypeId} {x0 x1 x2 x3 x4 : Value} (h : Bk w g t #[x0, x1, x2, x3, x4]) (a b c d e : Value) : Bk (Go.Proofs.YtacafjbbdklleaaDoor.set5 w g a b c d e) g t #[a, b, c, d, e] :=
  ((((h.set 0 a).set 1 b).set 2 c).set 3 d).set 4 e
theorem Fr.set5 {S : Nat → Prop} {w0 w : World} {g : Nat} (h : Fr S w0 w) (hg : g < w0.heap.size → S g) (a b c d e : Value) : Fr S w0 (Go.Proofs.YtacafjbbdklleaaDoor.set5 w g a b c d e) :=
  Fr.setCell (Fr.setCell (Fr.setCell (Fr.setCell (Fr.setCell h (p := ⟨g, 0, none⟩) hg _) (p := ⟨g, 1, none⟩) hg _) (p := ⟨g, 2, none⟩) hg _) (p := ⟨g, 3, none⟩) hg _) (p := ⟨g, 4, none⟩) hg _
/-- What is there of a builder, by value. -/
def BSt.v (s : BSt) (x : Value) : Value := .agg #[.int .i64 s.id, .int .i64 0, .int .i64 s.total, .int .u32 s.sum, x]
set_option maxRecDepth 100000 in
set_option maxHeartbeats 2000000 in
theorem built_any {w : World} {b : Nat} {s : BSt} {v : Value} (h : Bd w b s v) :
    Calls Tryd.prog 31 #[.pointer (some ⟨b, 0, none⟩)] w fun e w' => e = .returned (s.v v) ∧ Fr (fun _ => False) w w' := by
  obtain ⟨g, hg⟩ : ∃ g, w.heap.size = g := ⟨_, rfl⟩
  obtain ⟨W, hW⟩ : ∃ W, w.alloc (.cells #[.int .i64 0, .int .i64 0, .int .i64 0, .int .u32 0, .slice none 0 0] 36) = W := ⟨_, rfl⟩
  have KW : Bk W g 36 #[.int .i64 0, .int .i64 0, .int .i64 0, .int .u32 0, .slice none 0 0] := by rw [← hW, ← hg]; exact Bk.new _ _ _
  have FW : Hid (Fr (fun _ => False) w W) := Lib.hid (by rw [← hW]; exact (Fr.refl _ _).alloc _)
  have HG := Lib.hid hg
  have f0 := KW.frozen 0
  have f1 := KW.frozen 1
  have f2 := KW.frozen 2
  have f3 := KW.frozen 3
  have f4 := KW.frozen 4
  have z0 := KW.cell 0
  have z1 := KW.cell 1
  have z2 := KW.cell 2
  have z3 := KW.cell 3
  have z4 := KW.cell 4
  rcases h.2 with ⟨rfl, rfl, hb⟩ | ⟨fb, hb, hp, ho⟩
  · have c0 := (hb.fr FW.out (fun h => h)).cell 0
    have G2 : Hid (Bk (set5 W g (.int .i64 (-1)) (.int .i64 0) (.int .i64 (-1)) (.int .u32 0) (.slice none 0 0)) g 36 #[.int .i64 (-1), .int .i64 0, .int .i64 (-1), .int .u32 0, .slice none 0 0] ∧ Fr (fun _ => False) w (set5 W g (.int .i64 (-1)) (.int .i64 0) (.int .i64 (-1)) (.int .u32 0) (.slice none 0 0))) :=
      Lib.hid ⟨KW.set5 .., Fr.set5 FW.out (fun h => by have := HG.out; omega) ..⟩
    clear h hb
    go_enter Tryd.func31, Tryd.ntmps31
    go_wp2
    change bodyPost _ _ _ _ _ (set5 W g (.int .i64 (-1)) (.int .i64 0) (.int .i64 (-1)) (.int .u32 0) (.slice none 0 0))
    have G2' := G2.out
    generalize set5 W g (.int .i64 (-1)) (.int .i64 0) (.int .i64 (-1)) (.int .u32 0) (.slice none 0 0) = w5 at *
    have q0 := G2'.1.cell 0
    have q1 := G2'.1.cell 1
    have q2 := G2'.1.cell 2
    have q3 := G2'.1.cell 3
    have q4 := G2'.1.cell 4
    refine bodyPost_ret (v := BSt.none.v (.slice none 0 0)) (by simp [results, Tryd.results31, go_sem, q0, q1, q2, q3, q4]; rfl) rfl ⟨rfl, G2'.2⟩
  · have c0 := (hb.fr FW.out (fun h => h)).cell 0
    have hp' := hp.fr FW.out (fun h => h)
    have k0 := hp'.cell 0
    have k1 := hp'.cell 1
    have k2 := hp'.cell 2
    have k3 := hp'.cell 3
    have k4 := hp'.cell 4
    have HV := Lib.hid (Own8.form ho)
    unfold BSt.v
    generalize s.id = id at *
    generalize s.total = tot at *
    generalize s.sum = sum at *
    generalize s.data = xs at *
    have G2 : Hid (Bk (set5 W g (.int .i64 id) (.int .i64 0) (.int .i64 tot) (.int .u32 sum) v) g 36 #[.int .i64 id, .int .i64 0, .int .i64 tot, .int .u32 sum, v] ∧ Fr (fun _ => False) w (set5 W g (.int .i64 id) (.int .i64 0) (.int .i64 tot) (.int .u32 sum) v)) :=
      Lib.hid ⟨KW.set5 .., Fr.set5 FW.out (fun h => by have := HG.out; omega) ..⟩
    obtain ⟨A, n, m, rfl⟩ : ∃ A n m, v = .slice A n m := by
      rcases HV.out with ⟨e, _⟩ | ⟨g', cap, e, _⟩
      · exact ⟨_, _, _, e⟩
      · exact ⟨_, _, _, e⟩
    clear h hb hp hp' ho HV
    go_enter Tryd.func31, Tryd.ntmps31
    go_wp2
    change bodyPost _ _ _ _ _ (set5 W g (.int .i64 id) (.int .i64 0) (.int .i64 tot) (.int .u32 sum) (.slice A n m))
    have G2' := G2.out
    generalize set5 W g (.int .i64 id) (.int .i64 0) (.int .i64 tot) (.int .u32 sum) (.slice A n m) = w5 at *
    have q0 := G2'.1.cell 0
    have q1 := G2'.1.cell 1
    have q2 := G2'.1.cell 2
    have q3 := G2'.1.cell 3
    have q4 := G2'.1.cell 4
    refine bodyPost_ret (v := .agg #[.int .i64 id, .int .i64 0, .int .i64 tot, .int .u32 sum, .slice A n m]) (by simp [results, Tryd.results31, go_sem, q0, q1, q2, q3, q4]) rfl ⟨rfl, G2'.2⟩

theorem newBuilder_any (w : World) :
    Calls Tryd.prog 13 #[] w fun e w' => ∃ b, e = .returned (.pointer (some ⟨b, 0, none⟩)) ∧ Bd w' b BSt.none (.slice none 0 0) ∧ Fr (fun _ => False) w w' ∧ w.heap.size ≤ b := by
  go_enter Tryd.func13, Tryd.ntmps13
  go_wp2
  go_ret
  exact ⟨_, rfl, ⟨BSt.none_ok, .inl ⟨rfl, rfl, Bk.new _ _ _⟩⟩, (Fr.refl _ _).alloc _, Nat.le_refl _⟩

theorem drop_any {w : World} {b : Nat} {s : BSt} {v : Value} (h : Bd w b s v) :
    Calls Tryd.prog 16 #[.pointer (some ⟨b, 0, none⟩)] w fun e w' => e = .returned (.tuple #[]) ∧ Bd w' b BSt.none (.slice none 0 0) ∧ Fr (fun x => x = b) w w' := by
  have HB : Hid (∃ cs, Bk w b 79 #[cs]) := Lib.hid (by
    rcases h.2 with ⟨_, _, h⟩ | ⟨_, h, _⟩
    · exact ⟨_, h⟩
    · exact ⟨_, h⟩)
  clear h
  obtain ⟨cs, hb⟩ := HB.out
  have c0 := hb.cell 0
  have f0 := hb.frozen 0
  have H := Lib.hid hb
  clear hb HB
  go_enter Tryd.func16, Tryd.ntmps16
  go_wp2
  refine bodyPost_end (results_none rfl _ _ _) rfl ⟨rfl, ⟨BSt.none_ok, .inl ⟨rfl, rfl, ?_⟩⟩, Fr.setCell (Fr.refl (fun x => x = b) w) (p := ⟨b, 0, none⟩) (fun _ => rfl) _⟩
  exact H.out.set 0 _

set_option maxRecDepth 100000 in
set_option maxHeartbeats 2000000 in
theorem next_any {w : World} {b : Nat} {s : BSt} {v : Value} (h : Bd w b s v) :
    Calls Tryd.prog 20 #[.pointer (some ⟨b, 0, none⟩)] w fun e w' => e = .returned (.tuple #[.int .i64 s.id, .int .i64 (s.data.length : Int)]) ∧ Fr (fun _ => False) w w' := by
  have C := Lib.hid (built_any h)
  have HV := Lib.hid (Own8.form h.own)
  unfold BSt.v at C
  clear h
  generalize s.id = id at *
  generalize s.total = tot at *
  generalize s.sum = sum at *
  generalize s.data = xs at *
  obtain ⟨A, m, rfl⟩ : ∃ A m, v = .slice A xs.length m := by
    rcases HV.out with ⟨e, e2⟩ | ⟨g', cap, e, _⟩
    · exact ⟨_, _, by rw [e, e2]; rfl⟩
    · exact ⟨_, _, e⟩
  clear HV
  generalize xs.length = n at *
  go_enter Tryd.func20, Tryd.ntmps20
  go_wp2_with fail
  refine C.out.mono ?_; rintro e w1 ⟨rfl, hf1⟩
  have F1 := Lib.hid hf1
  clear hf1 C
  go_wp2_with fail
  go_quiet (fail)
  go_wp2
  go_ret2
  refine ⟨rfl, ?_⟩
  exact (F1.out.alloc _).drewN _
end Go.Proofs.YtacafjbbdklleaaDoor
