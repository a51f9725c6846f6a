/- The walk of CodecFrames. -/
import Derived.Test.YtlchihjkeheejaaDoorGc
import Derived.Deep.RegionHeld3
namespace Go.Proofs.YtlchihjkeheejaaDoor
open Go.RowKit

/-- An operation is taken first; the slot that it writes is named (else the frame grows by a layer a take). -/
theorem wpAnyH_takeD {P : Program} {ops : Array Oper} {Q : Exit → Act → World → Prop} {md : Region.Mode} {S : World → Prop} {i : Nat} {oi : Oper} {v : Value} {fuel : Nat} {listed : Array Bool} {a : Act} {w : World} (d : Option Tmp) (hi : ops[i]? = some oi) (hd : oi.dst = d)
    (hs : Region.noSelect ops = true) (hf : Region.free md ops listed i = true) (hr : (Region.ready md ops listed).contains i = true)
    (hQ : ∀ c a w, Q (.panic c) (a.put oi.dst v) w → Q (.panic c) a w) (hy : YieldsIf P ops S oi v a) (hS : S w)
    (h : wpAnyH P md ops Q S fuel (listed.setIfInBounds i true) (a.put d v) w) : wpAnyH P md ops Q S (fuel + 1) listed a w := by
  subst hd
  exact wpAnyH_take hi hs hf hr hQ hy hS h

theorem readFrame_any2 (A : Option Addr) (n c : Nat) (xs : List UInt8) (w : World) (ht : Tab w) (hr : Rd8 w A xs) (hn : xs.length = n) (hnc : (n : Int) ≤ c) (hb : n ≤ 17592186044416) :
    Calls Tryd.prog 19 #[.slice A n c] w (RFPost w (rdFrame xs)) := by
  by_cases h8 : n < 8
  · exact rf_short A n c xs w hn (by omega)
  · obtain ⟨ad, rfl, hsp, hc⟩ := hr (by omega)
    exact readFrame_any _ n c xs w ht hr (fun ad' e => by injection e with e; subst e; exact hsp) hn hnc hb
theorem refReadFrame_any2 (A : Option Addr) (n c : Nat) (xs : List UInt8) (w : World) (hr : Rd8 w A xs) (hn : xs.length = n) (hnc : (n : Int) ≤ c) (hb : n ≤ 17592186044416) :
    Calls Tryd.prog 20 #[.slice A n c] w (RefRF w (rdFrame xs)) :=
  refReadFrame_any A n c xs w hr (fun ad e h0 => by obtain ⟨ad', e', hsp, _⟩ := hr (by omega); rw [e] at e'; injection e' with e'; subst e'; exact hsp) hn hnc hb
theorem rdFrame_bad {xs : List UInt8} {er p : Nat} {what : ByteArray} (h : rdFrame xs = .bad er p what) : Bad4 er ∧ p ≤ 8 ∧ what.size ≤ 6 := by
  unfold rdFrame at h
  split at h
  · injection h with h1 h2 h3; subst h1 h2 h3; exact ⟨.inl rfl, by decide, by decide⟩
  split at h
  · injection h with h1 h2 h3; subst h1 h2 h3; exact ⟨.inr (.inr (.inl rfl)), by decide, by decide⟩
  split at h
  · injection h with h1 h2 h3; subst h1 h2 h3; exact ⟨.inr (.inr (.inr rfl)), by decide, by decide⟩
  split at h
  · injection h with h1 h2 h3; subst h1 h2 h3; exact ⟨.inl rfl, by decide, by decide⟩
  split at h
  · injection h with h1 h2 h3; subst h1 h2 h3; exact ⟨.inr (.inr (.inl rfl)), by decide, by decide⟩
  · cases h
theorem rdFrame_good {xs b : List UInt8} {m : Nat} (h : rdFrame xs = .good b m) : b.length ≤ xs.length := by
  unfold rdFrame at h
  split at h; · cases h
  split at h; · cases h
  split at h; · cases h
  split at h; · cases h
  split at h; · cases h
  injection h with h1 h2; subst h1; simp; omega

set_option maxRecDepth 100000 in
set_option maxHeartbeats 8000000 in
theorem frames_any (A : Option Addr) (n c : Nat) (xs : List UInt8) (A2 : Option Addr) (n2 c2 : Nat) (ys : List UInt8) (w : World) (ht : Tab w) (hE : ErrT w) (hP : PowT w)
    (hr : Rd8 w A xs) (hn : xs.length = n) (hr2 : Rd8 w A2 ys) (hn2 : ys.length = n2) (hnc2 : n2 ≤ c2) :
    Calls Tryd.prog 4 #[.slice A n c, .slice A2 n2 c2] w fun e w' => e = .returned (.bool true) ∧ Fr (fun _ => False) w w' := by
  by_cases hm : (8192 : Int) < n
  · go_enter Tryd.func4, Tryd.ntmps4
    go_wp2_with fail
    refine (known_any _ ht hE).mono ?_; rintro e w1 ⟨rfl, hf1⟩
    go_wp2
    go_ret
    exact ⟨rfl, hf1⟩
  by_cases hm2 : (8192 : Int) < n2
  · have hm' : decide ((8192 : Int) < n) = false := by simpa using hm
    go_enter Tryd.func4, Tryd.ntmps4
    go_wp2_with fail
    refine (known_any _ ht hE).mono ?_; rintro e w1 ⟨rfl, hf1⟩
    go_wp2
    go_ret
    exact ⟨rfl, hf1⟩
  have hm' : (n : Int) ≤ 8192 := by omega
  have hm2' : (n2 : Int) ≤ 8192 := by omega
  clear hm hm2
  have HT := Lib.hid (fun w' (hf : Fr (fun _ => False) w w') => ht.fr hf (fun h => h))
  have HE := Lib.hid (fun w' (hf : Fr (fun _ => False) w w') => hE.fr hf (fun h => h))
  have HP := Lib.hid (fun w' (hf : Fr (fun _ => False) w w') => hP.fr hf (fun h => h))
  have HR := Lib.hid (fun w' (hf : Fr (fun _ => False) w w') => hr.fr hf (fun _ _ _ h => h))
  have HR2 := Lib.hid (fun w' (hf : Fr (fun _ => False) w w') => hr2.fr hf (fun _ _ _ h => h))
  have KN := Lib.hid (known_any w ht hE)
  have HN := Lib.hid hn
  have HN2 := Lib.hid hn2
  clear ht hE hP hr hr2 hn hn2
  go_enter Tryd.func4, Tryd.ntmps4
  go_wp2_with fail
  refine KN.out.mono ?_; rintro e w1 ⟨rfl, hf1⟩
  clear KN
  go_wp2_with fail
  refine (frame_any A n c xs w1 (HT.out _ hf1) (HR.out _ hf1) HN.out (by omega)).mono ?_; rintro e w2 ⟨A3, c3, rfl, ho3, hfr3⟩
  have hf2 := hf1.trans hfr3.1 (fun _ _ h => h)
  clear hf1 hfr3
  go_wp2_with fail
  refine (readFrame_any2 A2 n2 c2 ys w2 (HT.out _ hf2) (HR2.out _ hf2) HN2.out (by omega) (by omega)).mono ?_
  have hR : ∃ R, R = rdFrame ys := ⟨_, rfl⟩
  obtain ⟨R, hR⟩ := hR
  have CR := Lib.hid (fun w' (hf : Fr (fun _ => False) w w') => refReadFrame_any2 A2 n2 c2 ys w' (HR2.out _ hf) HN2.out (by omega) (by omega))
  rw [← hR] at CR ⊢
  have HRR := Lib.hid hR
  clear hR
  cases R with
  | bad er p what =>
    rintro e w3 ⟨fb, rfl, hfa, hf3, _⟩
    obtain ⟨hb4, hp8, hws⟩ := rdFrame_bad HRR.out.symm
    have hf3w := hf2.trans hf3 (fun _ _ h => h)
    have ho3a := ho3.fr hf3 (fun _ _ h => h)
    unfold faultV
    clear hf2 hf3 ho3
    go_wp2_with fail
    refine (CR.out _ hf3w).mono ?_
    rintro e w4 ⟨rfl, hf4⟩
    have hf4w := hf3w.trans hf4 (fun _ _ h => h)
    have ho4 := ho3a.fr hf4 (fun _ _ h => h)
    have hfa4 : FaultAt w4 fb er p what := Bk.fr hfa hf4 (fun h => h)
    clear hf3w hf4 ho3a hfa
    have LF0 : (frameOf xs).length = n + 12 := by
      have := HN.out
      unfold frameOf
      simp [four]; omega
    have HG2 := Lib.hid (rdFrame_frameOf xs ys (by have := HN.out; omega))
    rw [HN.out] at HG2
    generalize hFF : frameOf xs = F at *
    have HFF := Lib.hid hFF
    clear hFF
    have LF := Lib.hid LF0
    clear LF0
    have hbox : Fr (fun _ => False) w4 (w4.alloc (.cells #[.int .i64 er, .int .i64 p, .string what] 44)) := (Fr.refl _ _).alloc _
    have hBx : Bk (w4.alloc (.cells #[.int .i64 er, .int .i64 p, .string what] 44)) w4.heap.size 44 #[.int .i64 er, .int .i64 p, .string what] := Bk.new w4 _ _
    have hsz : (w4.alloc (.cells #[.int .i64 er, .int .i64 p, .string what] 44)).heap.size = w4.heap.size + 1 := by simp
    have ho0 : Own8 ((w4.alloc (.cells #[.int .i64 er, .int .i64 p, .string what] 44)).alloc (.cells #[] 5)) 5 (.slice (some ⟨w4.heap.size + 1, 0, none⟩) 0 0) [] := by
      have := Own8.fresh (w4.alloc (.cells #[.int .i64 er, .int .i64 p, .string what] 44)) 5 #[] 0 rfl (by unfold maxLen; omega)
      rw [hsz] at this; exact this
    have hfr0 : Fresh (w4.alloc (.cells #[.int .i64 er, .int .i64 p, .string what] 44)) ((w4.alloc (.cells #[.int .i64 er, .int .i64 p, .string what] 44)).alloc (.cells #[] 5)) (.slice (some ⟨w4.heap.size + 1, 0, none⟩) 0 0) := by
      have := Fresh.new (w4.alloc (.cells #[.int .i64 er, .int .i64 p, .string what] 44)) (.cells #[] 5) 0 0
      rw [hsz] at this; exact this
    have H0 := Lib.hid hfr0.1
    have hrf : Rd8 ((w4.alloc (.cells #[.int .i64 er, .int .i64 p, .string what] 44)).alloc (.cells #[] 5)) A3 F := (ho4.fr (hbox.trans hfr0.1 (fun _ _ h => h)) (fun _ _ h => h)).rd
    have rel5 : ∀ A5 c5 w5, Own8 w5 5 (.slice A5 (([] : List UInt8).length + F.length) c5) ([] ++ F) → Fr (fun k => (Value.slice (some ⟨w4.heap.size + 1, 0, none⟩) 0 0).ownBlock = some k) ((w4.alloc (.cells #[.int .i64 er, .int .i64 p, .string what] 44)).alloc (.cells #[] 5)) w5 →
        Moved ((w4.alloc (.cells #[.int .i64 er, .int .i64 p, .string what] 44)).alloc (.cells #[] 5)) (.slice (some ⟨w4.heap.size + 1, 0, none⟩) 0 0) (.slice A5 (([] : List UInt8).length + F.length) c5) →
        Own8 w5 5 (.slice A5 (n + 12) c5) F ∧ Fresh (w4.alloc (.cells #[.int .i64 er, .int .i64 p, .string what] 44)) w5 (.slice A5 (n + 12) c5) ∧ Rd8 w5 A2 ys := fun A5 c5 w5 h1 h2 h3 => by
      have h4 := hfr0.step h2 h3
      simp only [List.length_nil, Nat.zero_add, List.nil_append, LF.out] at h1 h4
      exact ⟨h1, h4, HR2.out _ (hf4w.trans (hbox.trans h4.1 (fun _ _ h => h)) (fun _ _ h => h))⟩
    have REL5 := Lib.hid rel5
    have L5 := Lib.hid (show ([] : List UInt8).length + F.length = n + 12 by simp [LF.out])
    have hn2 := HN2.out
    clear rel5 hfr0
    have HN2b := Lib.hid hn2
    clear hn2
    go_wp2_with (first
      | (at_builtin; refine wpList_append8s _ rfl (.tmp 40) (.tmp 41) Tryd.t8 rfl (.slice (some ⟨w4.heap.size + 1, 0, none⟩) 0 0) [] rfl ho0 A3 (n + 12) c3 F rfl LF.out hrf (by rw [L5.out]; omega) ?_; intro A5 c5 w5 ho5 hf5 hm5; obtain ⟨hp5, hfr5, hrx5⟩ := REL5.out _ _ _ ho5 hf5 hm5; rw [L5.out]; clear ho5 hf5 hm5)
      | (at_builtin; refine wpList_append8s _ rfl (.tmp 42) (.tmp 43) Tryd.t8 rfl (.slice A5 (n + 12) c5) F rfl hp5 A2 n2 c2 ys rfl HN2.out hrx5 (by rw [LF.out, HN2.out]; omega) ?_; intro A6 c6 w6 ho6 hf6 hm6))
    have hfr6 := hfr5.step hf6 hm6
    rw [LF.out, HN2.out] at ho6 hfr6 ⊢
    have hf6w := hf4w.trans (hbox.trans hfr6.1 (fun _ _ h => h)) (fun _ _ h => h)
    have l6 : (F ++ ys).length = n + 12 + n2 := by simp [LF.out, HN2.out]
    have hcap : n + 12 + n2 ≤ c6 := by
      rcases ho6.form with ⟨e, h0⟩ | ⟨g, cap, e, h1, _⟩
      · have := congrArg List.length h0; rw [l6] at this; simp at this
      · injection e with _ _ e; rw [e]; rw [l6] at h1; exact h1
    refine (readFrame_any2 A6 (n + 12 + n2) c6 (F ++ ys) w6 (HT.out _ hf6w) ho6.rd l6 (by omega) (by omega)).mono ?_
    rw [HG2.out]
    rintro e w7 ⟨A7, c7, rfl, ho7, hfr7⟩
    have hW7 : Fr (fun _ => False) w w7 := hf6w.trans hfr7.1 (fun _ _ h => h)
    have h47 : Fr (fun _ => False) w4 w7 := hbox.trans (hfr6.1.trans hfr7.1 (fun _ _ h => h)) (fun _ _ h => h)
    have hBx7 := (hBx.fr hfr6.1 (fun h => h)).fr hfr7.1 (fun h => h)
    have ho47 := ho4.fr h47 (fun _ _ h => h)
    clear hBx hsz ho0 H0 hrf REL5 L5 hp5 hfr5 hrx5 hf6 hm6 ho6 hfr6 hf6w l6 hcap hfr7 hbox ho4 hf4w HN2b
    have hfa7 : FaultAt w7 fb er p what := Bk.fr hfa4 h47 (fun h => h)
    clear hfa4 h47
    rw [HN.out]
    go_upto_region 9 with (fail)
    have ho7r := ho7.rd
    have LX := Lib.hid (show ([] : List UInt8).length = 0 from rfl)
    have FB := Lib.hid (fun w' (hf : Fr (fun _ => False) w7 w') => run_str8 Tryd.t8 Tryd.underlying5 Tryd.underlying9 c (HR.out w' (hW7.trans hf (fun _ _ h => h))) HN.out)
    have FF := Lib.hid (fun w' (hf : Fr (fun _ => False) w7 w') => run_str8 Tryd.t8 Tryd.underlying5 Tryd.underlying9 c3 (ho47.rd.fr hf (fun _ _ _ h => h)) LF.out)
    have FZ := Lib.hid (fun w' (hf : Fr (fun _ => False) w7 w') => run_str8 Tryd.t8 Tryd.underlying5 Tryd.underlying9 c7 (ho7r.fr hf (fun _ _ _ h => h)) HN.out)
    have FQ := Lib.hid (fun w' (hf : Fr (fun _ => False) w7 w') => And.intro ((hBx7.fr hf (fun h => h)).cell 0) (And.intro ((hBx7.fr hf (fun h => h)).cell 1) ((hBx7.fr hf (fun h => h)).cell 2)))
    have FX := Lib.hid (fun w' (_ : Fr (fun _ => False) w7 w') => run_str8 Tryd.t8 Tryd.underlying5 Tryd.underlying9 (n := 0) 0 (Rd8.nil w' none) rfl)
    have FY := FX
    have b0 : ((crcOf xs : Int) == (crcOf xs : Int)) = true := by simp
    have b1 : ((strOf F).toList == (strOf F).toList) = true := by simp
    have b2 : ((strOf []).toList == (strOf []).toList) = true := by simp
    have b3 : ((strOf xs).toList == (strOf xs).toList) = true := by simp
    have b4 : (((12 + n : Nat) : Int) == ((n + 12 : Nat) : Int)) = true := by rw [beq_iff_eq]; omega
    have b5 : ((12 + (n : Int)) == ((n : Int) + 12)) = true := by rw [beq_iff_eq]; omega
    refine wp_region_held_drew (S := fun w' => Fr (fun _ => False) w7 w') (by kernel_rfl) ((Fr.refl _ _).drew) (fun hHeld => ?_)
    refine wpAnyH_takeD (i := 0) (v := ?_) (some 49) rfl rfl (by kernel_rfl) (by kernel_rfl) (by kernel_rfl) (fun _ _ _ h => h) (Or.inl ⟨by rfl, ?_⟩) (by assumption) ?_
    rotate_left
    · intro w' hSw
      go_simp
      first | done | with_reducible rfl
    try simp only [Act.put, List.setIfInBounds_toArray, List.set_cons_zero, List.set_cons_succ]
    refine wpAnyH_takeD (i := 2) (v := ?_) (some 51) rfl rfl (by kernel_rfl) (by kernel_rfl) (by kernel_rfl) (fun _ _ _ h => h) (Or.inl ⟨by rfl, ?_⟩) (by assumption) ?_
    rotate_left
    · intro w' hSw
      go_simp
      first | done | with_reducible rfl
    try simp only [Act.put, List.setIfInBounds_toArray, List.set_cons_zero, List.set_cons_succ]
    refine wpAnyH_ready (rs := [1]) (by kernel_rfl) (by simp) ?_
    refine AllReadyH.cons rfl (fun K hK => ?_) AllReadyH.nil
    go_simp
    refine (sum_any A n c xs _ (HT.out _ (hW7.trans hHeld (fun _ _ h => h))) (HR.out _ (hW7.trans hHeld (fun _ _ h => h))) HN.out (by omega)).mono ?_; rintro e _ ⟨rfl, rfl⟩
    try go_simp
    refine hK.out _ _ (hHeld) (fun hHeld => ?_)
    clear hK K
    try change wpAnyH _ _ _ _ _ _ _ (Act.put _ (some 50) _) _
    try simp only [Act.put, List.setIfInBounds_toArray, List.set_cons_zero, List.set_cons_succ]
    refine wpAnyH_ready (rs := [3]) (by kernel_rfl) (by simp) ?_
    refine AllReadyH.cons rfl (fun K hK => ?_) AllReadyH.nil
    go_simp
    refine (refSum_any A n c xs _ (HR.out _ (hW7.trans hHeld (fun _ _ h => h))) HN.out (by omega)).mono ?_; rintro e _ ⟨rfl, rfl⟩
    try go_simp
    refine hK.out _ _ (hHeld) (fun hHeld => ?_)
    clear hK K
    try change wpAnyH _ _ _ _ _ _ _ (Act.put _ (some 52) _) _
    try simp only [Act.put, List.setIfInBounds_toArray, List.set_cons_zero, List.set_cons_succ]
    refine wpAnyH_takeD (i := 4) (v := ?_) (some 53) rfl rfl (by kernel_rfl) (by kernel_rfl) (by kernel_rfl) (fun _ _ _ h => h) (Or.inl ⟨by rfl, ?_⟩) (by assumption) ?_
    rotate_left
    · intro w' hSw
      go_simp
      first | done | with_reducible rfl
    try simp only [Act.put, List.setIfInBounds_toArray, List.set_cons_zero, List.set_cons_succ]
    refine wpAnyH_takeD (i := 5) (v := ?_) (some 54) rfl rfl (by kernel_rfl) (by kernel_rfl) (by kernel_rfl) (fun _ _ _ h => h) (Or.inl ⟨by rfl, ?_⟩) (by assumption) ?_
    rotate_left
    · intro w' hSw
      go_simp
      first | done | with_reducible rfl
    try simp only [Act.put, List.setIfInBounds_toArray, List.set_cons_zero, List.set_cons_succ]
    refine wpAnyH_takeD (i := 6) (v := ?_) (some 55) rfl rfl (by kernel_rfl) (by kernel_rfl) (by kernel_rfl) (fun _ _ _ h => h) (Or.inl ⟨by rfl, ?_⟩) (by assumption) ?_
    rotate_left
    · intro w' hSw
      go_simp
      first | done | with_reducible rfl
    try simp only [Act.put, List.setIfInBounds_toArray, List.set_cons_zero, List.set_cons_succ]
    refine wpAnyH_takeD (i := 7) (v := ?_) (some 56) rfl rfl (by kernel_rfl) (by kernel_rfl) (by kernel_rfl) (fun _ _ _ h => h) (Or.inl ⟨by rfl, ?_⟩) (by assumption) ?_
    rotate_left
    · intro w' hSw
      have s1 := FF.out w' hSw
      go_simp
      first | done | with_reducible rfl
    try simp only [Act.put, List.setIfInBounds_toArray, List.set_cons_zero, List.set_cons_succ]
    refine wpAnyH_takeD (i := 8) (v := ?_) (some 57) rfl rfl (by kernel_rfl) (by kernel_rfl) (by kernel_rfl) (fun _ _ _ h => h) (Or.inl ⟨by rfl, ?_⟩) (by assumption) ?_
    rotate_left
    · intro w' hSw
      go_simp
      first | done | with_reducible rfl
    try simp only [Act.put, List.setIfInBounds_toArray, List.set_cons_zero, List.set_cons_succ]
    refine wpAnyH_ready (rs := [9]) (by kernel_rfl) (by simp) ?_
    refine AllReadyH.cons rfl (fun K hK => ?_) AllReadyH.nil
    go_simp
    refine (refFrame_any A n c xs _ (HR.out _ (hW7.trans hHeld (fun _ _ h => h))) HN.out (by omega)).mono ?_; rintro e v1 ⟨A8, c8, rfl, ho8, hfr8⟩
    rw [HFF.out] at ho8
    have s8 := run_str8 Tryd.t8 Tryd.underlying5 Tryd.underlying9 c8 ho8.rd LF.out
    try go_simp
    refine hK.out _ _ (Fr.trans hHeld hfr8.1 (fun _ _ h => h)) (fun hHeld => ?_)
    clear hK K
    try change wpAnyH _ _ _ _ _ _ _ (Act.put _ (some 58) _) _
    try simp only [Act.put, List.setIfInBounds_toArray, List.set_cons_zero, List.set_cons_succ]
    refine wpAnyH_ready (rs := [10]) (by kernel_rfl) (by simp) ?_
    refine AllReadyH.cons rfl (fun K hK => ?_) AllReadyH.nil
    go_simp
    refine hK.out _ _ (hHeld) (fun hHeld => ?_)
    clear hK K
    try change wpAnyH _ _ _ _ _ _ _ (Act.put _ (some 59) _) _
    try simp only [Act.put, List.setIfInBounds_toArray, List.set_cons_zero, List.set_cons_succ]
    clear s8 ho8 hfr8
    refine wpAnyH_takeD (i := 11) (v := ?_) (some 60) rfl rfl (by kernel_rfl) (by kernel_rfl) (by kernel_rfl) (fun _ _ _ h => h) (Or.inl ⟨by rfl, ?_⟩) (by assumption) ?_
    rotate_left
    · intro w' hSw
      go_simp
      first | done | with_reducible rfl
    try simp only [Act.put, List.setIfInBounds_toArray, List.set_cons_zero, List.set_cons_succ]
    refine wpAnyH_takeD (i := 12) (v := ?_) (some 61) rfl rfl (by kernel_rfl) (by kernel_rfl) (by kernel_rfl) (fun _ _ _ h => h) (Or.inl ⟨by rfl, ?_⟩) (by assumption) ?_
    rotate_left
    · intro w' hSw
      go_simp
      first | done | with_reducible rfl
    try simp only [Act.put, List.setIfInBounds_toArray, List.set_cons_zero, List.set_cons_succ]
    refine wpAnyH_takeD (i := 13) (v := ?_) (some 62) rfl rfl (by kernel_rfl) (by kernel_rfl) (by kernel_rfl) (fun _ _ _ h => h) (Or.inl ⟨by rfl, ?_⟩) (by assumption) ?_
    rotate_left
    · intro w' hSw
      go_simp
      first | done | with_reducible rfl
    try simp only [Act.put, List.setIfInBounds_toArray, List.set_cons_zero, List.set_cons_succ]
    refine wpAnyH_takeD (i := 14) (v := ?_) (some 63) rfl rfl (by kernel_rfl) (by kernel_rfl) (by kernel_rfl) (fun _ _ _ h => h) (Or.inl ⟨by rfl, ?_⟩) (by assumption) ?_
    rotate_left
    · intro w' hSw
      go_simp
      first | done | with_reducible rfl
    try simp only [Act.put, List.setIfInBounds_toArray, List.set_cons_zero, List.set_cons_succ]
    refine wpAnyH_takeD (i := 15) (v := ?_) (some 64) rfl rfl (by kernel_rfl) (by kernel_rfl) (by kernel_rfl) (fun _ _ _ h => h) (Or.inl ⟨by rfl, ?_⟩) (by assumption) ?_
    rotate_left
    · intro w' hSw
      have s1 := FX.out w' hSw
      go_simp
      first | done | with_reducible rfl
    try simp only [Act.put, List.setIfInBounds_toArray, List.set_cons_zero, List.set_cons_succ]
    refine wpAnyH_takeD (i := 16) (v := ?_) (some 65) rfl rfl (by kernel_rfl) (by kernel_rfl) (by kernel_rfl) (fun _ _ _ h => h) (Or.inl ⟨by rfl, ?_⟩) (by assumption) ?_
    rotate_left
    · intro w' hSw
      go_simp
      first | done | with_reducible rfl
    try simp only [Act.put, List.setIfInBounds_toArray, List.set_cons_zero, List.set_cons_succ]
    refine wpAnyH_takeD (i := 17) (v := ?_) (some 66) rfl rfl (by kernel_rfl) (by kernel_rfl) (by kernel_rfl) (fun _ _ _ h => h) (Or.inl ⟨by rfl, ?_⟩) (by assumption) ?_
    rotate_left
    · intro w' hSw
      have s1 := FY.out w' hSw
      go_simp
      first | done | with_reducible rfl
    try simp only [Act.put, List.setIfInBounds_toArray, List.set_cons_zero, List.set_cons_succ]
    refine wpAnyH_takeD (i := 18) (v := ?_) (some 67) rfl rfl (by kernel_rfl) (by kernel_rfl) (by kernel_rfl) (fun _ _ _ h => h) (Or.inl ⟨by rfl, ?_⟩) (by assumption) ?_
    rotate_left
    · intro w' hSw
      go_simp
      first | done | with_reducible rfl
    try simp only [Act.put, List.setIfInBounds_toArray, List.set_cons_zero, List.set_cons_succ]
    refine wpAnyH_takeD (i := 19) (v := ?_) (some 68) rfl rfl (by kernel_rfl) (by kernel_rfl) (by kernel_rfl) (fun _ _ _ h => h) (Or.inl ⟨by rfl, ?_⟩) (by assumption) ?_
    rotate_left
    · intro w' hSw
      go_simp
      first | done | with_reducible rfl
    try simp only [Act.put, List.setIfInBounds_toArray, List.set_cons_zero, List.set_cons_succ]
    refine wpAnyH_takeD (i := 20) (v := ?_) (some 69) rfl rfl (by kernel_rfl) (by kernel_rfl) (by kernel_rfl) (fun _ _ _ h => h) (Or.inl ⟨by rfl, ?_⟩) (by assumption) ?_
    rotate_left
    · intro w' hSw
      go_simp
      first | done | with_reducible rfl
    try simp only [Act.put, List.setIfInBounds_toArray, List.set_cons_zero, List.set_cons_succ]
    refine wpAnyH_takeD (i := 21) (v := ?_) (some 70) rfl rfl (by kernel_rfl) (by kernel_rfl) (by kernel_rfl) (fun _ _ _ h => h) (Or.inl ⟨by rfl, ?_⟩) (by assumption) ?_
    rotate_left
    · intro w' hSw
      go_simp
      first | done | with_reducible rfl
    try simp only [Act.put, List.setIfInBounds_toArray, List.set_cons_zero, List.set_cons_succ]
    refine wpAnyH_takeD (i := 22) (v := ?_) (some 71) rfl rfl (by kernel_rfl) (by kernel_rfl) (by kernel_rfl) (fun _ _ _ h => h) (Or.inl ⟨by rfl, ?_⟩) (by assumption) ?_
    rotate_left
    · intro w' hSw
      go_simp
      first | done | with_reducible rfl
    try simp only [Act.put, List.setIfInBounds_toArray, List.set_cons_zero, List.set_cons_succ]
    refine wpAnyH_takeD (i := 23) (v := ?_) (some 72) rfl rfl (by kernel_rfl) (by kernel_rfl) (by kernel_rfl) (fun _ _ _ h => h) (Or.inl ⟨by rfl, ?_⟩) (by assumption) ?_
    rotate_left
    · intro w' hSw
      go_simp
      first | done | with_reducible rfl
    try simp only [Act.put, List.setIfInBounds_toArray, List.set_cons_zero, List.set_cons_succ]
    refine wpAnyH_takeD (i := 24) (v := ?_) (some 73) rfl rfl (by kernel_rfl) (by kernel_rfl) (by kernel_rfl) (fun _ _ _ h => h) (Or.inl ⟨by rfl, ?_⟩) (by assumption) ?_
    rotate_left
    · intro w' hSw
      go_simp
      first | done | with_reducible rfl
    try simp only [Act.put, List.setIfInBounds_toArray, List.set_cons_zero, List.set_cons_succ]
    refine wpAnyH_takeD (i := 25) (v := ?_) (some 74) rfl rfl (by kernel_rfl) (by kernel_rfl) (by kernel_rfl) (fun _ _ _ h => h) (Or.inl ⟨by rfl, ?_⟩) (by assumption) ?_
    rotate_left
    · intro w' hSw
      go_simp
      first | done | with_reducible rfl
    try simp only [Act.put, List.setIfInBounds_toArray, List.set_cons_zero, List.set_cons_succ]
    refine wpAnyH_takeD (i := 26) (v := ?_) (some 75) rfl rfl (by kernel_rfl) (by kernel_rfl) (by kernel_rfl) (fun _ _ _ h => h) (Or.inl ⟨by rfl, ?_⟩) (by assumption) ?_
    rotate_left
    · intro w' hSw
      go_simp
      first | done | with_reducible rfl
    try simp only [Act.put, List.setIfInBounds_toArray, List.set_cons_zero, List.set_cons_succ]
    refine wpAnyH_takeD (i := 27) (v := ?_) (some 76) rfl rfl (by kernel_rfl) (by kernel_rfl) (by kernel_rfl) (fun _ _ _ h => h) (Or.inl ⟨by rfl, ?_⟩) (by assumption) ?_
    rotate_left
    · intro w' hSw
      obtain ⟨q0, q1, q2⟩ := FQ.out w' hSw
      simp only [List.getElem?_toArray, List.getElem?_cons_zero, List.getElem?_cons_succ] at q0 q1 q2
      go_simp
      first | done | with_reducible rfl
    try simp only [Act.put, List.setIfInBounds_toArray, List.set_cons_zero, List.set_cons_succ]
    refine wpAnyH_ready (rs := [28]) (by kernel_rfl) (by simp) ?_
    refine AllReadyH.cons rfl (fun K hK => ?_) AllReadyH.nil
    go_simp
    refine (show Calls Tryd.prog 24 #[.iface 88 (.pointer (some ⟨fb, 0, none⟩)), .agg #[.int .i64 er, .int .i64 p, .string what]] _ _ from same_fault fb er p what _ hb4 (by omega) (by omega) (HP.out _ (hW7.trans hHeld (fun _ _ h => h))) (HE.out _ (hW7.trans hHeld (fun _ _ h => h))) (Bk.fr hfa7 hHeld (fun h => h))).mono ?_; rintro e v2 ⟨rfl, hf9⟩
    try go_simp
    refine hK.out _ _ (Fr.trans hHeld hf9 (fun _ _ h => h)) (fun hHeld => ?_)
    clear hK K
    try change wpAnyH _ _ _ _ _ _ _ (Act.put _ (some 77) _) _
    try simp only [Act.put, List.setIfInBounds_toArray, List.set_cons_zero, List.set_cons_succ]
    refine wpAnyH_takeD (i := 29) (v := ?_) (some 78) rfl rfl (by kernel_rfl) (by kernel_rfl) (by kernel_rfl) (fun _ _ _ h => h) (Or.inl ⟨by rfl, ?_⟩) (by assumption) ?_
    rotate_left
    · intro w' hSw
      go_simp
      first | done | with_reducible rfl
    try simp only [Act.put, List.setIfInBounds_toArray, List.set_cons_zero, List.set_cons_succ]
    refine wpAnyH_takeD (i := 30) (v := ?_) (some 79) rfl rfl (by kernel_rfl) (by kernel_rfl) (by kernel_rfl) (fun _ _ _ h => h) (Or.inl ⟨by rfl, ?_⟩) (by assumption) ?_
    rotate_left
    · intro w' hSw
      go_simp
      first | done | with_reducible rfl
    try simp only [Act.put, List.setIfInBounds_toArray, List.set_cons_zero, List.set_cons_succ]
    refine wpAnyH_takeD (i := 31) (v := ?_) (some 80) rfl rfl (by kernel_rfl) (by kernel_rfl) (by kernel_rfl) (fun _ _ _ h => h) (Or.inl ⟨by rfl, ?_⟩) (by assumption) ?_
    rotate_left
    · intro w' hSw
      go_simp
      first | done | with_reducible rfl
    try simp only [Act.put, List.setIfInBounds_toArray, List.set_cons_zero, List.set_cons_succ]
    refine wpAnyH_takeD (i := 32) (v := ?_) (some 81) rfl rfl (by kernel_rfl) (by kernel_rfl) (by kernel_rfl) (fun _ _ _ h => h) (Or.inl ⟨by rfl, ?_⟩) (by assumption) ?_
    rotate_left
    · intro w' hSw
      have s1 := FZ.out w' hSw
      go_simp
      first | done | with_reducible rfl
    try simp only [Act.put, List.setIfInBounds_toArray, List.set_cons_zero, List.set_cons_succ]
    refine wpAnyH_takeD (i := 33) (v := ?_) (some 82) rfl rfl (by kernel_rfl) (by kernel_rfl) (by kernel_rfl) (fun _ _ _ h => h) (Or.inl ⟨by rfl, ?_⟩) (by assumption) ?_
    rotate_left
    · intro w' hSw
      go_simp
      first | done | with_reducible rfl
    try simp only [Act.put, List.setIfInBounds_toArray, List.set_cons_zero, List.set_cons_succ]
    refine wpAnyH_takeD (i := 34) (v := ?_) (some 83) rfl rfl (by kernel_rfl) (by kernel_rfl) (by kernel_rfl) (fun _ _ _ h => h) (Or.inl ⟨by rfl, ?_⟩) (by assumption) ?_
    rotate_left
    · intro w' hSw
      have s1 := FB.out w' hSw
      go_simp
      first | done | with_reducible rfl
    try simp only [Act.put, List.setIfInBounds_toArray, List.set_cons_zero, List.set_cons_succ]
    refine wpAnyH_takeD (i := 35) (v := ?_) (some 84) rfl rfl (by kernel_rfl) (by kernel_rfl) (by kernel_rfl) (fun _ _ _ h => h) (Or.inl ⟨by rfl, ?_⟩) (by assumption) ?_
    rotate_left
    · intro w' hSw
      go_simp
      first | done | with_reducible rfl
    try simp only [Act.put, List.setIfInBounds_toArray, List.set_cons_zero, List.set_cons_succ]
    refine wpAnyH_takeD (i := 36) (v := ?_) (some 85) rfl rfl (by kernel_rfl) (by kernel_rfl) (by kernel_rfl) (fun _ _ _ h => h) (Or.inl ⟨by rfl, ?_⟩) (by assumption) ?_
    rotate_left
    · intro w' hSw
      go_simp
      first | done | with_reducible rfl
    try simp only [Act.put, List.setIfInBounds_toArray, List.set_cons_zero, List.set_cons_succ]
    refine wpAnyH_takeD (i := 37) (v := ?_) (some 86) rfl rfl (by kernel_rfl) (by kernel_rfl) (by kernel_rfl) (fun _ _ _ h => h) (Or.inl ⟨by rfl, ?_⟩) (by assumption) ?_
    rotate_left
    · intro w' hSw
      go_simp
      first | done | with_reducible rfl
    try simp only [Act.put, List.setIfInBounds_toArray, List.set_cons_zero, List.set_cons_succ]
    refine wpAnyH_takeD (i := 38) (v := ?_) (some 87) rfl rfl (by kernel_rfl) (by kernel_rfl) (by kernel_rfl) (fun _ _ _ h => h) (Or.inl ⟨by rfl, ?_⟩) (by assumption) ?_
    rotate_left
    · intro w' hSw
      go_simp
      first | done | with_reducible rfl
    try simp only [Act.put, List.setIfInBounds_toArray, List.set_cons_zero, List.set_cons_succ]
    refine wpAnyH_takeD (i := 39) (v := ?_) (some 88) rfl rfl (by kernel_rfl) (by kernel_rfl) (by kernel_rfl) (fun _ _ _ h => h) (Or.inl ⟨by rfl, ?_⟩) (by assumption) ?_
    rotate_left
    · intro w' hSw
      go_simp
      first | done | with_reducible rfl
    try simp only [Act.put, List.setIfInBounds_toArray, List.set_cons_zero, List.set_cons_succ]
    refine wpAnyH_takeD (i := 40) (v := ?_) (some 89) rfl rfl (by kernel_rfl) (by kernel_rfl) (by kernel_rfl) (fun _ _ _ h => h) (Or.inl ⟨by rfl, ?_⟩) (by assumption) ?_
    rotate_left
    · intro w' hSw
      go_simp
      first | done | with_reducible rfl
    try simp only [Act.put, List.setIfInBounds_toArray, List.set_cons_zero, List.set_cons_succ]
    refine wpAnyH_takeD (i := 41) (v := ?_) (some 90) rfl rfl (by kernel_rfl) (by kernel_rfl) (by kernel_rfl) (fun _ _ _ h => h) (Or.inl ⟨by rfl, ?_⟩) (by assumption) ?_
    rotate_left
    · intro w' hSw
      go_simp
      first | done | with_reducible rfl
    try simp only [Act.put, List.setIfInBounds_toArray, List.set_cons_zero, List.set_cons_succ]
    refine wpAnyH_takeD (i := 42) (v := ?_) (some 91) rfl rfl (by kernel_rfl) (by kernel_rfl) (by kernel_rfl) (fun _ _ _ h => h) (Or.inl ⟨by rfl, ?_⟩) (by assumption) ?_
    rotate_left
    · intro w' hSw
      go_simp
      first | done | with_reducible rfl
    try simp only [Act.put, List.setIfInBounds_toArray, List.set_cons_zero, List.set_cons_succ]
    refine wpAnyH_takeD (i := 43) (v := ?_) (some 92) rfl rfl (by kernel_rfl) (by kernel_rfl) (by kernel_rfl) (fun _ _ _ h => h) (Or.inl ⟨by rfl, ?_⟩) (by assumption) ?_
    rotate_left
    · intro w' hSw
      go_simp
      first | done | with_reducible rfl
    try simp only [Act.put, List.setIfInBounds_toArray, List.set_cons_zero, List.set_cons_succ]
    refine wpAnyH_takeD (i := 44) (v := ?_) (some 93) rfl rfl (by kernel_rfl) (by kernel_rfl) (by kernel_rfl) (fun _ _ _ h => h) (Or.inl ⟨by rfl, ?_⟩) (by assumption) ?_
    rotate_left
    · intro w' hSw
      go_simp
      first | done | with_reducible rfl
    try simp only [Act.put, List.setIfInBounds_toArray, List.set_cons_zero, List.set_cons_succ]
    refine wpAnyH_takeD (i := 45) (v := ?_) (some 94) rfl rfl (by kernel_rfl) (by kernel_rfl) (by kernel_rfl) (fun _ _ _ h => h) (Or.inl ⟨by rfl, ?_⟩) (by assumption) ?_
    rotate_left
    · intro w' hSw
      go_simp
      first | done | with_reducible rfl
    try simp only [Act.put, List.setIfInBounds_toArray, List.set_cons_zero, List.set_cons_succ]
    refine wpAnyH_takeD (i := 46) (v := ?_) (some 95) rfl rfl (by kernel_rfl) (by kernel_rfl) (by kernel_rfl) (fun _ _ _ h => h) (Or.inl ⟨by rfl, ?_⟩) (by assumption) ?_
    rotate_left
    · intro w' hSw
      go_simp
      first | done | with_reducible rfl
    try simp only [Act.put, List.setIfInBounds_toArray, List.set_cons_zero, List.set_cons_succ]
    refine wpAnyH_takeD (i := 47) (v := ?_) (some 4) rfl rfl (by kernel_rfl) (by kernel_rfl) (by kernel_rfl) (fun _ _ _ h => h) (Or.inl ⟨by rfl, ?_⟩) (by assumption) ?_
    rotate_left
    · intro w' hSw
      go_simp
      first | done | with_reducible rfl
    try simp only [Act.put, List.setIfInBounds_toArray, List.set_cons_zero, List.set_cons_succ]
    refine wpAnyH_done (by kernel_rfl) ?_ _
    go_wp2
    go_ret
    exact ⟨rfl, hW7.trans hHeld (fun _ _ h => h)⟩
  | good body m =>
    rintro e w3 ⟨Ax, cx, rfl, hox, hfrx⟩
    have hf3w := hf2.trans hfrx.1 (fun _ _ h => h)
    have ho3a := ho3.fr hfrx.1 (fun _ _ h => h)
    have hbl : body.length ≤ ys.length := rdFrame_good HRR.out.symm
    clear hf2 hfrx ho3
    go_wp2_with fail
    refine (CR.out _ hf3w).mono ?_
    rintro e w4 ⟨Ay, cy, rfl, hoy, hfry⟩
    have hf4w := hf3w.trans hfry.1 (fun _ _ h => h)
    have ho4 := ho3a.fr hfry.1 (fun _ _ h => h)
    have hox4 := hox.fr hfry.1 (fun _ _ h => h)
    clear hf3w hfry ho3a hox
    have LF0 : (frameOf xs).length = n + 12 := by
      have := HN.out
      unfold frameOf
      simp [four]; omega
    have HG2 := Lib.hid (rdFrame_frameOf xs ys (by have := HN.out; omega))
    rw [HN.out] at HG2
    generalize hFF : frameOf xs = F at *
    have HFF := Lib.hid hFF
    clear hFF
    have LF := Lib.hid LF0
    clear LF0
    have hbox : Fr (fun _ => False) w4 (w4.alloc (.cells #[.int .i64 0, .int .i64 0, .string ⟨#[]⟩] 44)) := (Fr.refl _ _).alloc _
    have hBx : Bk (w4.alloc (.cells #[.int .i64 0, .int .i64 0, .string ⟨#[]⟩] 44)) w4.heap.size 44 #[.int .i64 0, .int .i64 0, .string ⟨#[]⟩] := Bk.new w4 _ _
    have hsz : (w4.alloc (.cells #[.int .i64 0, .int .i64 0, .string ⟨#[]⟩] 44)).heap.size = w4.heap.size + 1 := by simp
    have ho0 : Own8 ((w4.alloc (.cells #[.int .i64 0, .int .i64 0, .string ⟨#[]⟩] 44)).alloc (.cells #[] 5)) 5 (.slice (some ⟨w4.heap.size + 1, 0, none⟩) 0 0) [] := by
      have := Own8.fresh (w4.alloc (.cells #[.int .i64 0, .int .i64 0, .string ⟨#[]⟩] 44)) 5 #[] 0 rfl (by unfold maxLen; omega)
      rw [hsz] at this; exact this
    have hfr0 : Fresh (w4.alloc (.cells #[.int .i64 0, .int .i64 0, .string ⟨#[]⟩] 44)) ((w4.alloc (.cells #[.int .i64 0, .int .i64 0, .string ⟨#[]⟩] 44)).alloc (.cells #[] 5)) (.slice (some ⟨w4.heap.size + 1, 0, none⟩) 0 0) := by
      have := Fresh.new (w4.alloc (.cells #[.int .i64 0, .int .i64 0, .string ⟨#[]⟩] 44)) (.cells #[] 5) 0 0
      rw [hsz] at this; exact this
    have H0 := Lib.hid hfr0.1
    have hrf : Rd8 ((w4.alloc (.cells #[.int .i64 0, .int .i64 0, .string ⟨#[]⟩] 44)).alloc (.cells #[] 5)) A3 F := (ho4.fr (hbox.trans hfr0.1 (fun _ _ h => h)) (fun _ _ h => h)).rd
    have rel5 : ∀ A5 c5 w5, Own8 w5 5 (.slice A5 (([] : List UInt8).length + F.length) c5) ([] ++ F) → Fr (fun k => (Value.slice (some ⟨w4.heap.size + 1, 0, none⟩) 0 0).ownBlock = some k) ((w4.alloc (.cells #[.int .i64 0, .int .i64 0, .string ⟨#[]⟩] 44)).alloc (.cells #[] 5)) w5 →
        Moved ((w4.alloc (.cells #[.int .i64 0, .int .i64 0, .string ⟨#[]⟩] 44)).alloc (.cells #[] 5)) (.slice (some ⟨w4.heap.size + 1, 0, none⟩) 0 0) (.slice A5 (([] : List UInt8).length + F.length) c5) →
        Own8 w5 5 (.slice A5 (n + 12) c5) F ∧ Fresh (w4.alloc (.cells #[.int .i64 0, .int .i64 0, .string ⟨#[]⟩] 44)) w5 (.slice A5 (n + 12) c5) ∧ Rd8 w5 A2 ys := fun A5 c5 w5 h1 h2 h3 => by
      have h4 := hfr0.step h2 h3
      simp only [List.length_nil, Nat.zero_add, List.nil_append, LF.out] at h1 h4
      exact ⟨h1, h4, HR2.out _ (hf4w.trans (hbox.trans h4.1 (fun _ _ h => h)) (fun _ _ h => h))⟩
    have REL5 := Lib.hid rel5
    have L5 := Lib.hid (show ([] : List UInt8).length + F.length = n + 12 by simp [LF.out])
    have hn2 := HN2.out
    clear rel5 hfr0
    have HN2b := Lib.hid hn2
    clear hn2
    go_wp2_with (first
      | (at_builtin; refine wpList_append8s _ rfl (.tmp 40) (.tmp 41) Tryd.t8 rfl (.slice (some ⟨w4.heap.size + 1, 0, none⟩) 0 0) [] rfl ho0 A3 (n + 12) c3 F rfl LF.out hrf (by rw [L5.out]; omega) ?_; intro A5 c5 w5 ho5 hf5 hm5; obtain ⟨hp5, hfr5, hrx5⟩ := REL5.out _ _ _ ho5 hf5 hm5; rw [L5.out]; clear ho5 hf5 hm5)
      | (at_builtin; refine wpList_append8s _ rfl (.tmp 42) (.tmp 43) Tryd.t8 rfl (.slice A5 (n + 12) c5) F rfl hp5 A2 n2 c2 ys rfl HN2.out hrx5 (by rw [LF.out, HN2.out]; omega) ?_; intro A6 c6 w6 ho6 hf6 hm6))
    have hfr6 := hfr5.step hf6 hm6
    rw [LF.out, HN2.out] at ho6 hfr6 ⊢
    have hf6w := hf4w.trans (hbox.trans hfr6.1 (fun _ _ h => h)) (fun _ _ h => h)
    have l6 : (F ++ ys).length = n + 12 + n2 := by simp [LF.out, HN2.out]
    have hcap : n + 12 + n2 ≤ c6 := by
      rcases ho6.form with ⟨e, h0⟩ | ⟨g, cap, e, h1, _⟩
      · have := congrArg List.length h0; rw [l6] at this; simp at this
      · injection e with _ _ e; rw [e]; rw [l6] at h1; exact h1
    refine (readFrame_any2 A6 (n + 12 + n2) c6 (F ++ ys) w6 (HT.out _ hf6w) ho6.rd l6 (by omega) (by omega)).mono ?_
    rw [HG2.out]
    rintro e w7 ⟨A7, c7, rfl, ho7, hfr7⟩
    have hW7 : Fr (fun _ => False) w w7 := hf6w.trans hfr7.1 (fun _ _ h => h)
    have h47 : Fr (fun _ => False) w4 w7 := hbox.trans (hfr6.1.trans hfr7.1 (fun _ _ h => h)) (fun _ _ h => h)
    have hBx7 := (hBx.fr hfr6.1 (fun h => h)).fr hfr7.1 (fun h => h)
    have ho47 := ho4.fr h47 (fun _ _ h => h)
    clear hBx hsz ho0 H0 hrf REL5 L5 hp5 hfr5 hrx5 hf6 hm6 ho6 hfr6 hf6w l6 hcap hfr7 hbox ho4 hf4w HN2b
    have hox7 := hox4.fr h47 (fun _ _ h => h)
    have hoy7 := hoy.fr h47 (fun _ _ h => h)
    clear hox4 hoy h47 hbl
    rw [HN.out]
    go_upto_region 9 with (fail)
    have ho7r := ho7.rd
    have LX := Lib.hid (show ([] : List UInt8).length = 0 from rfl)
    have FB := Lib.hid (fun w' (hf : Fr (fun _ => False) w7 w') => run_str8 Tryd.t8 Tryd.underlying5 Tryd.underlying9 c (HR.out w' (hW7.trans hf (fun _ _ h => h))) HN.out)
    have FF := Lib.hid (fun w' (hf : Fr (fun _ => False) w7 w') => run_str8 Tryd.t8 Tryd.underlying5 Tryd.underlying9 c3 (ho47.rd.fr hf (fun _ _ _ h => h)) LF.out)
    have FZ := Lib.hid (fun w' (hf : Fr (fun _ => False) w7 w') => run_str8 Tryd.t8 Tryd.underlying5 Tryd.underlying9 c7 (ho7r.fr hf (fun _ _ _ h => h)) HN.out)
    have FQ := Lib.hid (fun w' (hf : Fr (fun _ => False) w7 w') => And.intro ((hBx7.fr hf (fun h => h)).cell 0) (And.intro ((hBx7.fr hf (fun h => h)).cell 1) ((hBx7.fr hf (fun h => h)).cell 2)))
    have FX := Lib.hid (fun w' (hf : Fr (fun _ => False) w7 w') => run_str8 Tryd.t8 Tryd.underlying5 Tryd.underlying9 cx (hox7.rd.fr hf (fun _ _ _ h => h)) rfl)
    have FY := Lib.hid (fun w' (hf : Fr (fun _ => False) w7 w') => run_str8 Tryd.t8 Tryd.underlying5 Tryd.underlying9 cy (hoy7.rd.fr hf (fun _ _ _ h => h)) rfl)
    have b0 : ((crcOf xs : Int) == (crcOf xs : Int)) = true := by simp
    have b1 : ((strOf F).toList == (strOf F).toList) = true := by simp
    have b2 : ((strOf body).toList == (strOf body).toList) = true := by simp
    have b3 : ((strOf xs).toList == (strOf xs).toList) = true := by simp
    have b4 : (((12 + n : Nat) : Int) == ((n + 12 : Nat) : Int)) = true := by rw [beq_iff_eq]; omega
    have b5 : ((12 + (n : Int)) == ((n : Int) + 12)) = true := by rw [beq_iff_eq]; omega
    refine wp_region_held_drew (S := fun w' => Fr (fun _ => False) w7 w') (by kernel_rfl) ((Fr.refl _ _).drew) (fun hHeld => ?_)
    refine wpAnyH_takeD (i := 0) (v := ?_) (some 49) rfl rfl (by kernel_rfl) (by kernel_rfl) (by kernel_rfl) (fun _ _ _ h => h) (Or.inl ⟨by rfl, ?_⟩) (by assumption) ?_
    rotate_left
    · intro w' hSw
      go_simp
      first | done | with_reducible rfl
    try simp only [Act.put, List.setIfInBounds_toArray, List.set_cons_zero, List.set_cons_succ]
    refine wpAnyH_takeD (i := 2) (v := ?_) (some 51) rfl rfl (by kernel_rfl) (by kernel_rfl) (by kernel_rfl) (fun _ _ _ h => h) (Or.inl ⟨by rfl, ?_⟩) (by assumption) ?_
    rotate_left
    · intro w' hSw
      go_simp
      first | done | with_reducible rfl
    try simp only [Act.put, List.setIfInBounds_toArray, List.set_cons_zero, List.set_cons_succ]
    refine wpAnyH_ready (rs := [1]) (by kernel_rfl) (by simp) ?_
    refine AllReadyH.cons rfl (fun K hK => ?_) AllReadyH.nil
    go_simp
    refine (sum_any A n c xs _ (HT.out _ (hW7.trans hHeld (fun _ _ h => h))) (HR.out _ (hW7.trans hHeld (fun _ _ h => h))) HN.out (by omega)).mono ?_; rintro e _ ⟨rfl, rfl⟩
    try go_simp
    refine hK.out _ _ (hHeld) (fun hHeld => ?_)
    clear hK K
    try change wpAnyH _ _ _ _ _ _ _ (Act.put _ (some 50) _) _
    try simp only [Act.put, List.setIfInBounds_toArray, List.set_cons_zero, List.set_cons_succ]
    refine wpAnyH_ready (rs := [3]) (by kernel_rfl) (by simp) ?_
    refine AllReadyH.cons rfl (fun K hK => ?_) AllReadyH.nil
    go_simp
    refine (refSum_any A n c xs _ (HR.out _ (hW7.trans hHeld (fun _ _ h => h))) HN.out (by omega)).mono ?_; rintro e _ ⟨rfl, rfl⟩
    try go_simp
    refine hK.out _ _ (hHeld) (fun hHeld => ?_)
    clear hK K
    try change wpAnyH _ _ _ _ _ _ _ (Act.put _ (some 52) _) _
    try simp only [Act.put, List.setIfInBounds_toArray, List.set_cons_zero, List.set_cons_succ]
    refine wpAnyH_takeD (i := 4) (v := ?_) (some 53) rfl rfl (by kernel_rfl) (by kernel_rfl) (by kernel_rfl) (fun _ _ _ h => h) (Or.inl ⟨by rfl, ?_⟩) (by assumption) ?_
    rotate_left
    · intro w' hSw
      go_simp
      first | done | with_reducible rfl
    try simp only [Act.put, List.setIfInBounds_toArray, List.set_cons_zero, List.set_cons_succ]
    refine wpAnyH_takeD (i := 5) (v := ?_) (some 54) rfl rfl (by kernel_rfl) (by kernel_rfl) (by kernel_rfl) (fun _ _ _ h => h) (Or.inl ⟨by rfl, ?_⟩) (by assumption) ?_
    rotate_left
    · intro w' hSw
      go_simp
      first | done | with_reducible rfl
    try simp only [Act.put, List.setIfInBounds_toArray, List.set_cons_zero, List.set_cons_succ]
    refine wpAnyH_takeD (i := 6) (v := ?_) (some 55) rfl rfl (by kernel_rfl) (by kernel_rfl) (by kernel_rfl) (fun _ _ _ h => h) (Or.inl ⟨by rfl, ?_⟩) (by assumption) ?_
    rotate_left
    · intro w' hSw
      go_simp
      first | done | with_reducible rfl
    try simp only [Act.put, List.setIfInBounds_toArray, List.set_cons_zero, List.set_cons_succ]
    refine wpAnyH_takeD (i := 7) (v := ?_) (some 56) rfl rfl (by kernel_rfl) (by kernel_rfl) (by kernel_rfl) (fun _ _ _ h => h) (Or.inl ⟨by rfl, ?_⟩) (by assumption) ?_
    rotate_left
    · intro w' hSw
      have s1 := FF.out w' hSw
      go_simp
      first | done | with_reducible rfl
    try simp only [Act.put, List.setIfInBounds_toArray, List.set_cons_zero, List.set_cons_succ]
    refine wpAnyH_takeD (i := 8) (v := ?_) (some 57) rfl rfl (by kernel_rfl) (by kernel_rfl) (by kernel_rfl) (fun _ _ _ h => h) (Or.inl ⟨by rfl, ?_⟩) (by assumption) ?_
    rotate_left
    · intro w' hSw
      go_simp
      first | done | with_reducible rfl
    try simp only [Act.put, List.setIfInBounds_toArray, List.set_cons_zero, List.set_cons_succ]
    refine wpAnyH_ready (rs := [9]) (by kernel_rfl) (by simp) ?_
    refine AllReadyH.cons rfl (fun K hK => ?_) AllReadyH.nil
    go_simp
    refine (refFrame_any A n c xs _ (HR.out _ (hW7.trans hHeld (fun _ _ h => h))) HN.out (by omega)).mono ?_; rintro e v1 ⟨A8, c8, rfl, ho8, hfr8⟩
    rw [HFF.out] at ho8
    have s8 := run_str8 Tryd.t8 Tryd.underlying5 Tryd.underlying9 c8 ho8.rd LF.out
    try go_simp
    refine hK.out _ _ (Fr.trans hHeld hfr8.1 (fun _ _ h => h)) (fun hHeld => ?_)
    clear hK K
    try change wpAnyH _ _ _ _ _ _ _ (Act.put _ (some 58) _) _
    try simp only [Act.put, List.setIfInBounds_toArray, List.set_cons_zero, List.set_cons_succ]
    refine wpAnyH_ready (rs := [10]) (by kernel_rfl) (by simp) ?_
    refine AllReadyH.cons rfl (fun K hK => ?_) AllReadyH.nil
    go_simp
    refine hK.out _ _ (hHeld) (fun hHeld => ?_)
    clear hK K
    try change wpAnyH _ _ _ _ _ _ _ (Act.put _ (some 59) _) _
    try simp only [Act.put, List.setIfInBounds_toArray, List.set_cons_zero, List.set_cons_succ]
    clear s8 ho8 hfr8
    refine wpAnyH_takeD (i := 11) (v := ?_) (some 60) rfl rfl (by kernel_rfl) (by kernel_rfl) (by kernel_rfl) (fun _ _ _ h => h) (Or.inl ⟨by rfl, ?_⟩) (by assumption) ?_
    rotate_left
    · intro w' hSw
      go_simp
      first | done | with_reducible rfl
    try simp only [Act.put, List.setIfInBounds_toArray, List.set_cons_zero, List.set_cons_succ]
    refine wpAnyH_takeD (i := 12) (v := ?_) (some 61) rfl rfl (by kernel_rfl) (by kernel_rfl) (by kernel_rfl) (fun _ _ _ h => h) (Or.inl ⟨by rfl, ?_⟩) (by assumption) ?_
    rotate_left
    · intro w' hSw
      go_simp
      first | done | with_reducible rfl
    try simp only [Act.put, List.setIfInBounds_toArray, List.set_cons_zero, List.set_cons_succ]
    refine wpAnyH_takeD (i := 13) (v := ?_) (some 62) rfl rfl (by kernel_rfl) (by kernel_rfl) (by kernel_rfl) (fun _ _ _ h => h) (Or.inl ⟨by rfl, ?_⟩) (by assumption) ?_
    rotate_left
    · intro w' hSw
      go_simp
      first | done | with_reducible rfl
    try simp only [Act.put, List.setIfInBounds_toArray, List.set_cons_zero, List.set_cons_succ]
    refine wpAnyH_takeD (i := 14) (v := ?_) (some 63) rfl rfl (by kernel_rfl) (by kernel_rfl) (by kernel_rfl) (fun _ _ _ h => h) (Or.inl ⟨by rfl, ?_⟩) (by assumption) ?_
    rotate_left
    · intro w' hSw
      go_simp
      first | done | with_reducible rfl
    try simp only [Act.put, List.setIfInBounds_toArray, List.set_cons_zero, List.set_cons_succ]
    refine wpAnyH_takeD (i := 15) (v := ?_) (some 64) rfl rfl (by kernel_rfl) (by kernel_rfl) (by kernel_rfl) (fun _ _ _ h => h) (Or.inl ⟨by rfl, ?_⟩) (by assumption) ?_
    rotate_left
    · intro w' hSw
      have s1 := FX.out w' hSw
      go_simp
      first | done | with_reducible rfl
    try simp only [Act.put, List.setIfInBounds_toArray, List.set_cons_zero, List.set_cons_succ]
    refine wpAnyH_takeD (i := 16) (v := ?_) (some 65) rfl rfl (by kernel_rfl) (by kernel_rfl) (by kernel_rfl) (fun _ _ _ h => h) (Or.inl ⟨by rfl, ?_⟩) (by assumption) ?_
    rotate_left
    · intro w' hSw
      go_simp
      first | done | with_reducible rfl
    try simp only [Act.put, List.setIfInBounds_toArray, List.set_cons_zero, List.set_cons_succ]
    refine wpAnyH_takeD (i := 17) (v := ?_) (some 66) rfl rfl (by kernel_rfl) (by kernel_rfl) (by kernel_rfl) (fun _ _ _ h => h) (Or.inl ⟨by rfl, ?_⟩) (by assumption) ?_
    rotate_left
    · intro w' hSw
      have s1 := FY.out w' hSw
      go_simp
      first | done | with_reducible rfl
    try simp only [Act.put, List.setIfInBounds_toArray, List.set_cons_zero, List.set_cons_succ]
    refine wpAnyH_takeD (i := 18) (v := ?_) (some 67) rfl rfl (by kernel_rfl) (by kernel_rfl) (by kernel_rfl) (fun _ _ _ h => h) (Or.inl ⟨by rfl, ?_⟩) (by assumption) ?_
    rotate_left
    · intro w' hSw
      go_simp
      first | done | with_reducible rfl
    try simp only [Act.put, List.setIfInBounds_toArray, List.set_cons_zero, List.set_cons_succ]
    refine wpAnyH_takeD (i := 19) (v := ?_) (some 68) rfl rfl (by kernel_rfl) (by kernel_rfl) (by kernel_rfl) (fun _ _ _ h => h) (Or.inl ⟨by rfl, ?_⟩) (by assumption) ?_
    rotate_left
    · intro w' hSw
      go_simp
      first | done | with_reducible rfl
    try simp only [Act.put, List.setIfInBounds_toArray, List.set_cons_zero, List.set_cons_succ]
    refine wpAnyH_takeD (i := 20) (v := ?_) (some 69) rfl rfl (by kernel_rfl) (by kernel_rfl) (by kernel_rfl) (fun _ _ _ h => h) (Or.inl ⟨by rfl, ?_⟩) (by assumption) ?_
    rotate_left
    · intro w' hSw
      go_simp
      first | done | with_reducible rfl
    try simp only [Act.put, List.setIfInBounds_toArray, List.set_cons_zero, List.set_cons_succ]
    refine wpAnyH_takeD (i := 21) (v := ?_) (some 70) rfl rfl (by kernel_rfl) (by kernel_rfl) (by kernel_rfl) (fun _ _ _ h => h) (Or.inl ⟨by rfl, ?_⟩) (by assumption) ?_
    rotate_left
    · intro w' hSw
      go_simp
      first | done | with_reducible rfl
    try simp only [Act.put, List.setIfInBounds_toArray, List.set_cons_zero, List.set_cons_succ]
    refine wpAnyH_takeD (i := 22) (v := ?_) (some 71) rfl rfl (by kernel_rfl) (by kernel_rfl) (by kernel_rfl) (fun _ _ _ h => h) (Or.inl ⟨by rfl, ?_⟩) (by assumption) ?_
    rotate_left
    · intro w' hSw
      go_simp
      first | done | with_reducible rfl
    try simp only [Act.put, List.setIfInBounds_toArray, List.set_cons_zero, List.set_cons_succ]
    refine wpAnyH_takeD (i := 23) (v := ?_) (some 72) rfl rfl (by kernel_rfl) (by kernel_rfl) (by kernel_rfl) (fun _ _ _ h => h) (Or.inl ⟨by rfl, ?_⟩) (by assumption) ?_
    rotate_left
    · intro w' hSw
      go_simp
      first | done | with_reducible rfl
    try simp only [Act.put, List.setIfInBounds_toArray, List.set_cons_zero, List.set_cons_succ]
    refine wpAnyH_takeD (i := 24) (v := ?_) (some 73) rfl rfl (by kernel_rfl) (by kernel_rfl) (by kernel_rfl) (fun _ _ _ h => h) (Or.inl ⟨by rfl, ?_⟩) (by assumption) ?_
    rotate_left
    · intro w' hSw
      go_simp
      first | done | with_reducible rfl
    try simp only [Act.put, List.setIfInBounds_toArray, List.set_cons_zero, List.set_cons_succ]
    refine wpAnyH_takeD (i := 25) (v := ?_) (some 74) rfl rfl (by kernel_rfl) (by kernel_rfl) (by kernel_rfl) (fun _ _ _ h => h) (Or.inl ⟨by rfl, ?_⟩) (by assumption) ?_
    rotate_left
    · intro w' hSw
      go_simp
      first | done | with_reducible rfl
    try simp only [Act.put, List.setIfInBounds_toArray, List.set_cons_zero, List.set_cons_succ]
    refine wpAnyH_takeD (i := 26) (v := ?_) (some 75) rfl rfl (by kernel_rfl) (by kernel_rfl) (by kernel_rfl) (fun _ _ _ h => h) (Or.inl ⟨by rfl, ?_⟩) (by assumption) ?_
    rotate_left
    · intro w' hSw
      go_simp
      first | done | with_reducible rfl
    try simp only [Act.put, List.setIfInBounds_toArray, List.set_cons_zero, List.set_cons_succ]
    refine wpAnyH_takeD (i := 27) (v := ?_) (some 76) rfl rfl (by kernel_rfl) (by kernel_rfl) (by kernel_rfl) (fun _ _ _ h => h) (Or.inl ⟨by rfl, ?_⟩) (by assumption) ?_
    rotate_left
    · intro w' hSw
      obtain ⟨q0, q1, q2⟩ := FQ.out w' hSw
      simp only [List.getElem?_toArray, List.getElem?_cons_zero, List.getElem?_cons_succ] at q0 q1 q2
      go_simp
      first | done | with_reducible rfl
    try simp only [Act.put, List.setIfInBounds_toArray, List.set_cons_zero, List.set_cons_succ]
    refine wpAnyH_ready (rs := [28]) (by kernel_rfl) (by simp) ?_
    refine AllReadyH.cons rfl (fun K hK => ?_) AllReadyH.nil
    go_simp
    refine (show Calls Tryd.prog 24 #[.nilIface, .agg #[.int .i64 0, .int .i64 0, .string ⟨#[]⟩]] _ _ from same_nil 0 ⟨#[]⟩ _).mono ?_; rintro e v2 ⟨rfl, hf9⟩
    try go_simp
    refine hK.out _ _ (Fr.trans hHeld hf9 (fun _ _ h => h)) (fun hHeld => ?_)
    clear hK K
    try change wpAnyH _ _ _ _ _ _ _ (Act.put _ (some 77) _) _
    try simp only [Act.put, List.setIfInBounds_toArray, List.set_cons_zero, List.set_cons_succ]
    refine wpAnyH_takeD (i := 29) (v := ?_) (some 78) rfl rfl (by kernel_rfl) (by kernel_rfl) (by kernel_rfl) (fun _ _ _ h => h) (Or.inl ⟨by rfl, ?_⟩) (by assumption) ?_
    rotate_left
    · intro w' hSw
      go_simp
      first | done | with_reducible rfl
    try simp only [Act.put, List.setIfInBounds_toArray, List.set_cons_zero, List.set_cons_succ]
    refine wpAnyH_takeD (i := 30) (v := ?_) (some 79) rfl rfl (by kernel_rfl) (by kernel_rfl) (by kernel_rfl) (fun _ _ _ h => h) (Or.inl ⟨by rfl, ?_⟩) (by assumption) ?_
    rotate_left
    · intro w' hSw
      go_simp
      first | done | with_reducible rfl
    try simp only [Act.put, List.setIfInBounds_toArray, List.set_cons_zero, List.set_cons_succ]
    refine wpAnyH_takeD (i := 31) (v := ?_) (some 80) rfl rfl (by kernel_rfl) (by kernel_rfl) (by kernel_rfl) (fun _ _ _ h => h) (Or.inl ⟨by rfl, ?_⟩) (by assumption) ?_
    rotate_left
    · intro w' hSw
      go_simp
      first | done | with_reducible rfl
    try simp only [Act.put, List.setIfInBounds_toArray, List.set_cons_zero, List.set_cons_succ]
    refine wpAnyH_takeD (i := 32) (v := ?_) (some 81) rfl rfl (by kernel_rfl) (by kernel_rfl) (by kernel_rfl) (fun _ _ _ h => h) (Or.inl ⟨by rfl, ?_⟩) (by assumption) ?_
    rotate_left
    · intro w' hSw
      have s1 := FZ.out w' hSw
      go_simp
      first | done | with_reducible rfl
    try simp only [Act.put, List.setIfInBounds_toArray, List.set_cons_zero, List.set_cons_succ]
    refine wpAnyH_takeD (i := 33) (v := ?_) (some 82) rfl rfl (by kernel_rfl) (by kernel_rfl) (by kernel_rfl) (fun _ _ _ h => h) (Or.inl ⟨by rfl, ?_⟩) (by assumption) ?_
    rotate_left
    · intro w' hSw
      go_simp
      first | done | with_reducible rfl
    try simp only [Act.put, List.setIfInBounds_toArray, List.set_cons_zero, List.set_cons_succ]
    refine wpAnyH_takeD (i := 34) (v := ?_) (some 83) rfl rfl (by kernel_rfl) (by kernel_rfl) (by kernel_rfl) (fun _ _ _ h => h) (Or.inl ⟨by rfl, ?_⟩) (by assumption) ?_
    rotate_left
    · intro w' hSw
      have s1 := FB.out w' hSw
      go_simp
      first | done | with_reducible rfl
    try simp only [Act.put, List.setIfInBounds_toArray, List.set_cons_zero, List.set_cons_succ]
    refine wpAnyH_takeD (i := 35) (v := ?_) (some 84) rfl rfl (by kernel_rfl) (by kernel_rfl) (by kernel_rfl) (fun _ _ _ h => h) (Or.inl ⟨by rfl, ?_⟩) (by assumption) ?_
    rotate_left
    · intro w' hSw
      go_simp
      first | done | with_reducible rfl
    try simp only [Act.put, List.setIfInBounds_toArray, List.set_cons_zero, List.set_cons_succ]
    refine wpAnyH_takeD (i := 36) (v := ?_) (some 85) rfl rfl (by kernel_rfl) (by kernel_rfl) (by kernel_rfl) (fun _ _ _ h => h) (Or.inl ⟨by rfl, ?_⟩) (by assumption) ?_
    rotate_left
    · intro w' hSw
      go_simp
      first | done | with_reducible rfl
    try simp only [Act.put, List.setIfInBounds_toArray, List.set_cons_zero, List.set_cons_succ]
    refine wpAnyH_takeD (i := 37) (v := ?_) (some 86) rfl rfl (by kernel_rfl) (by kernel_rfl) (by kernel_rfl) (fun _ _ _ h => h) (Or.inl ⟨by rfl, ?_⟩) (by assumption) ?_
    rotate_left
    · intro w' hSw
      go_simp
      first | done | with_reducible rfl
    try simp only [Act.put, List.setIfInBounds_toArray, List.set_cons_zero, List.set_cons_succ]
    refine wpAnyH_takeD (i := 38) (v := ?_) (some 87) rfl rfl (by kernel_rfl) (by kernel_rfl) (by kernel_rfl) (fun _ _ _ h => h) (Or.inl ⟨by rfl, ?_⟩) (by assumption) ?_
    rotate_left
    · intro w' hSw
      go_simp
      first | done | with_reducible rfl
    try simp only [Act.put, List.setIfInBounds_toArray, List.set_cons_zero, List.set_cons_succ]
    refine wpAnyH_takeD (i := 39) (v := ?_) (some 88) rfl rfl (by kernel_rfl) (by kernel_rfl) (by kernel_rfl) (fun _ _ _ h => h) (Or.inl ⟨by rfl, ?_⟩) (by assumption) ?_
    rotate_left
    · intro w' hSw
      go_simp
      first | done | with_reducible rfl
    try simp only [Act.put, List.setIfInBounds_toArray, List.set_cons_zero, List.set_cons_succ]
    refine wpAnyH_takeD (i := 40) (v := ?_) (some 89) rfl rfl (by kernel_rfl) (by kernel_rfl) (by kernel_rfl) (fun _ _ _ h => h) (Or.inl ⟨by rfl, ?_⟩) (by assumption) ?_
    rotate_left
    · intro w' hSw
      go_simp
      first | done | with_reducible rfl
    try simp only [Act.put, List.setIfInBounds_toArray, List.set_cons_zero, List.set_cons_succ]
    refine wpAnyH_takeD (i := 41) (v := ?_) (some 90) rfl rfl (by kernel_rfl) (by kernel_rfl) (by kernel_rfl) (fun _ _ _ h => h) (Or.inl ⟨by rfl, ?_⟩) (by assumption) ?_
    rotate_left
    · intro w' hSw
      go_simp
      first | done | with_reducible rfl
    try simp only [Act.put, List.setIfInBounds_toArray, List.set_cons_zero, List.set_cons_succ]
    refine wpAnyH_takeD (i := 42) (v := ?_) (some 91) rfl rfl (by kernel_rfl) (by kernel_rfl) (by kernel_rfl) (fun _ _ _ h => h) (Or.inl ⟨by rfl, ?_⟩) (by assumption) ?_
    rotate_left
    · intro w' hSw
      go_simp
      first | done | with_reducible rfl
    try simp only [Act.put, List.setIfInBounds_toArray, List.set_cons_zero, List.set_cons_succ]
    refine wpAnyH_takeD (i := 43) (v := ?_) (some 92) rfl rfl (by kernel_rfl) (by kernel_rfl) (by kernel_rfl) (fun _ _ _ h => h) (Or.inl ⟨by rfl, ?_⟩) (by assumption) ?_
    rotate_left
    · intro w' hSw
      go_simp
      first | done | with_reducible rfl
    try simp only [Act.put, List.setIfInBounds_toArray, List.set_cons_zero, List.set_cons_succ]
    refine wpAnyH_takeD (i := 44) (v := ?_) (some 93) rfl rfl (by kernel_rfl) (by kernel_rfl) (by kernel_rfl) (fun _ _ _ h => h) (Or.inl ⟨by rfl, ?_⟩) (by assumption) ?_
    rotate_left
    · intro w' hSw
      go_simp
      first | done | with_reducible rfl
    try simp only [Act.put, List.setIfInBounds_toArray, List.set_cons_zero, List.set_cons_succ]
    refine wpAnyH_takeD (i := 45) (v := ?_) (some 94) rfl rfl (by kernel_rfl) (by kernel_rfl) (by kernel_rfl) (fun _ _ _ h => h) (Or.inl ⟨by rfl, ?_⟩) (by assumption) ?_
    rotate_left
    · intro w' hSw
      go_simp
      first | done | with_reducible rfl
    try simp only [Act.put, List.setIfInBounds_toArray, List.set_cons_zero, List.set_cons_succ]
    refine wpAnyH_takeD (i := 46) (v := ?_) (some 95) rfl rfl (by kernel_rfl) (by kernel_rfl) (by kernel_rfl) (fun _ _ _ h => h) (Or.inl ⟨by rfl, ?_⟩) (by assumption) ?_
    rotate_left
    · intro w' hSw
      go_simp
      first | done | with_reducible rfl
    try simp only [Act.put, List.setIfInBounds_toArray, List.set_cons_zero, List.set_cons_succ]
    refine wpAnyH_takeD (i := 47) (v := ?_) (some 4) rfl rfl (by kernel_rfl) (by kernel_rfl) (by kernel_rfl) (fun _ _ _ h => h) (Or.inl ⟨by rfl, ?_⟩) (by assumption) ?_
    rotate_left
    · intro w' hSw
      go_simp
      first | done | with_reducible rfl
    try simp only [Act.put, List.setIfInBounds_toArray, List.set_cons_zero, List.set_cons_succ]
    refine wpAnyH_done (by kernel_rfl) ?_ _
    go_wp2
    go_ret
    exact ⟨rfl, hW7.trans hHeld (fun _ _ h => h)⟩
end Go.Proofs.YtlchihjkeheejaaDoor
