/- The log's Add, alike, Compact, Restore. -/
import Derived.Test.YtainkckcipdknaaQf
namespace Go.Proofs.Ytainkckcipdknaa
open Go.RowKit

/-- What entries that are laid behind the others leave. -/
theorem add_fin {TL TE : TypeId} (hT1 : TE ≠ 5) (hT2 : 5 ≠ TL) (hT3 : TE ≠ TL) {w v1 w3 : World} {g m : Nat} {s : LG} {v x : Value} {A3 : Option Addr} {c3 : Nat} {ps qs : List EL} (h : LogM TL TE w g s v ps) (hx : NewE w v1 TE x qs)
    (hr : Row w3 TE 2 (.slice A3 m c3) m (elc ps ++ elc qs)) (hm : m = s.l.length + qs.length) (hf : Fr (fun k => v.ownBlock = some k) v1 w3) (hmv : Moved v1 v (.slice A3 m c3)) (hok : (s.add (qs.map EL.e)).ok) :
    LogM TL TE (w3.setCell ⟨g, 2, none⟩ (.slice A3 m c3)) g (s.add (qs.map EL.e)) (.slice A3 m c3) (ps ++ qs) ∧ Fr (LB g v ps) w (w3.setCell ⟨g, 2, none⟩ (.slice A3 m c3)) ∧ (∀ k, LB g (.slice A3 m c3) (ps ++ qs) k → LB g v ps k ∨ w.heap.size ≤ k) ∧ w3.cell? ⟨g, 2, none⟩ = some v ∧ w3.frozen? ⟨g, 2, none⟩ = false := by
  obtain ⟨hxo, hxf, hxn⟩ := hx
  have hvg : v.ownBlock ≠ some g := h.own.row.ne h.blk hT3
  have hb3 := (h.blk.fr hxf (fun h => h)).fr hf hvg
  have hfg : Fr (fun k => k = g) w3 (w3.setCell ⟨g, 2, none⟩ (.slice A3 m c3)) := Fr.setCell (S := fun k => k = g) (p := ⟨g, 2, none⟩) (Fr.refl _ _) (fun _ => rfl) _
  have hfa : Fr (LB g v ps) w (w3.setCell ⟨g, 2, none⟩ (.slice A3 m c3)) := ((hxf.mono (T := LB g v ps) (fun _ _ h => h.elim)).trans (hf.mono (T := LB g v ps) (fun _ _ e => .inr (.inl e))) (fun _ _ e => e)).trans hfg (fun _ _ e => .inl e)
  have hlen : (ps ++ qs).length = m := by rw [List.length_append, hm, h.ll]
  have hrn : (Value.slice A3 m c3).ownBlock ≠ some g := hr.ne hb3 hT3
  have e1 : ∀ p ∈ ps, OwE (w3.setCell ⟨g, 2, none⟩ (.slice A3 m c3)) p := fun p hp => by
    refine (((h.own.each p hp).fr hxf (fun _ _ h => h)).fr hf (fun k e e2 => ?_)).fr hfg (fun k e e2 => ?_)
    · exact h.own.apart hT1 hp e2 e
    · subst e2; exact (h.own.each p hp).own.ne h.blk hT2 e
  have e2 : ∀ p ∈ qs, OwE (w3.setCell ⟨g, 2, none⟩ (.slice A3 m c3)) p := fun p hp => by
    refine ((hxo.each p hp).fr hf (fun k e e2 => ?_)).fr hfg (fun k e e2 => ?_)
    · have a1 := hxn k (.inr ⟨p, hp, e⟩)
      have a2 := h.lt (.inr (.inl e2))
      omega
    · subst e2
      have a1 := hxn _ (.inr ⟨p, hp, e⟩)
      have a2 := h.blk.lt
      omega
  refine ⟨⟨hok, ?_, ⟨?_, fun p hp => ?_⟩, ?_⟩, hfa, fun k hk => ?_, ?_, hb3.frozen 2⟩
  · simpa [LG.add] using hb3.set 2 (.slice A3 m c3)
  · rw [hlen, elc_app]
    exact hr.fr hfg (fun k e e2 => hrn (by rw [e, e2]))
  · rcases List.mem_append.1 hp with hp | hp
    · exact e1 p hp
    · exact e2 p hp
  · simp [LG.add, h.l]
  · rcases hk with rfl | e | ⟨p, hp, e⟩
    · exact .inl (.inl rfl)
    · by_cases hlt : k < v1.heap.size
      · exact .inl (.inr (.inl (hmv.old hlt e)))
      · have := hxf.size
        exact .inr (by omega)
    · rcases List.mem_append.1 hp with hp | hp
      · exact .inl (.inr (.inr ⟨p, hp, e⟩))
      · exact .inr (hxn k (.inr ⟨p, hp, e⟩))
  · exact hb3.cell 2

set_option maxRecDepth 100000 in
set_option maxHeartbeats 4000000 in
theorem lgAdd {w : World} {g : Nat} {s : LG} {F G : Nat → Prop} {A : Option Addr} {n c : Nat} {ps2 : List EL} (h : Lg 65 51 w g s F) (hes : Es w A n ps2 G) (hG : ∀ k, G k → k < w.heap.size) (hn : n ≤ 5000000000000) (hok : (s.add (ps2.map EL.e)).ok) :
    Calls Try.prog 33 #[.pointer (some ⟨g, 0, none⟩), .slice A n c] w fun e w' => e = .returned (.int .i64 (s.add (ps2.map EL.e)).lastI) ∧ LgTo 65 51 w g F w' (s.add (ps2.map EL.e)) := by
  have CC := Lib.hid (fun w' (hf : Fr (fun _ => False) w w') => copies_any A n c ps2 G w' (hes.fr0 hf) (fun k hk => Nat.lt_of_lt_of_le (hG k hk) hf.size) hn)
  have HPL := Lib.hid hes.len
  have HOK := Lib.hid hok
  obtain ⟨v, ps, h1, h2, h3⟩ := h
  obtain ⟨A0, c0, rfl, hnc, hcm, hA⟩ := h1.form
  have HNB : Hid (s.l.length + n ≤ 5000000000000) := Lib.hid (by have := hok.l1; simp only [LG.add, List.length_append, List.length_map] at this; have := hes.len; omega)
  obtain ⟨ln, hln⟩ : ∃ ln, s.l.length = ln := ⟨_, rfl⟩
  have HLN := Lib.hid hln
  rw [hln] at HNB h1 h2
  have HC2 := Lib.hid (fun w' (hf : Fr (fun _ => False) w w') => (h1.fr0 hf).c2)
  have HROW : Hid (∀ w', Fr (fun _ => False) w w' → Row w' 51 2 (.slice A0 ln c0) ln (elc ps)) := Lib.hid (fun w' hf => by
    have h9 := (h1.fr0 hf).own.row
    rw [h1.ll, hln] at h9; exact h9)
  have HM := Lib.hid h1
  have H2 := Lib.hid h2
  clear h1 h2 h3 hA hnc hcm hes hG hok hln hn
  go_enter Try.func33, Try.ntmps33
  go_wp2_with fail
  refine wp_region_Z [7, 10] (fun w' => Fr (fun _ => False) w w') (by kernel_rfl) ((Fr.refl _ _).drew) (fun hHeld => ?_)
  refine anyZ_pure (i := 0) (v := ?_) (some 7) rfl rfl (by kernel_rfl) (by kernel_rfl) (by kernel_rfl) (by kernel_rfl) (fun _ _ _ h => h) (Or.inl ⟨by rfl, ?_⟩) (fun _ => hHeld) ?_
  rotate_left
  · intro w' _
    go_simp
    first | done | with_reducible rfl
  try simp only [Go.Act.put, List.setIfInBounds_toArray, List.set_cons_zero, List.set_cons_succ]
  refine anyZ_pure (i := 1) (v := ?_) (some 8) rfl rfl (by kernel_rfl) (by kernel_rfl) (by kernel_rfl) (by kernel_rfl) (fun _ _ _ h => h) (Or.inl ⟨by rfl, ?_⟩) (fun _ => hHeld) ?_
  rotate_left
  · intro w' _
    go_simp
    first | done | with_reducible rfl
  try simp only [Go.Act.put, List.setIfInBounds_toArray, List.set_cons_zero, List.set_cons_succ]
  refine anyZ_pure (i := 2) (v := ?_) (some 9) rfl rfl (by kernel_rfl) (by kernel_rfl) (by kernel_rfl) (by kernel_rfl) (fun _ _ _ h => h) (Or.inl ⟨by rfl, ?_⟩) (fun _ => hHeld) ?_
  rotate_left
  · intro w' _
    go_simp
    first | done | with_reducible rfl
  try simp only [Go.Act.put, List.setIfInBounds_toArray, List.set_cons_zero, List.set_cons_succ]
  refine anyZ_pure (i := 3) (v := ?_) (some 10) rfl rfl (by kernel_rfl) (by kernel_rfl) (by kernel_rfl) (by kernel_rfl) (fun _ _ _ h => h) (Or.inl ⟨by rfl, ?_⟩) (fun _ => hHeld) ?_
  rotate_left
  · intro w' _
    go_simp
    first | done | with_reducible rfl
  try simp only [Go.Act.put, List.setIfInBounds_toArray, List.set_cons_zero, List.set_cons_succ]
  refine anyZ_read (i := 4) (v := ?_) (some 11) [7, 8, 9, 10] rfl rfl (by kernel_rfl) (by kernel_rfl) (by kernel_rfl) (by kernel_rfl) (by kernel_rfl) (by kernel_rfl) (fun _ _ _ h => h) (Or.inl ⟨by rfl, ?_⟩) hHeld ?_
  rotate_left
  · intro w' hSw
    have q2 := HC2.out w' hSw
    go_simp
    first | done | with_reducible rfl
  try simp only [Go.Act.put, List.setIfInBounds_toArray, List.set_cons_zero, List.set_cons_succ]
  refine anyZ_pure (i := 5) (v := ?_) (some 12) rfl rfl (by kernel_rfl) (by kernel_rfl) (by kernel_rfl) (by kernel_rfl) (fun _ _ _ h => h) (Or.inl ⟨by rfl, ?_⟩) (fun _ => hHeld) ?_
  rotate_left
  · intro w' _
    go_simp
    first | done | with_reducible rfl
  try simp only [Go.Act.put, List.setIfInBounds_toArray, List.set_cons_zero, List.set_cons_succ]
  refine anyZ_ready (rs := [6]) (by kernel_rfl) (by simp) ?_
  refine AllZ.step rfl (fun K hK => ?_) AllZ.nil
  go_simp
  refine (CC.out _ hHeld).mono ?_; rintro e v1 ⟨x, qs, rfl, hnew, hq⟩
  have hqn : qs.length = n := by have e8 := congrArg List.length hq; rw [List.length_map, List.length_map, HPL.out] at e8; exact e8
  have HNEW := Lib.hid (show NewE w v1 _ x qs from ⟨hnew.1, hHeld.trans hnew.2.1 (fun _ _ h => h), fun k hk => Nat.le_trans hHeld.size (hnew.2.2 k hk)⟩)
  have HSL : Hid (Sl v1 2 x n (elc qs)) := Lib.hid (by rw [← hqn]; exact hnew.1.row.sl)
  have HQ := Lib.hid hq
  have HQN := Lib.hid hqn
  have hf9 := hnew.2.1
  clear hnew hq hqn
  try go_simp
  refine hK.out _ _ (hHeld.trans hf9 (fun _ _ h => h)) (fun hHeld => ?_)
  clear hK K
  try change anyZ _ _ _ _ _ _ _ _ (Go.Act.put _ (some 13) _) _
  try simp only [Go.Act.put, List.setIfInBounds_toArray, List.set_cons_zero, List.set_cons_succ]
  refine anyZ_ready (rs := [7]) (by kernel_rfl) (by simp) ?_
  refine AllZ.last rfl (by kernel_rfl) (fun K hK => ?_) AllZ.nil
  refine stepOf_appendW Try.teE rfl (.tmp 11) (.tmp 13) rfl (.slice A0 ln c0) ln (elc ps) rfl (HROW.out _ hHeld) x n (elc qs) rfl HSL.out (elc_one _) (by unfold maxLen; have := HNB.out; omega) (by have := HNB.out; omega) ?_
  intro A3 c3 w3 hr3 hf3 hm3
  obtain ⟨hlog, hfa, hlb, k2, f2⟩ := add_fin (by decide) (by decide) (by decide) HM.out HNEW.out hr3 (by rw [HQN.out, HLN.out]) hf3 hm3 (by rw [HQ.out]; exact HOK.out)
  have HLOG := Lib.hid hlog
  have HFA := Lib.hid hfa
  have HLB := Lib.hid hlb
  clear hlog hfa hlb hr3 hf3 hm3
  refine hK.out _ _ ?_
  clear hK K
  try change anyZ _ _ _ _ _ _ _ _ (Go.Act.put _ (some 14) _) _
  try simp only [Go.Act.put, List.setIfInBounds_toArray, List.set_cons_zero, List.set_cons_succ]
  refine anyZ_pure (i := 8) (v := ?_) (some 15) rfl rfl (by kernel_rfl) (by kernel_rfl) (by kernel_rfl) (by kernel_rfl) (fun _ _ _ h => h) (Or.inl ⟨by rfl, ?_⟩) (notYet (by kernel_rfl)) ?_
  rotate_left
  · intro w' _
    go_simp
    first | done | with_reducible rfl
  try simp only [Go.Act.put, List.setIfInBounds_toArray, List.set_cons_zero, List.set_cons_succ]
  refine anyZ_pure (i := 9) (v := ?_) (some 16) rfl rfl (by kernel_rfl) (by kernel_rfl) (by kernel_rfl) (by kernel_rfl) (fun _ _ _ h => h) (Or.inl ⟨by rfl, ?_⟩) (notYet (by kernel_rfl)) ?_
  rotate_left
  · intro w' _
    go_simp
    first | done | with_reducible rfl
  try simp only [Go.Act.put, List.setIfInBounds_toArray, List.set_cons_zero, List.set_cons_succ]
  refine anyZ_ready (rs := [10]) (by kernel_rfl) (by simp) ?_
  refine AllZ.last rfl (by kernel_rfl) (fun K hK => ?_) AllZ.nil
  go_simp
  refine hK.out _ _ ?_
  clear hK K
  try change anyZ _ _ _ _ _ _ _ _ (Go.Act.put _ none _) _
  try simp only [Go.Act.put, List.setIfInBounds_toArray, List.set_cons_zero, List.set_cons_succ]
  refine anyZ_done (by kernel_rfl) ?_ _
  clear k2 f2
  have hlg : Lg 65 51 _ g (s.add (ps2.map EL.e)) (LB g (.slice A3 (ln + n) c3) (ps ++ qs)) := ⟨_, _, by rw [← HQ.out]; exact HLOG.out, fun _ h => h, fun _ hk => HLOG.out.lt hk⟩
  have CL := Lib.hid (lgLast hlg)
  have HLG := Lib.hid hlg
  clear hlg
  go_wp2_with fail
  refine CL.out.mono ?_; rintro e w5 ⟨rfl, hf5⟩
  have HF5 := Lib.hid hf5
  clear hf5 CL
  go_wp2
  go_ret
  refine ⟨rfl, LB g (.slice A3 (ln + n) c3) (ps ++ qs), HLG.out.fr0 HF5.out, (HFA.out.mono (fun k _ e => H2.out k e)).trans HF5.out (fun _ _ e => e.elim), fun k hk => ?_⟩
  rcases HLB.out k hk with e | e
  · exact .inl (H2.out k e)
  · exact .inr e

theorem LG.like_nil (s : LG) (i : Int) : s.like i [] = 0 := rfl
theorem LG.like_at {s : LG} {i : Int} {l : List En} {k : Nat} (h : k < l.length) : s.like i (l.drop k) = if s.mat (i + 1) (l.getD k default).t then s.like (i + 1) (l.drop (k + 1)) + 1 else 0 := by
  rw [drop_getD h]; rfl
theorem LG.is_iff {s : LG} {i : Int} : s.is i = true ↔ (s.ix : Int) ≤ i ∧ i ≤ (s.ix : Int) + (s.l.length : Int) := by
  unfold LG.is LG.has; simp; omega
theorem LG.like_le {s : LG} : ∀ {l : List En} {i : Int}, s.like i l ≤ l.length
  | [], _ => Nat.le_refl _
  | e :: l, i => by
    unfold LG.like
    split
    · have := LG.like_le (s := s) (l := l) (i := i + 1); simp; omega
    · simp
/-- What is alike is there. -/
theorem LG.like_is {s : LG} : ∀ {l : List En} {i : Int}, s.is i = true → s.is (i + (s.like i l : Int)) = true
  | [], i, h => by simpa [LG.like] using h
  | e :: l, i, h => by
    unfold LG.like
    split
    · rename_i hm
      have h1 : s.is (i + 1) = true := by unfold LG.mat at hm; simp at hm; exact hm.1
      have := LG.like_is (l := l) h1
      rw [show i + ((s.like (i + 1) l + 1 : Nat) : Int) = i + 1 + (s.like (i + 1) l : Int) by omega]
      exact this
    · simpa using h
set_option maxRecDepth 100000 in
set_option maxHeartbeats 4000000 in
theorem lgAlike {w : World} {g : Nat} {s : LG} {F G : Nat → Prop} {A : Option Addr} {n c : Nat} {ps2 : List EL} (h : Lg 65 51 w g s F) (hes : Es w A n ps2 G) (hn : n ≤ 5000000000000) (i : Int) (hi : s.is i = true) :
    Calls Try.prog 41 #[.pointer (some ⟨g, 0, none⟩), .int .i64 i, .slice A n c] w fun e w' => e = .returned (.int .i64 (s.like i (ps2.map EL.e) : Int)) ∧ Fr (fun _ => False) w w' := by
  have hib := LG.is_iff.1 hi
  have hxb := h.ok.i1
  have hlb : 0 ≤ i := by omega
  have hub : i ≤ 20000000000000 := by omega
  have CM := Lib.hid (fun (j t : Int) (h0 : 0 ≤ j) (h1 : j ≤ 40000000000000) w' (hf : Fr (fun _ => False) w w') => lgMatch (h.fr0 hf) j t (by omega) (by omega))
  have HES := Lib.hid hes
  have HL := Lib.hid hes.len
  obtain ⟨es, hee⟩ : ∃ es, ps2.map EL.e = es := ⟨_, rfl⟩
  have HE := Lib.hid hee
  have HEL : Hid (es.length = n) := Lib.hid (by rw [← hee, List.length_map, hes.len])
  rw [hee]
  have hnI : (n : Int) ≤ 5000000000000 := by omega
  clear h hes hee hi hib hxb hn
  go_enter Try.func41, Try.ntmps41
  go_wp2_with fail
  go_loopw [11] (fun u wr => ∃ k : Nat, u = .int .i64 (k : Int) ∧ k ≤ n ∧ k + s.like (i + (k : Int)) (es.drop k) = s.like i es ∧ Fr (fun _ => False) w wr) (fun u _ => n - (intOf u).toNat)
  case atStart => exact ⟨0, rfl, Nat.zero_le _, by simp, Fr.refl _ _⟩
  case round =>
    obtain ⟨k, rfl, hk, hr, hf⟩ := hrel
    have HR := Lib.hid hr
    have HF := Lib.hid hf
    have hk0 : (0 : Int) ≤ (k : Int) := by omega
    clear hr hf
    by_cases hlt : k < n
    · have hlt' : (k : Int) < n := by omega
      obtain ⟨b, off, rfl, e0, e1, he⟩ := (HES.out.fr0 HF.out).at hlt
      have HX : Hid ((es.getD k default).t = (ps2.getD k default).e.t) := Lib.hid (by rw [← HE.out, getD_map EL.e (by rw [HL.out]; exact hlt)])
      have HLA := Lib.hid (LG.like_at (s := s) (i := i + (k : Int)) (l := es) (k := k) (by rw [HEL.out]; exact hlt))
      have HBV : Hid (∃ A2 n2 c2, (ps2.getD k default).bv = .slice A2 n2 c2) := Lib.hid ⟨_, _, _, rfl⟩
      generalize (ps2.getD k default).bv = bv at *
      obtain ⟨A2, n2, c2, rfl⟩ := HBV.out
      generalize (ps2.getD k default).e.t = x at *
      clear he HBV
      have HFA : Hid (Fr (fun _ => False) w (wr.alloc (.cells #[.int .i64 x, .slice A2 n2 c2] 51))) := Lib.hid (HF.out.alloc _)
      have C := Lib.hid (CM.out (i + 1 + (k : Int)) x (by omega) (by omega) _ HFA.out)
      obtain ⟨q, hq⟩ : ∃ q, s.mat (i + 1 + (k : Int)) x = q := ⟨_, rfl⟩
      have HQ := Lib.hid hq
      rw [hq] at C
      clear hq
      cases q with
      | false =>
        go_wp2_with fail
        refine C.out.mono ?_; rintro e w1 ⟨rfl, hf1⟩
        have HF1 := Lib.hid (HFA.out.trans hf1 (fun _ _ h => h))
        clear hf1 C
        go_wp2
        go_ret
        refine ⟨?_, HF1.out⟩
        have h9 := HR.out
        rw [HLA.out, HX.out, show i + (k : Int) + 1 = i + 1 + (k : Int) by omega, HQ.out] at h9
        simp at h9
        rw [← h9]
        rfl
      | true =>
        go_wp2_with fail
        refine C.out.mono ?_; rintro e w1 ⟨rfl, hf1⟩
        have HF1 := Lib.hid (HFA.out.trans hf1 (fun _ _ h => h))
        clear hf1 C
        go_wp2
        refine ⟨⟨k + 1, by simp, by omega, ?_, HF1.out⟩, ?_⟩
        · have h9 := HR.out
          rw [HLA.out, HX.out, show i + (k : Int) + 1 = i + 1 + (k : Int) by omega, HQ.out] at h9
          simp only [if_true] at h9
          rw [← h9, show i + ((k + 1 : Nat) : Int) = i + 1 + (k : Int) by omega]
          omega
        · first | omega | (show _ < _; simp [intOf]; omega)
    · obtain rfl : k = n := by omega
      go_wp2
      go_ret
      refine ⟨?_, HF.out⟩
      have h9 := HR.out
      rw [List.drop_of_length_le (by rw [HEL.out]; exact Nat.le_refl _), LG.like_nil] at h9
      rw [← h9]
      rfl

set_option maxRecDepth 100000 in
set_option maxHeartbeats 4000000 in
theorem lgCompact {w : World} {g : Nat} {s : LG} {F : Nat → Prop} (h : Lg 65 51 w g s F) (i : Int) (i0 : -9223372036854775808 ≤ i) (i1 : i ≤ 9223372036854775807) :
    Calls Try.prog 24 #[.pointer (some ⟨g, 0, none⟩), .int .i64 i] w fun e w' => e = .returned (.int .i64 (if s.has i then 0 else 1)) ∧ Lg 65 51 w' g (s.comp i) F ∧ Fr F w w' := by
  have CH := Lib.hid (lgHas h i i0 i1)
  cases hh : s.has i with
  | false =>
    have HC : Hid (s.comp i = s) := Lib.hid (by unfold LG.comp; rw [hh]; rfl)
    rw [hh] at CH
    have H := Lib.hid h
    clear h hh
    go_enter Try.func24, Try.ntmps24
    go_wp2_with fail
    refine CH.out.mono ?_; rintro e w1 ⟨rfl, rfl⟩
    go_wp2
    go_ret
    exact ⟨rfl, by rw [HC.out]; exact H.out, Fr.refl _ _⟩
  | true =>
    have hb := LG.is_has hh
    have CD := Lib.hid (dropTo_any (k := (i - s.ix).toNat) h (by omega) (by omega) i (by omega))
    have HC : Hid (s.comp i = ⟨s.ix + (i - s.ix).toNat, s.term i, s.l.drop (i - s.ix).toNat⟩) := Lib.hid (by
      unfold LG.comp; rw [hh]
      simp only [if_true]
      rw [show i.toNat = s.ix + (i - s.ix).toNat by omega])
    rw [hh] at CH
    rw [← HC.out] at CD
    clear h hh hb
    go_enter Try.func24, Try.ntmps24
    go_wp2_with fail
    refine CH.out.mono ?_; rintro e w1 ⟨rfl, rfl⟩
    go_wp2_with fail
    refine CD.out.mono ?_; rintro e w2 ⟨rfl, h2, hf2⟩
    go_wp2
    go_ret
    exact ⟨rfl, h2, hf2⟩

set_option maxRecDepth 100000 in
set_option maxHeartbeats 4000000 in
theorem lgRestore {w : World} {g : Nat} {s : LG} {F : Nat → Prop} (h : Lg 65 51 w g s F) (i t : Int) (i0 : -9223372036854775808 ≤ i) (i1 : i ≤ 1099511627776) :
    Calls Try.prog 37 #[.pointer (some ⟨g, 0, none⟩), .int .i64 i, .int .i64 t] w fun e w' => e = .returned (.tuple #[]) ∧ Lg 65 51 w' g (s.rest i t) F ∧ Fr F w w' := by
  have CB := Lib.hid (isBegin_any i t w)
  have CM := Lib.hid (lgMatch h i t i0 (by omega))
  have CC := Lib.hid (fun w' (hf : Fr (fun _ => False) w w') => lgCompact (h.fr0 hf) i i0 (by omega))
  have H := Lib.hid h
  obtain ⟨z, hz⟩ : ∃ z : Int, (if s.has i then (0 : Int) else 1) = z := ⟨_, rfl⟩
  rw [hz] at CC
  clear hz
  cases hb : begins i t with
  | false =>
    have HC : Hid (s.rest i t = s) := Lib.hid (by unfold LG.rest; rw [hb]; rfl)
    rw [hb] at CB
    clear h hb CC CM
    go_enter Try.func37, Try.ntmps37
    go_wp2_with fail
    refine CB.out.mono ?_; rintro e w1 ⟨rfl, rfl⟩
    go_wp2
    refine bodyPost_end (results_none rfl _ _ _) rfl ⟨rfl, ?_⟩
    exact ⟨by rw [HC.out]; exact H.out, Fr.refl _ _⟩
  | true =>
    rw [hb] at CB
    cases hm : s.mat i t with
    | true =>
      have HC : Hid (s.rest i t = s.comp i) := Lib.hid (by unfold LG.rest; rw [hb, hm]; rfl)
      rw [hm] at CM
      clear h hb hm
      go_enter Try.func37, Try.ntmps37
      go_wp2_with fail
      refine CB.out.mono ?_; rintro e w1 ⟨rfl, rfl⟩
      go_wp2_with fail
      refine CM.out.mono ?_; rintro e w2 ⟨rfl, hf2⟩
      have C := Lib.hid (CC.out w2 hf2)
      have HF2 := Lib.hid hf2
      clear hf2 CC
      go_wp2_with fail
      refine C.out.mono ?_; rintro e w3 ⟨rfl, h3, hf3⟩
      have H3 := Lib.hid h3
      have HF3 := Lib.hid hf3
      clear h3 hf3 C
      go_wp2
      refine bodyPost_end (results_none rfl _ _ _) rfl ⟨rfl, ?_⟩
      exact ⟨by rw [HC.out]; exact H3.out, (HF2.out.mono (fun _ _ e => e.elim)).trans HF3.out (fun _ _ e => e)⟩
    | false =>
      have hbi : 0 ≤ i := by unfold begins at hb; simp at hb; exact hb.1.1
      have HC : Hid (s.rest i t = ⟨i.toNat, t, []⟩) := Lib.hid (by unfold LG.rest; rw [hb, hm]; rfl)
      have HI : Hid (((i.toNat : Nat) : Int) = i ∧ i ≤ 1099511627776) := Lib.hid (by omega)
      rw [hm] at CM
      clear h hb hm CC hbi
      go_enter Try.func37, Try.ntmps37
      go_wp2_with fail
      refine CB.out.mono ?_; rintro e w1 ⟨rfl, rfl⟩
      go_wp2_with fail
      refine CM.out.mono ?_; rintro e w2 ⟨rfl, hf2⟩
      obtain ⟨v, ps, h1, h2, h3⟩ := H.out.fr0 hf2
      have k0 := h1.c0
      have k1 := h1.c1
      have k2 := h1.c2
      have f0 := h1.blk.frozen 0
      have f1 := h1.blk.frozen 1
      have f2 := h1.blk.frozen 2
      have H1 := Lib.hid h1
      have H2 := Lib.hid h2
      have H3 := Lib.hid h3
      have HF2 := Lib.hid hf2
      clear h1 h2 h3 hf2
      go_wp2
      refine bodyPost_end (results_none rfl _ _ _) rfl ⟨rfl, ?_⟩
      have hfg : Fr (fun x => x = g) w2 (((w2.setCell ⟨g, 0, none⟩ (.int .i64 i)).setCell ⟨g, 1, none⟩ (.int .i64 t)).setCell ⟨g, 2, none⟩ (.slice none 0 0)) :=
        Fr.setCell (S := fun x => x = g) (p := ⟨g, 2, none⟩) (Fr.setCell (S := fun x => x = g) (p := ⟨g, 1, none⟩) (Fr.setCell (S := fun x => x = g) (p := ⟨g, 0, none⟩) (Fr.refl _ _) (fun _ => rfl) _) (fun _ => rfl) _) (fun _ => rfl) _
      have hblk : Bk (((w2.setCell ⟨g, 0, none⟩ (.int .i64 i)).setCell ⟨g, 1, none⟩ (.int .i64 t)).setCell ⟨g, 2, none⟩ (.slice none 0 0)) g 65 #[.int .i64 i, .int .i64 t, .slice none 0 0] := by
        simpa using ((H1.out.blk.set 0 (.int .i64 i)).set 1 (.int .i64 t)).set 2 (.slice none 0 0)
      rw [HC.out]
      refine ⟨⟨_, [], ⟨⟨by have := HI.out; simp only [List.length_nil]; omega, by simp⟩, by simp only; rw [HI.out.1]; exact hblk, OwnE.nil _ _, rfl⟩, fun x hx => ?_, fun x hx => Nat.lt_of_lt_of_le (H3.out x hx) hfg.size⟩, (HF2.out.mono (fun _ _ e => e.elim)).trans hfg (fun x _ e => H2.out _ (.inl e))⟩
      rcases hx with rfl | e | ⟨p, hp, _⟩
      · exact H2.out _ (.inl rfl)
      · simp [Value.ownBlock] at e
      · cases hp
end Go.Proofs.Ytainkckcipdknaa
