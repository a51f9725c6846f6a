/- The walk of CodecRecords. -/
import Derived.Test.YtpkmmohjdcdfeaaDoorHf
namespace Go.Proofs.YtpkmmohjdcdfeaaDoor
open Go.RowKit

/-- A writer (of xs so far) and a row of bytes beside it (ys so far), each its own. -/
def Two (w : World) (g : Nat) (v u : Value) (xs ys : List UInt8) : Prop :=
  Wr w g v xs ∧ Own8 w 5 u ys ∧ u.ownBlock ≠ some g ∧ ∀ x, v.ownBlock = some x → u.ownBlock ≠ some x
theorem Two.fst {w w' : World} {g : Nat} {v v' u : Value} {xs ys xs' : List UInt8} (h : Two w g v u xs ys) (t : WrTo w g v w' v' xs') : Two w' g v' u xs' ys :=
  ⟨t.1, h.2.1.fr t.2.1 (fun k hk hor => hor.elim (fun e => h.2.2.1 (e ▸ hk)) (fun e => h.2.2.2 k e hk)), h.2.2.1, fun x hx hu => by
    rcases t.2.2 with e | ⟨y, e, hy⟩
    · exact h.2.2.2 x (e ▸ hx) hu
    · rw [e] at hx
      injection hx with hx
      have := h.2.1.lt hu
      omega⟩
theorem Two.snd {w w' : World} {g : Nat} {v u u' : Value} {xs ys ys' : List UInt8} (h : Two w g v u xs ys) (t : OwnTo w u w' u' ys') : Two w' g v u' xs ys' :=
  ⟨⟨h.1.1.fr t.2.1 (fun e => h.2.2.1 e), h.1.2.fr t.2.1 (fun k hk e => h.2.2.2 k hk e)⟩, t.1, fun hu => by
    rcases t.2.2 with e | ⟨y, e, hy⟩
    · exact h.2.2.1 (e ▸ hu)
    · rw [e] at hu
      injection hu with hu
      have := h.1.1.lt
      omega, fun x hx hu => by
    rcases t.2.2 with e | ⟨y, e, hy⟩
    · exact h.2.2.2 x hx (e ▸ hu)
    · rw [e] at hu
      injection hu with hu
      have := h.1.2.lt hx
      omega⟩
theorem OwnTo.nb {w w' : World} {u u' : Value} {bs : List UInt8} (h : OwnTo w u w' u' bs) {B : Nat} (hu : From B u) (hB : B ≤ w.heap.size) : Nb B w w' ∧ From B u' ∧ B ≤ w'.heap.size :=
  ⟨h.2.1.nb (fun x hx => hu x hx), hu.moved h.2.2 hB, Nat.le_trans hB h.2.1.size⟩

theorem src_of {w : World} {A : Option Addr} {n : Nat} {xs : List UInt8} (hr : Rd8 w A xs) (hn : xs.length = n) : ∀ ad, A = some ad → 0 < n → ad.block < w.heap.size := fun ad ha h0 => by
  obtain ⟨ad', e, _, hc⟩ := hr (by omega)
  rw [ha] at e
  injection e with e
  subst e
  exact World.block_lt_of_cell? w ⟨ad.block, ad.off + 0, none⟩ (hc 0 (by omega))

set_option maxRecDepth 100000 in
set_option maxHeartbeats 4000000 in
theorem records_any (A : Option Addr) (n c : Nat) (l : List It) (Ab : Option Addr) (nb cb : Nat) (bs : List UInt8) (Aa : Option Addr) (na ca : Nat) (al : List Ak) (w : World) (ht : Tab w) (hE : ErrT w) (hP : PowT w)
    (h : Its w A l) (hn : l.length = n) (hb : (n : Int) ≤ 140737488355328) (hsum : (sizeOf' l : Int) ≤ 4611686018427387904)
    (hr : Rd8 w Ab bs) (hbn : bs.length = nb) (hbc : nb ≤ cb) (hblt : ∀ ad, Ab = some ad → 0 < nb → ad.block < w.heap.size) (hnb : (nb : Int) ≤ 140737488355328)
    (ha : Asks w Aa al) (han : al.length = na) (hna : (na : Int) ≤ 140737488355328) :
    Calls Tryd.prog 3 #[.slice A n c, .slice Ab nb cb, .slice Aa na ca] w fun e w' => e = .returned (.bool true) ∧ Fr (fun _ => False) w w' := by
  have hEl := hE.lt
  have hPl := hP.lt
  generalize hB : w.heap.size = B at *
  have HB := Lib.hid hB
  clear hB
  have fin : ∀ {w'}, Nb B w w' → Fr (fun _ => False) w w' := fun hF => hF.mono (fun x hx h => by have h1 : B ≤ x := h; have h2 := HB.out; omega)
  have FIN := @Lib.hid _ @fin
  clear fin
  go_enter Tryd.func3, Tryd.ntmps3
  go_wp2_with fail
  refine (known_any _ ht hE).mono ?_; rintro e w1 ⟨rfl, hf1⟩
  have hF1 : Nb B w w1 := hf1.nb0 B
  have hs1 : B ≤ w1.heap.size := by have := hf1.size; have := HB.out; omega
  go_wp2_with fail
  refine (few_sum A n c l w1 (h.fr hf1 (fun _ _ h => h)) hn hb hsum (decide (sizeOf' l ≤ 8192)) rfl).mono ?_; rintro e _ ⟨rfl, rfl⟩
  by_cases hsz : sizeOf' l ≤ 8192
  case neg =>
    rw [decide_eq_false hsz]
    go_wp2
    go_ret
    exact ⟨rfl, hf1⟩
  rw [decide_eq_true hsz]
  by_cases hb8 : (8192 : Int) < nb
  · go_wp2
    go_ret
    exact ⟨rfl, hf1⟩
  by_cases ha5 : (500 : Int) < na
  · go_wp2
    go_ret
    exact ⟨rfl, hf1⟩
  have hnb8 : (nb : Int) ≤ 8192 := by omega
  have hna5 : (na : Int) ≤ 500 := by omega
  clear hf1
  go_wp2_with fail
  refine (newWriter_any w1).mono ?_; rintro e w2 ⟨rfl, rfl⟩
  have hwr0 : Wr (w1.alloc (.cells #[.slice none 0 0] 68)) w1.heap.size (.slice none 0 0) [] := ⟨Bk.new _ _ _, Own8.nil _ _⟩
  have hF2 : Nb B w (w1.alloc (.cells #[.slice none 0 0] 68)) := hF1.alloc _
  have hs2 : B ≤ (w1.alloc (.cells #[.slice none 0 0] 68)).heap.size := by simp; omega
  have htwo0 : Two (w1.alloc (.cells #[.slice none 0 0] 68)) w1.heap.size (.slice none 0 0) (.slice none 0 0) [] [] := ⟨hwr0, Own8.nil _ _, by simp [Value.ownBlock], fun x hx => by simp [Value.ownBlock] at hx⟩
  generalize w1.alloc (.cells #[.slice none 0 0] 68) = w2 at *
  generalize w1.heap.size = gw at *
  clear hwr0
  go_wp2_with fail
  go_loopw [8, 9] (fun u' i wr => ∃ (k : Nat) (v u : Value), (k : Int) ≤ n ∧ i = .int .i64 k ∧ u = u' ∧ Two wr gw v u (itsEnc (l.take k)) (itsEnc (l.take k)) ∧ From B v ∧ From B u ∧ Nb B w wr ∧ B ≤ wr.heap.size) (fun _ i _ => n - (intOf i).toNat)
  case atStart => exact ⟨0, _, _, by omega, rfl, rfl, htwo0, From.nil _ _ _, From.nil _ _ _, hF2, hs2⟩
  case round =>
    clear htwo0
    obtain ⟨k, v, u, hk, rfl, rfl, htwo, hfrom, hfromu, hFk, hsk⟩ := hrel
    by_cases hlt : (k : Int) < n
    · obtain ⟨g2, o2, rfl, hx⟩ := h (by omega)
      have hle := itsEnc_le l w g2 o2 hx k (by omega)
      have hmono := sizeOf'_mono l k
      have hmem := size_mem l k (by omega)
      have hlb : (itsEnc (l.take k)).length ≤ 8192 := by omega
      have hdl0 := (hx k (by omega)).lt
      have hi0 := hx k (by omega)
      have hbkB : ∀ x, x < w.heap.size → ¬ B ≤ x := fun x hx' e => by have := HB.out; omega
      have hi := hi0.fr hFk hbkB
      have hgi := Lib.hid (itsEnc_take l k (by omega))
      generalize (l[k]'(by omega)) = it at *
      have HI := Lib.hid (fun w' (hf : Nb B w w') => hi0.fr hf hbkB)
      obtain ⟨isB, num, ad, cp, ib⟩ := it
      have d0 := hi.c0
      have d1 := hi.c1
      have d2 := hi.c2
      have dr := hi.rd
      have dlo := hi.lo
      have dhi := hi.hi
      simp only at d0 d1 d2 dr dlo dhi hdl0 hmem
      have hap : Apart (fun x => x = gw ∨ v.ownBlock = some x) ad ib.length := fun ad' e h0 hor => by
        have h1 := hdl0 ad' e h0
        have h2 := HB.out
        rcases hor with h3 | h3
        · omega
        · have := hfrom _ h3; omega
      have hapu : ∀ ad', ad = some ad' → 0 < ib.length → u.ownBlock ≠ some ad'.block := fun ad' e h0 h3 => by
        have h1 := hdl0 ad' e h0
        have := hfromu _ h3
        have h2 := HB.out
        omega
      have hbl : ib.length ≤ 8192 := by omega
      clear hx hi hi0 hdl0 hle hmono hmem hbkB
      cases isB
      · go_wp2_with fail
        refine (wInt_any gw v num (itsEnc (l.take k)) wr dlo dhi htwo.1 (by omega)).mono ?_; rintro e w3 ⟨rfl, v3, hw3⟩
        have hn3 := hw3.nb hs1 hfrom hsk
        have htwo3 := htwo.fst hw3
        have hF3 := hFk.add hn3.1
        have hi3 := HI.out _ hF3
        have e0 := hi3.c0
        have e1 := hi3.c1
        have e2 := hi3.c2
        simp only at e0 e1 e2
        clear htwo hw3 d0 d1 d2 dr hi3 hap hapu
        go_wp2_with fail
        refine (refWInt_any u num (itsEnc (l.take k)) w3 dlo dhi htwo3.2.1 (by omega)).mono ?_; rintro e w4 ⟨u4, rfl, hw4⟩
        have hn4 := hw4.nb hfromu hn3.2.2
        have htwo4 := htwo3.snd hw4
        go_wp2
        go_roundw
        case rel =>
          refine ⟨k + 1, v3, _, by omega, by go_num, rfl, ?_, hn3.2.1, hn4.2.1, hF3.add hn4.1, hn4.2.2⟩
          rw [hgi.out]
          simpa [itEnc] using htwo4
        case measure => simp [intOf]; omega
      · go_wp2_with fail
        refine (wBytes_any gw v (itsEnc (l.take k)) ad ib.length cp ib wr htwo.1 (by omega) dr rfl (by omega) hap).mono ?_; rintro e w3 ⟨rfl, v3, hw3⟩
        have hn3 := hw3.nb hs1 hfrom hsk
        have htwo3 := htwo.fst hw3
        have hF3 := hFk.add hn3.1
        have hi3 := HI.out _ hF3
        have e0 := hi3.c0
        have e1 := hi3.c1
        have e2 := hi3.c2
        have er := hi3.rd
        simp only at e0 e1 e2 er
        clear htwo hw3 d0 d1 d2 dr hi3 hap
        go_wp2_with fail
        refine (refWBytes_any u (itsEnc (l.take k)) ad ib.length cp ib w3 htwo3.2.1 (by omega) er rfl (by omega) hapu).mono ?_; rintro e w4 ⟨u4, rfl, hw4⟩
        have hn4 := hw4.nb hfromu hn3.2.2
        have htwo4 := htwo3.snd hw4
        go_wp2
        go_roundw
        case rel =>
          refine ⟨k + 1, v3, _, by omega, by go_num, rfl, ?_, hn3.2.1, hn4.2.1, hF3.add hn4.1, hn4.2.2⟩
          rw [hgi.out]
          simpa [itEnc, foldN_nat] using htwo4
        case measure => simp [intOf]; omega
    · have hkn : k = n := by omega
      subst hkn
      rw [List.take_of_length_le (by omega)] at htwo
      have hlb : (itsEnc l).length ≤ 8192 := by
        rcases Nat.eq_zero_or_pos l.length with h0 | h0
        · rw [List.eq_nil_of_length_eq_zero h0]; simp [itsEnc]
        · obtain ⟨g2, o2, _, hx⟩ := h h0
          have := itsEnc_le l w g2 o2 hx l.length (Nat.le_refl _)
          rw [List.take_of_length_le (Nat.le_refl _)] at this
          omega
      obtain ⟨A2, c2, rfl, hc2⟩ : ∃ A2 c2, u = .slice A2 (itsEnc l).length c2 ∧ (itsEnc l).length ≤ c2 := by
        rcases htwo.2.1.form with ⟨e, h0⟩ | ⟨g9, cap, e, h1, _⟩
        · exact ⟨none, 0, by rw [e, h0]; rfl, by rw [h0]; exact Nat.le_refl _⟩
        · exact ⟨_, cap, e, h1⟩
      have hbk : ∀ x, x < w.heap.size → ¬ B ≤ x := fun x hx' e => by have := HB.out; omega
      have CD := Lib.hid (fun w' (hf : Fr (fun _ => False) wr w') => wDone_any gw v (itsEnc l) w' ⟨htwo.1.1.fr hf (fun h => h), htwo.1.2.fr hf (fun _ _ h => h)⟩ (by omega))
      have FW := Lib.hid (fun w' (hf : Fr (fun _ => False) wr w') => run_str8 Tryd.t8 Tryd.underlying5 Tryd.underlying9 c2 (htwo.2.1.rd.fr hf (fun _ _ _ h => h)) rfl)
      have CB := Lib.hid (fun w' (hf : Fr (fun _ => False) wr w') => reads_any Ab nb cb bs Aa na ca al w' (hE.fr (hFk.add (hf.nb0 B)) (fun h => by have h' : B ≤ 1 := h; omega)) (hP.fr (hFk.add (hf.nb0 B)) (fun h => by have h' : B ≤ 2 := h; omega))
        (hr.fr (hFk.add (hf.nb0 B)) (fun ad ha h0 h => by have h' : B ≤ ad.block := h; have := hblt ad ha (hbn ▸ h0); omega)) hbn hbc (by omega) (fun ad e h0 => by have h1 := hblt ad e h0; have h2 := hf.size; omega) (ha.fr (hFk.add (hf.nb0 B)) hbk) han (by omega))
      have CW := Lib.hid (fun w' (hf : Fr (fun _ => False) wr w') => reads_any A2 (itsEnc l).length c2 (itsEnc l) Aa na ca al w' (hE.fr (hFk.add (hf.nb0 B)) (fun h => by have h' : B ≤ 1 := h; omega)) (hP.fr (hFk.add (hf.nb0 B)) (fun h => by have h' : B ≤ 2 := h; omega))
        (htwo.2.1.rd.fr hf (fun _ _ _ h => h)) rfl hc2 (by omega) (src_of (htwo.2.1.rd.fr hf (fun _ _ _ h => h)) rfl) (ha.fr (hFk.add (hf.nb0 B)) hbk) han (by omega))
      have heq : ((strOf (itsEnc l)).toList == (strOf (itsEnc l)).toList) = true := by simp
      clear htwo hr hblt ha hE hP ht h hfrom hfromu hbk hF1 hF2 hs1 hs2 hbn hbc han
      generalize itsEnc l = xs at *
      go_upto_region 17 with (fail)
      refine wp_region_held_drew (S := fun w' => Fr (fun _ => False) wr w') (by kernel_rfl) ((Fr.refl _ _).drew) (fun hHeld => ?_)
      refine wpAnyH_takeD (i := 0) (v := ?_) (some 67) rfl rfl (by kernel_rfl) (by kernel_rfl) (by kernel_rfl) (fun _ _ _ h => h) (Or.inl ⟨by rfl, ?_⟩) (by assumption) ?_
      rotate_left
      · intro w' hSw
        go_simp
        first | done | with_reducible rfl
      try simp only [Act.put, List.setIfInBounds_toArray, List.set_cons_zero, List.set_cons_succ]
      refine wpAnyH_takeD (i := 3) (v := ?_) (some 70) rfl rfl (by kernel_rfl) (by kernel_rfl) (by kernel_rfl) (fun _ _ _ h => h) (Or.inl ⟨by rfl, ?_⟩) (by assumption) ?_
      rotate_left
      · intro w' hSw
        go_simp
        first | done | with_reducible rfl
      try simp only [Act.put, List.setIfInBounds_toArray, List.set_cons_zero, List.set_cons_succ]
      refine wpAnyH_takeD (i := 4) (v := ?_) (some 71) rfl rfl (by kernel_rfl) (by kernel_rfl) (by kernel_rfl) (fun _ _ _ h => h) (Or.inl ⟨by rfl, ?_⟩) (by assumption) ?_
      rotate_left
      · intro w' hSw
        have s1 := FW.out w' hSw
        go_simp
        first | done | with_reducible rfl
      try simp only [Act.put, List.setIfInBounds_toArray, List.set_cons_zero, List.set_cons_succ]
      refine wpAnyH_ready (rs := [1]) (by kernel_rfl) (by simp) ?_
      refine AllReadyH.cons rfl (fun K hK => ?_) AllReadyH.nil
      go_simp
      refine (CD.out _ hHeld).mono ?_; rintro e w3 ⟨A3, c3, rfl, ho3, hr3⟩
      have s3 := run_str8 Tryd.t8 Tryd.underlying5 Tryd.underlying9 c3 ho3.rd rfl
      try go_simp
      refine hK.out _ _ (hHeld.trans hr3.1 (fun _ _ h => h)) (fun hHeld => ?_)
      clear hK K
      try change wpAnyH _ _ _ _ _ _ _ (Act.put _ (some 68) _) _
      try simp only [Act.put, List.setIfInBounds_toArray, List.set_cons_zero, List.set_cons_succ]
      refine wpAnyH_ready (rs := [2]) (by kernel_rfl) (by simp) ?_
      refine AllReadyH.cons rfl (fun K hK => ?_) AllReadyH.nil
      go_simp
      refine hK.out _ _ (hHeld) (fun hHeld => ?_)
      clear hK K
      try change wpAnyH _ _ _ _ _ _ _ (Act.put _ (some 69) _) _
      try simp only [Act.put, List.setIfInBounds_toArray, List.set_cons_zero, List.set_cons_succ]
      clear s3 ho3 hr3
      refine wpAnyH_takeD (i := 5) (v := ?_) (some 72) rfl rfl (by kernel_rfl) (by kernel_rfl) (by kernel_rfl) (fun _ _ _ h => h) (Or.inl ⟨by rfl, ?_⟩) (by assumption) ?_
      rotate_left
      · intro w' hSw
        go_simp
        first | done | with_reducible rfl
      try simp only [Act.put, List.setIfInBounds_toArray, List.set_cons_zero, List.set_cons_succ]
      refine wpAnyH_takeD (i := 6) (v := ?_) (some 73) rfl rfl (by kernel_rfl) (by kernel_rfl) (by kernel_rfl) (fun _ _ _ h => h) (Or.inl ⟨by rfl, ?_⟩) (by assumption) ?_
      rotate_left
      · intro w' hSw
        go_simp
        first | done | with_reducible rfl
      try simp only [Act.put, List.setIfInBounds_toArray, List.set_cons_zero, List.set_cons_succ]
      refine wpAnyH_takeD (i := 7) (v := ?_) (some 74) rfl rfl (by kernel_rfl) (by kernel_rfl) (by kernel_rfl) (fun _ _ _ h => h) (Or.inl ⟨by rfl, ?_⟩) (by assumption) ?_
      rotate_left
      · intro w' hSw
        go_simp
        first | done | with_reducible rfl
      try simp only [Act.put, List.setIfInBounds_toArray, List.set_cons_zero, List.set_cons_succ]
      refine wpAnyH_takeD (i := 8) (v := ?_) (some 75) rfl rfl (by kernel_rfl) (by kernel_rfl) (by kernel_rfl) (fun _ _ _ h => h) (Or.inl ⟨by rfl, ?_⟩) (by assumption) ?_
      rotate_left
      · intro w' hSw
        go_simp
        first | done | with_reducible rfl
      try simp only [Act.put, List.setIfInBounds_toArray, List.set_cons_zero, List.set_cons_succ]
      refine wpAnyH_ready (rs := [9]) (by kernel_rfl) (by simp) ?_
      refine AllReadyH.cons rfl (fun K hK => ?_) AllReadyH.nil
      go_simp
      refine (CB.out _ hHeld).mono ?_; rintro e w4 ⟨rfl, hf4⟩
      try go_simp
      refine hK.out _ _ (hHeld.trans hf4 (fun _ _ h => h)) (fun hHeld => ?_)
      clear hK K
      try change wpAnyH _ _ _ _ _ _ _ (Act.put _ (some 76) _) _
      try simp only [Act.put, List.setIfInBounds_toArray, List.set_cons_zero, List.set_cons_succ]
      refine wpAnyH_takeD (i := 10) (v := ?_) (some 77) rfl rfl (by kernel_rfl) (by kernel_rfl) (by kernel_rfl) (fun _ _ _ h => h) (Or.inl ⟨by rfl, ?_⟩) (by assumption) ?_
      rotate_left
      · intro w' hSw
        go_simp
        first | done | with_reducible rfl
      try simp only [Act.put, List.setIfInBounds_toArray, List.set_cons_zero, List.set_cons_succ]
      refine wpAnyH_takeD (i := 11) (v := ?_) (some 78) rfl rfl (by kernel_rfl) (by kernel_rfl) (by kernel_rfl) (fun _ _ _ h => h) (Or.inl ⟨by rfl, ?_⟩) (by assumption) ?_
      rotate_left
      · intro w' hSw
        go_simp
        first | done | with_reducible rfl
      try simp only [Act.put, List.setIfInBounds_toArray, List.set_cons_zero, List.set_cons_succ]
      refine wpAnyH_takeD (i := 12) (v := ?_) (some 79) rfl rfl (by kernel_rfl) (by kernel_rfl) (by kernel_rfl) (fun _ _ _ h => h) (Or.inl ⟨by rfl, ?_⟩) (by assumption) ?_
      rotate_left
      · intro w' hSw
        go_simp
        first | done | with_reducible rfl
      try simp only [Act.put, List.setIfInBounds_toArray, List.set_cons_zero, List.set_cons_succ]
      refine wpAnyH_takeD (i := 13) (v := ?_) (some 80) rfl rfl (by kernel_rfl) (by kernel_rfl) (by kernel_rfl) (fun _ _ _ h => h) (Or.inl ⟨by rfl, ?_⟩) (by assumption) ?_
      rotate_left
      · intro w' hSw
        go_simp
        first | done | with_reducible rfl
      try simp only [Act.put, List.setIfInBounds_toArray, List.set_cons_zero, List.set_cons_succ]
      refine wpAnyH_ready (rs := [14]) (by kernel_rfl) (by simp) ?_
      refine AllReadyH.cons rfl (fun K hK => ?_) AllReadyH.nil
      go_simp
      refine (CW.out _ hHeld).mono ?_; rintro e w5 ⟨rfl, hf5⟩
      try go_simp
      refine hK.out _ _ (hHeld.trans hf5 (fun _ _ h => h)) (fun hHeld => ?_)
      clear hK K
      try change wpAnyH _ _ _ _ _ _ _ (Act.put _ (some 81) _) _
      try simp only [Act.put, List.setIfInBounds_toArray, List.set_cons_zero, List.set_cons_succ]
      refine wpAnyH_takeD (i := 15) (v := ?_) (some 82) rfl rfl (by kernel_rfl) (by kernel_rfl) (by kernel_rfl) (fun _ _ _ h => h) (Or.inl ⟨by rfl, ?_⟩) (by assumption) ?_
      rotate_left
      · intro w' hSw
        go_simp
        first | done | with_reducible rfl
      try simp only [Act.put, List.setIfInBounds_toArray, List.set_cons_zero, List.set_cons_succ]
      refine wpAnyH_takeD (i := 16) (v := ?_) (some 6) rfl rfl (by kernel_rfl) (by kernel_rfl) (by kernel_rfl) (fun _ _ _ h => h) (Or.inl ⟨by rfl, ?_⟩) (by assumption) ?_
      rotate_left
      · intro w' hSw
        go_simp
        first | done | with_reducible rfl
      try simp only [Act.put, List.setIfInBounds_toArray, List.set_cons_zero, List.set_cons_succ]
      refine wpAnyH_done (by kernel_rfl) ?_ _
      go_wp2
      go_ret
      exact ⟨rfl, FIN.out (hFk.add (hHeld.nb0 B))⟩

end Go.Proofs.YtpkmmohjdcdfeaaDoor
