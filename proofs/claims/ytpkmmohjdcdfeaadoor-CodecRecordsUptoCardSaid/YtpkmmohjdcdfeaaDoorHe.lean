/- Any reads, by both readers: the walk of reads. -/
import Derived.Test.YtpkmmohjdcdfeaaDoorHd
namespace Go.Proofs.YtpkmmohjdcdfeaaDoor
open Go.RowKit

/-- What is held may be held with more beside. -/
theorem wpAnyH_more {P : Program} {md : Region.Mode} {ops : Array Oper} {Q : Exit → Act → World → Prop} {S S' : World → Prop} (hSS : ∀ w, S' w → S w) : ∀ (fuel : Nat) (listed : Array Bool) (a : Act) (w : World), wpAnyH P md ops Q S' fuel listed a w → wpAnyH P md ops Q S fuel listed a w
  | 0, _, _, _, h => h
  | fuel + 1, _, _, _, h => ⟨h.1, fun i hi => wpOp_mono (fun a' w' h' => ⟨hSS _ h'.1, wpAnyH_more hSS fuel _ a' w' h'.2⟩) (h.2 i hi)⟩

set_option maxRecDepth 100000 in
set_option maxHeartbeats 4000000 in
theorem reads_any (A : Option Addr) (n c : Nat) (xs : List UInt8) (Aa : Option Addr) (na ca : Nat) (l : List Ak) (w : World) (hE : ErrT w) (hP : PowT w) (hr : Rd8 w A xs) (hn : xs.length = n) (hnc : n ≤ c) (hnb : (n : Int) ≤ 1000000) (hlt : ∀ ad, A = some ad → 0 < n → ad.block < w.heap.size)
    (ha : Asks w Aa l) (hal : l.length = na) (hna : (na : Int) ≤ 1000) :
    Calls Tryd.prog 13 #[.slice A n c, .slice Aa na ca] w fun e w' => e = .returned (.bool true) ∧ Fr (fun _ => False) w w' := by
  have hEl := hE.lt
  have hPl := hP.lt
  generalize hB : w.heap.size = B at *
  have HB := Lib.hid hB
  clear hB
  have fin : ∀ {w'}, Nb B w w' → Fr (fun _ => False) w w' := fun hF => hF.mono (fun x hx h => by have h1 : B ≤ x := h; have h2 := HB.out; omega)
  have FIN := @Lib.hid _ @fin
  clear fin
  have hb : (n : Int) ≤ 140737488355328 := by omega
  go_enter Tryd.func13, Tryd.ntmps13
  go_wp2_with fail
  refine (newReader_any A n c xs w hr hn (by omega)).mono ?_
  rintro e w2 ⟨g, A', c', rfl, hrd, hf2, hg1⟩
  have hF2 : Nb B w w2 := hf2.nb0 B
  have hs2 : B ≤ w2.heap.size := by have := hf2.size; have := HB.out; omega
  have hgB : B ≤ g := by have := HB.out; omega
  have hglt : g < w2.heap.size := by obtain ⟨_, fat, what, h⟩ := hrd; exact h.bk.lt
  clear hf2 hg1
  have hq3 : Fr (fun _ => False) w2 (w2.alloc (.cells #[.slice A n c, .int .i64 0, .int .i64 0, .int .i64 0, .string ⟨#[]⟩] 74)) := (Fr.refl _ _).alloc _
  have hF3 : Nb B w (w2.alloc (.cells #[.slice A n c, .int .i64 0, .int .i64 0, .int .i64 0, .string ⟨#[]⟩] 74)) := hF2.add (hq3.nb0 B)
  have hrd3 := hrd.quiet hq3
  have hrr3 : RRAt (w2.alloc (.cells #[.slice A n c, .int .i64 0, .int .i64 0, .int .i64 0, .string ⟨#[]⟩] 74)) w2.heap.size A n c xs (.at_ 0) :=
    ⟨Nat.zero_le _, 0, ⟨#[]⟩, { bk := Bk.new _ _ _, rd := hr.fr hF3 (fun ad ha h0 h => by have h' : B ≤ ad.block := h; have := hlt ad ha (hn ▸ h0); omega), len := hn, cap := hnc, big := hb, apart := fun ad ha h0 h => by have := hlt ad ha h0; omega }⟩
  have hne : g ≠ w2.heap.size := by omega
  have hg2B : B ≤ w2.heap.size := hs2
  have hgE : g ≠ 1 := by omega
  have HA := Lib.hid hlt
  have HS := Lib.hid (fun ad (ha : A' = some ad) (h0 : 0 < n) => Nat.ne_of_lt (hrd.src ad ha h0))
  clear hr hrd hF2 hq3 hglt hlt hs2 hnc
  go_wp2_with fail
  generalize w2.alloc (.cells #[.slice A n c, .int .i64 0, .int .i64 0, .int .i64 0, .string ⟨#[]⟩] 74) = w3 at *
  generalize w2.heap.size = g2 at *
  have HE := Lib.hid (fun w' (hf : Nb B w w') => hE.fr hf (fun h => by have h' : B ≤ 1 := h; omega))
  have HP := Lib.hid (fun w' (hf : Nb B w w') => hP.fr hf (fun h => by have h' : B ≤ 2 := h; omega))
  have HK := Lib.hid (fun w' (hf : Nb B w w') => ha.fr hf (fun k hk h => by have h' : B ≤ k := h; have := HB.out; omega))
  have HGE := Lib.hid hgE
  have HNE := Lib.hid hne
  have HN := Lib.hid hn
  clear hE hP hgE hne hn ha
  go_loopw [7] (fun i wr => ∃ (k : Nat) (s : St), k ≤ na ∧ i = .int .i64 k ∧ Sound n s ∧ RdAt wr g A' n c' xs s ∧ RRAt wr g2 A n c xs s ∧ Nb B w wr) (fun i _ => na - (intOf i).toNat)
  case atStart => exact ⟨0, .at_ 0, Nat.zero_le _, rfl, Nat.zero_le _, hrd3, hrr3, hF3⟩
  case round =>
    clear hrd3 hrr3 hF3
    obtain ⟨k, s, hk, rfl, hal1, hrd, hrr, hF⟩ := hrel
    by_cases hkn : k < na
    · have hkn' : (k : Int) < na := by omega
      obtain ⟨ga, oa, rfl, hx⟩ := HK.out _ hF (by omega)
      have hat := hx k (by omega)
      obtain ⟨c0, c1, c2⟩ := hat
      generalize hask : l[k]'(by omega) = q at *
      obtain ⟨kind, lo, hi⟩ := q
      simp only at c0 c1 c2
      clear hx hask
      have hAk := Bk.new wr 76 #[.int .i64 kind, .int .i64 lo, .int .i64 hi]
      have hfa : Fr (fun _ => False) wr (wr.alloc (.cells #[.int .i64 kind, .int .i64 lo, .int .i64 hi] 76)) := (Fr.refl _ _).alloc _
      have hrdA := hrd.quiet hfa
      have hrrA := hrr.quiet hfa
      have hFA := hF.add (hfa.nb0 B)
      have hgab : g ≠ wr.heap.size := by
        cases s with
        | at_ j => obtain ⟨_, _, _, h⟩ := hrd; have := h.bk.lt; omega
        | bad er a w0 => obtain ⟨_, _, h⟩ := hrd; have := h.bk.lt; omega
      have hg2ab : g2 ≠ wr.heap.size := by
        cases s with
        | at_ j => obtain ⟨_, _, _, h⟩ := hrr; have := h.bk.lt; omega
        | bad er a w0 => obtain ⟨_, _, h⟩ := hrr; have := h.bk.lt; omega
      have hlen := dec_len (n := k) (by omega)
      clear hrd hrr hF
      go_wp2_with fail
      generalize wr.alloc (.cells #[.int .i64 kind, .int .i64 lo, .int .i64 hi] 76) = v0 at *
      generalize wr.heap.size = ab at *
      clear hfa c0 c1 c2
      refine (decimal_any k v0 (by omega)).mono ?_; rintro e v1 ⟨rfl, hf1⟩
      have hAk1 := hAk.fr hf1 (fun h => h)
      have hrd1 := hrdA.quiet hf1
      have hrr1 := hrrA.quiet hf1
      have hF1 := hFA.add (hf1.nb0 B)
      have hsz : (strOf (Lib.decDigits k)).size ≤ 20 := by rw [strOf_size]; exact hlen
      generalize strOf (Lib.decDigits k) = ds at *
      clear hAk hrdA hrrA hFA hf1 hlen
      have c0 : v1.cell? ⟨ab, 0, none⟩ = some (.int .i64 kind) := hAk1.cell 0
      have c1 : v1.cell? ⟨ab, 1, none⟩ = some (.int .i64 lo) := hAk1.cell 1
      have c2 : v1.cell? ⟨ab, 2, none⟩ = some (.int .i64 hi) := hAk1.cell 2
      have hws : ((⟨#[119]⟩ : ByteArray) ++ ds).size ≤ 1000000 := by
        rw [ByteArray.size_append]
        have : (⟨#[119]⟩ : ByteArray).size = 1 := rfl
        omega
      have TOR := Lib.hid (fun (q : St) (x y : World) (h : RRAt x g2 A n c xs q) (hf : Fr (fun z => z = g) x y) => show RRAt y g2 A n c xs q from
        h.fr hf (fun h => HNE.out h.symm) (fun ad ha h0 h => by have := HA.out ad ha h0; have h' : ad.block = g := h; omega))
      have TOD := Lib.hid (fun (q : St) (x y : World) (h : RdAt x g A' n c' xs q) (hf : Fr (fun z => z = g2) x y) => show RdAt y g A' n c' xs q from
        h.fr hf (fun h => HNE.out h) (fun ad ha h0 h => HS.out ad ha h0 h))
      have TB1 := Lib.hid (fun (x y : World) (h : Nb B w x) (hf : Fr (fun z => z = g) x y) => show Nb B w y from h.add (hf.mono (fun x _ h => by have h' : x = g := h; omega)))
      have TB2 := Lib.hid (fun (x y : World) (h : Nb B w x) (hf : Fr (fun z => z = g2) x y) => show Nb B w y from h.add (hf.mono (fun x _ h => by have h' : x = g2 := h; omega)))
      have TA := Lib.hid (fun (x y : World) (h : Bk x ab 76 #[.int .i64 kind, .int .i64 lo, .int .i64 hi]) (hf : Fr (fun z => z = g) x y) => show Bk y ab 76 #[.int .i64 kind, .int .i64 lo, .int .i64 hi] from h.fr hf (fun h => hgab h.symm))
      have SI := Lib.hid (sound_int HN.out hws hal1)
      have SB := Lib.hid (sound_between (lo := lo) (hi := hi) HN.out hws hal1)
      have SY := Lib.hid (sound_bytes (most := hi) HN.out hws hal1)
      clear hal1 hws
      by_cases hk1 : kind = 1
      · subst hk1
        go_wp2_with fail
        generalize (⟨#[119]⟩ : ByteArray) ++ ds = wh at *
        refine (rInt_any hrd1 (HE.out _ hF1) wh HGE.out).mono ?_; rintro e v2 ⟨rfl, hrd2, hf2⟩
        have hrr2 := TOR.out _ _ _ hrr1 hf2
        have hF2 := TB1.out _ _ hF1 hf2
        clear hrd1 hrr1 hF1 hf2 hAk1 c0 c1 c2
        go_wp2_with fail
        refine (refInt_any hrr2 wh).mono ?_; rintro e v3 ⟨rfl, hrr3, hf3⟩
        have hrd3 := TOD.out _ _ _ hrd2 hf3
        have hF3 := TB2.out _ _ hF2 hf3
        clear hrd2 hrr2 hF2 hf3
        generalize stInt xs wh s = q at *
        go_wp2
        go_roundw
        case rel => exact ⟨k + 1, q.2, by omega, by go_num, SI.out, hrd3, hrr3, hF3⟩
        case measure => simp [intOf]; omega
      · have hk1' : (kind == 1) = false := by rw [beq_eq_false_iff_ne]; exact hk1
        by_cases hk2 : kind = 2
        · subst hk2
          go_upto_region 17 with (fail)
          generalize (⟨#[119]⟩ : ByteArray) ++ ds = wh at *
          have CB := Lib.hid (fun x (h : RdAt x g A' n c' xs s) (hF : Nb B w x) => rBetween_any h (HE.out _ hF) wh HGE.out lo hi)
          have CR := Lib.hid (fun x (h : RRAt x g2 A n c xs s) => refBetween_any h (by omega) wh lo hi)
          generalize stBetween xs wh lo hi s = q at *
          have hq : Fr (fun _ => False) v1 v1.drew := (Fr.refl _ _).drew
          have HC1 := Lib.hid (fun w' (hf : Fr (fun x => x = g ∨ x = g2) v1 w') => show w'.cell? ⟨ab, 1, none⟩ = some (.int .i64 lo) from (hAk1.fr hf (fun h => h.elim (fun h => hgab h.symm) (fun h => hg2ab h.symm))).cell 1)
          have HC2 := Lib.hid (fun w' (hf : Fr (fun x => x = g ∨ x = g2) v1 w') => show w'.cell? ⟨ab, 2, none⟩ = some (.int .i64 hi) from (hAk1.fr hf (fun h => h.elim (fun h => hgab h.symm) (fun h => hg2ab h.symm))).cell 2)
          clear c0 c1 c2
          refine wp_region_held_drew (S := fun w' => Fr (fun x => x = g ∨ x = g2) v1 w') (by kernel_rfl) ((Fr.refl _ _).drew) (fun hHeld => ?_)
          refine wpAnyH_takeD (i := 0) (v := ?_) (some 56) rfl rfl (by kernel_rfl) (by kernel_rfl) (by kernel_rfl) (fun _ _ _ h => h) (Or.inl ⟨by rfl, ?_⟩) (by assumption) ?_
          rotate_left
          · intro w' hSw
            go_simp
            first | done | with_reducible rfl
          try simp only [Act.put, List.setIfInBounds_toArray, List.set_cons_zero, List.set_cons_succ]
          refine wpAnyH_takeD (i := 1) (v := ?_) (some 57) rfl rfl (by kernel_rfl) (by kernel_rfl) (by kernel_rfl) (fun _ _ _ h => h) (Or.inl ⟨by rfl, ?_⟩) (by assumption) ?_
          rotate_left
          · intro w' hSw
            go_simp
            first | done | with_reducible rfl
          try simp only [Act.put, List.setIfInBounds_toArray, List.set_cons_zero, List.set_cons_succ]
          refine wpAnyH_takeD (i := 2) (v := ?_) (some 58) rfl rfl (by kernel_rfl) (by kernel_rfl) (by kernel_rfl) (fun _ _ _ h => h) (Or.inl ⟨by rfl, ?_⟩) (by assumption) ?_
          rotate_left
          · intro w' hSw
            go_simp
            first | done | with_reducible rfl
          try simp only [Act.put, List.setIfInBounds_toArray, List.set_cons_zero, List.set_cons_succ]
          refine wpAnyH_takeD (i := 3) (v := ?_) (some 59) rfl rfl (by kernel_rfl) (by kernel_rfl) (by kernel_rfl) (fun _ _ _ h => h) (Or.inl ⟨by rfl, ?_⟩) (by assumption) ?_
          rotate_left
          · intro w' hSw
            have q1 := HC1.out w' hSw
            go_simp
            first | done | with_reducible rfl
          try simp only [Act.put, List.setIfInBounds_toArray, List.set_cons_zero, List.set_cons_succ]
          refine wpAnyH_takeD (i := 4) (v := ?_) (some 60) rfl rfl (by kernel_rfl) (by kernel_rfl) (by kernel_rfl) (fun _ _ _ h => h) (Or.inl ⟨by rfl, ?_⟩) (by assumption) ?_
          rotate_left
          · intro w' hSw
            go_simp
            first | done | with_reducible rfl
          try simp only [Act.put, List.setIfInBounds_toArray, List.set_cons_zero, List.set_cons_succ]
          refine wpAnyH_takeD (i := 5) (v := ?_) (some 61) rfl rfl (by kernel_rfl) (by kernel_rfl) (by kernel_rfl) (fun _ _ _ h => h) (Or.inl ⟨by rfl, ?_⟩) (by assumption) ?_
          rotate_left
          · intro w' hSw
            have q2 := HC2.out w' hSw
            go_simp
            first | done | with_reducible rfl
          try simp only [Act.put, List.setIfInBounds_toArray, List.set_cons_zero, List.set_cons_succ]
          refine wpAnyH_takeD (i := 7) (v := ?_) (some 63) rfl rfl (by kernel_rfl) (by kernel_rfl) (by kernel_rfl) (fun _ _ _ h => h) (Or.inl ⟨by rfl, ?_⟩) (by assumption) ?_
          rotate_left
          · intro w' hSw
            go_simp
            first | done | with_reducible rfl
          try simp only [Act.put, List.setIfInBounds_toArray, List.set_cons_zero, List.set_cons_succ]
          refine wpAnyH_takeD (i := 8) (v := ?_) (some 64) rfl rfl (by kernel_rfl) (by kernel_rfl) (by kernel_rfl) (fun _ _ _ h => h) (Or.inl ⟨by rfl, ?_⟩) (by assumption) ?_
          rotate_left
          · intro w' hSw
            go_simp
            first | done | with_reducible rfl
          try simp only [Act.put, List.setIfInBounds_toArray, List.set_cons_zero, List.set_cons_succ]
          refine wpAnyH_takeD (i := 9) (v := ?_) (some 65) rfl rfl (by kernel_rfl) (by kernel_rfl) (by kernel_rfl) (fun _ _ _ h => h) (Or.inl ⟨by rfl, ?_⟩) (by assumption) ?_
          rotate_left
          · intro w' hSw
            go_simp
            first | done | with_reducible rfl
          try simp only [Act.put, List.setIfInBounds_toArray, List.set_cons_zero, List.set_cons_succ]
          refine wpAnyH_takeD (i := 10) (v := ?_) (some 66) rfl rfl (by kernel_rfl) (by kernel_rfl) (by kernel_rfl) (fun _ _ _ h => h) (Or.inl ⟨by rfl, ?_⟩) (by assumption) ?_
          rotate_left
          · intro w' hSw
            have q1 := HC1.out w' hSw
            go_simp
            first | done | with_reducible rfl
          try simp only [Act.put, List.setIfInBounds_toArray, List.set_cons_zero, List.set_cons_succ]
          refine wpAnyH_takeD (i := 11) (v := ?_) (some 67) rfl rfl (by kernel_rfl) (by kernel_rfl) (by kernel_rfl) (fun _ _ _ h => h) (Or.inl ⟨by rfl, ?_⟩) (by assumption) ?_
          rotate_left
          · intro w' hSw
            go_simp
            first | done | with_reducible rfl
          try simp only [Act.put, List.setIfInBounds_toArray, List.set_cons_zero, List.set_cons_succ]
          refine wpAnyH_takeD (i := 12) (v := ?_) (some 68) rfl rfl (by kernel_rfl) (by kernel_rfl) (by kernel_rfl) (fun _ _ _ h => h) (Or.inl ⟨by rfl, ?_⟩) (by assumption) ?_
          rotate_left
          · intro w' hSw
            have q2 := HC2.out w' hSw
            go_simp
            first | done | with_reducible rfl
          try simp only [Act.put, List.setIfInBounds_toArray, List.set_cons_zero, List.set_cons_succ]
          refine wpAnyH_ready (rs := [6]) (by kernel_rfl) (by simp) ?_
          refine AllReadyH.cons rfl (fun K hK => ?_) AllReadyH.nil
          go_simp
          refine (CB.out _ (hrd1.quiet hq) (hF1.add (hq.nb0 B))).mono ?_; rintro e v2 ⟨rfl, hrd2, hf2⟩
          have hrr2 := TOR.out _ _ _ (hrr1.quiet hq) hf2
          have hF2 := TB1.out _ _ (hF1.add (hq.nb0 B)) hf2
          try go_simp
          refine hK.out _ _ (hHeld.trans hf2 (fun _ _ h => .inl h)) (fun hHeld => ?_)
          clear hK K
          try change wpAnyH _ _ _ _ _ _ _ (Act.put _ (some 62) _) _
          try simp only [Act.put, List.setIfInBounds_toArray, List.set_cons_zero, List.set_cons_succ]
          refine wpAnyH_ready (rs := [13]) (by kernel_rfl) (by simp) ?_
          refine AllReadyH.cons rfl (fun K hK => ?_) AllReadyH.nil
          go_simp
          refine (CR.out _ hrr2).mono ?_; rintro e v3 ⟨rfl, hrr3, hf3⟩
          have hrd3 := TOD.out _ _ _ hrd2 hf3
          have hF3 := TB2.out _ _ hF2 hf3
          try go_simp
          refine hK.out _ _ (hHeld.trans hf3 (fun _ _ h => .inr h)) (fun hHeld => ?_)
          clear hK K
          try change wpAnyH _ _ _ _ _ _ _ (Act.put _ (some 69) _) _
          try simp only [Act.put, List.setIfInBounds_toArray, List.set_cons_zero, List.set_cons_succ]
          have hqq : (q.1 != q.1) = false := by simp
          refine wpAnyH_takeD (i := 14) (v := ?_) (some 70) rfl rfl (by kernel_rfl) (by kernel_rfl) (by kernel_rfl) (fun _ _ _ h => h) (Or.inl ⟨by rfl, ?_⟩) (by assumption) ?_
          rotate_left
          · intro w' hSw
            go_simp
            first | done | with_reducible rfl
          try simp only [Act.put, List.setIfInBounds_toArray, List.set_cons_zero, List.set_cons_succ]
          refine wpAnyH_done (by kernel_rfl) ?_ _
          go_wp2
          go_roundw
          case rel => exact ⟨k + 1, q.2, by omega, by go_num, SB.out, hrd3, hrr3, hF3⟩
          case measure => simp [intOf]; omega
        · have hk2' : (kind == 2) = false := by rw [beq_eq_false_iff_ne]; exact hk2
          go_upto_region 11 with (fail)
          generalize (⟨#[119]⟩ : ByteArray) ++ ds = wh at *
          have CB := Lib.hid (fun x (h : RdAt x g A' n c' xs s) (hF : Nb B w x) => rBytes_any h (HE.out _ hF) wh HGE.out hi)
          have CR := Lib.hid (fun x (h : RRAt x g2 A n c xs s) => refBytes_any h (by omega) wh hi)
          generalize stBytes xs wh hi s = q at *
          have hq : Fr (fun _ => False) v1 v1.drew := (Fr.refl _ _).drew
          have hlt1 : g < v1.heap.size ∧ g2 < v1.heap.size := by
            constructor
            · cases s with
              | at_ j => obtain ⟨_, _, _, h⟩ := hrd1; exact h.bk.lt
              | bad er a w0 => obtain ⟨_, _, h⟩ := hrd1; exact h.bk.lt
            · cases s with
              | at_ j => obtain ⟨_, _, _, h⟩ := hrr1; exact h.bk.lt
              | bad er a w0 => obtain ⟨_, _, h⟩ := hrr1; exact h.bk.lt
          have HL1 := Lib.hid hlt1
          clear hlt1
          have HC2 := Lib.hid (fun w' (hf : Fr (fun x => x = g ∨ x = g2) v1 w') => show w'.cell? ⟨ab, 2, none⟩ = some (.int .i64 hi) from (hAk1.fr hf (fun h => h.elim (fun h => hgab h.symm) (fun h => hg2ab h.symm))).cell 2)
          clear c0 c1 c2
          refine wp_region_held_drew (S := fun w' => Fr (fun x => x = g ∨ x = g2) v1 w') (by kernel_rfl) ((Fr.refl _ _).drew) (fun hHeld => ?_)
          refine wpAnyH_takeD (i := 0) (v := ?_) (some 32) rfl rfl (by kernel_rfl) (by kernel_rfl) (by kernel_rfl) (fun _ _ _ h => h) (Or.inl ⟨by rfl, ?_⟩) (by assumption) ?_
          rotate_left
          · intro w' hSw
            go_simp
            first | done | with_reducible rfl
          try simp only [Act.put, List.setIfInBounds_toArray, List.set_cons_zero, List.set_cons_succ]
          refine wpAnyH_takeD (i := 1) (v := ?_) (some 33) rfl rfl (by kernel_rfl) (by kernel_rfl) (by kernel_rfl) (fun _ _ _ h => h) (Or.inl ⟨by rfl, ?_⟩) (by assumption) ?_
          rotate_left
          · intro w' hSw
            go_simp
            first | done | with_reducible rfl
          try simp only [Act.put, List.setIfInBounds_toArray, List.set_cons_zero, List.set_cons_succ]
          refine wpAnyH_takeD (i := 2) (v := ?_) (some 34) rfl rfl (by kernel_rfl) (by kernel_rfl) (by kernel_rfl) (fun _ _ _ h => h) (Or.inl ⟨by rfl, ?_⟩) (by assumption) ?_
          rotate_left
          · intro w' hSw
            go_simp
            first | done | with_reducible rfl
          try simp only [Act.put, List.setIfInBounds_toArray, List.set_cons_zero, List.set_cons_succ]
          refine wpAnyH_takeD (i := 3) (v := ?_) (some 35) rfl rfl (by kernel_rfl) (by kernel_rfl) (by kernel_rfl) (fun _ _ _ h => h) (Or.inl ⟨by rfl, ?_⟩) (by assumption) ?_
          rotate_left
          · intro w' hSw
            have q2 := HC2.out w' hSw
            go_simp
            first | done | with_reducible rfl
          try simp only [Act.put, List.setIfInBounds_toArray, List.set_cons_zero, List.set_cons_succ]
          refine wpAnyH_takeD (i := 6) (v := ?_) (some 38) rfl rfl (by kernel_rfl) (by kernel_rfl) (by kernel_rfl) (fun _ _ _ h => h) (Or.inl ⟨by rfl, ?_⟩) (by assumption) ?_
          rotate_left
          · intro w' hSw
            go_simp
            first | done | with_reducible rfl
          try simp only [Act.put, List.setIfInBounds_toArray, List.set_cons_zero, List.set_cons_succ]
          refine wpAnyH_takeD (i := 7) (v := ?_) (some 39) rfl rfl (by kernel_rfl) (by kernel_rfl) (by kernel_rfl) (fun _ _ _ h => h) (Or.inl ⟨by rfl, ?_⟩) (by assumption) ?_
          rotate_left
          · intro w' hSw
            go_simp
            first | done | with_reducible rfl
          try simp only [Act.put, List.setIfInBounds_toArray, List.set_cons_zero, List.set_cons_succ]
          refine wpAnyH_takeD (i := 8) (v := ?_) (some 40) rfl rfl (by kernel_rfl) (by kernel_rfl) (by kernel_rfl) (fun _ _ _ h => h) (Or.inl ⟨by rfl, ?_⟩) (by assumption) ?_
          rotate_left
          · intro w' hSw
            go_simp
            first | done | with_reducible rfl
          try simp only [Act.put, List.setIfInBounds_toArray, List.set_cons_zero, List.set_cons_succ]
          refine wpAnyH_takeD (i := 9) (v := ?_) (some 41) rfl rfl (by kernel_rfl) (by kernel_rfl) (by kernel_rfl) (fun _ _ _ h => h) (Or.inl ⟨by rfl, ?_⟩) (by assumption) ?_
          rotate_left
          · intro w' hSw
            have q2 := HC2.out w' hSw
            go_simp
            first | done | with_reducible rfl
          try simp only [Act.put, List.setIfInBounds_toArray, List.set_cons_zero, List.set_cons_succ]
          refine wpAnyH_ready (rs := [4]) (by kernel_rfl) (by simp) ?_
          refine AllReadyH.cons rfl (fun K hK => ?_) AllReadyH.nil
          go_simp
          refine (CB.out _ (hrd1.quiet hq) (hF1.add (hq.nb0 B))).mono ?_; rintro e v2 ⟨v, rfl, ⟨A1, k1, rfl, ho1, hn1⟩, hrd2, hf2⟩
          have hrr2 := TOR.out _ _ _ (hrr1.quiet hq) hf2
          have hF2 := TB1.out _ _ (hF1.add (hq.nb0 B)) hf2
          try go_simp
          refine hK.out _ _ (hHeld.trans hf2 (fun _ _ h => .inl h)) (fun hHeld => ?_)
          clear hK K
          try change wpAnyH _ _ _ _ _ _ _ (Act.put _ (some 36) _) _
          try simp only [Act.put, List.setIfInBounds_toArray, List.set_cons_zero, List.set_cons_succ]
          have F1 := Lib.hid (fun w' (hf : Fr (fun x => x = g2) v2 w') => run_str8 Tryd.t8 Tryd.underlying5 Tryd.underlying9 k1 (ho1.fr hf (fun k hk h => by have h' : k = g2 := h; have h1 : v1.heap.size ≤ k := hn1 k hk; have := HL1.out.2; omega)).rd rfl)
          have hHeld2 : Fr (fun x => x = g ∨ x = g2) v1 v2 ∧ Fr (fun x => x = g2) v2 v2 := ⟨hHeld, Fr.refl _ _⟩
          refine wpAnyH_more (S' := fun w' => Fr (fun x => x = g ∨ x = g2) v1 w' ∧ Fr (fun x => x = g2) v2 w') (fun _ h => h.1) _ _ _ _ ?_
          clear ho1 hn1 hHeld
          refine wpAnyH_takeD (i := 5) (v := ?_) (some 37) rfl rfl (by kernel_rfl) (by kernel_rfl) (by kernel_rfl) (fun _ _ _ h => h) (Or.inl ⟨by rfl, ?_⟩) (by assumption) ?_
          rotate_left
          · intro w' hSw
            have s1 := F1.out w' hSw.2
            go_simp
            first | done | with_reducible rfl
          try simp only [Act.put, List.setIfInBounds_toArray, List.set_cons_zero, List.set_cons_succ]
          refine wpAnyH_ready (rs := [10]) (by kernel_rfl) (by simp) ?_
          refine AllReadyH.cons rfl (fun K hK => ?_) AllReadyH.nil
          go_simp
          refine (CR.out _ hrr2).mono ?_; rintro e v3 ⟨v, rfl, ⟨A2, k2, rfl, ho2, hn2⟩, hrr3, hf3⟩
          have hrd3 := TOD.out _ _ _ hrd2 hf3
          have hF3 := TB2.out _ _ hF2 hf3
          try go_simp
          refine hK.out _ _ (⟨hHeld2.1.trans hf3 (fun _ _ h => .inr h), hf3⟩) (fun hHeld => ?_)
          clear hK K
          try change wpAnyH _ _ _ _ _ _ _ (Act.put _ (some 42) _) _
          try simp only [Act.put, List.setIfInBounds_toArray, List.set_cons_zero, List.set_cons_succ]
          have s2 := run_str8 Tryd.t8 Tryd.underlying5 Tryd.underlying9 k2 ho2.rd rfl
          refine wpAnyH_ready (rs := [11]) (by kernel_rfl) (by simp) ?_
          refine AllReadyH.cons rfl (fun K hK => ?_) AllReadyH.nil
          go_simp
          refine hK.out _ _ (hHeld) (fun hHeld => ?_)
          clear hK K
          try change wpAnyH _ _ _ _ _ _ _ (Act.put _ (some 43) _) _
          try simp only [Act.put, List.setIfInBounds_toArray, List.set_cons_zero, List.set_cons_succ]
          clear s2
          have hqq : ((strOf q.1).toList == (strOf q.1).toList) = true := by simp
          refine wpAnyH_takeD (i := 12) (v := ?_) (some 44) rfl rfl (by kernel_rfl) (by kernel_rfl) (by kernel_rfl) (fun _ _ _ h => h) (Or.inl ⟨by rfl, ?_⟩) (by assumption) ?_
          rotate_left
          · intro w' hSw
            go_simp
            first | done | with_reducible rfl
          try simp only [Act.put, List.setIfInBounds_toArray, List.set_cons_zero, List.set_cons_succ]
          refine wpAnyH_done (by kernel_rfl) ?_ _
          go_wp2
          go_roundw
          case rel => exact ⟨k + 1, q.2, by omega, by go_num, SY.out, hrd3, hrr3, hF3⟩
          case measure => simp [intOf]; omega
    · have hkn' : ¬ ((k : Int) < na) := by omega
      have hbA : n ≤ 1000000 := by omega
      cases s with
      | bad er a0 wh =>
        obtain ⟨⟨er, rfl, hbad4⟩, ⟨p, rfl, hp⟩, hwh⟩ := hal1
        obtain ⟨he0, pos, hR⟩ := hrd
        obtain ⟨_, pos2, hQ⟩ := hrr
        have he1 : ((er : Int) == 0) = false := by rw [beq_eq_false_iff_ne]; exact he0
        go_wp2_with fail
        refine (rEnd_any (s := .bad er p wh) ⟨he0, pos, hR⟩).mono ?_; rintro e v1 ⟨v, rfl, ⟨fb, rfl, hb1, _⟩, hf1⟩
        have hQ1 := hQ.quiet hf1
        have hF1 := hF.add (hf1.nb0 B)
        clear hR hQ hF hf1
        go_wp2_with fail
        refine (refEnd_bad hQ1 he1).mono ?_; rintro e v2 ⟨rfl, hf2⟩
        have hF2 := hF1.add (hf2.nb0 B)
        have hb2 := hb1.fr hf2 (fun h => h)
        clear hQ1 hF1 hb1 hf2
        go_wp2_with fail
        refine (show Calls Tryd.prog 19 #[.iface 88 (.pointer (some ⟨fb, 0, none⟩)), .agg #[.int .i64 er, .int .i64 p, .string wh]] v2 _ from same_fault fb er p wh v2 hbad4 (by omega) hwh (HP.out _ hF2) (HE.out _ hF2) hb2).mono ?_; rintro e v3 ⟨rfl, hf3⟩
        go_wp2
        go_ret
        exact ⟨rfl, FIN.out (hF2.add (hf3.nb0 B))⟩
      | at_ j =>
        have hj : j ≤ n := hal1
        obtain ⟨_, fat, what, hQ⟩ := hrr
        have CE := rEnd_any hrd
        by_cases hjn : j < n
        · have hs : stEnd xs (.at_ j) = some ((8 : Int), (j : Int), sEnd) := by simp only [stEnd]; rw [if_pos (by rw [HN.out]; exact hjn)]
          rw [hs] at CE
          have CE' := Lib.hid CE
          clear hs CE hrd
          go_wp2_with fail
          refine CE'.out.mono ?_; rintro e v1 ⟨v, rfl, ⟨fb, rfl, hb1, _⟩, hf1⟩
          have hQ1 := hQ.quiet hf1
          have hF1 := hF.add (hf1.nb0 B)
          clear hQ hF hf1
          go_wp2_with fail
          refine (refEnd_left hQ1 hjn).mono ?_; rintro e v2 ⟨rfl, hf2⟩
          have hF2 := hF1.add (hf2.nb0 B)
          have hb2 := hb1.fr hf2 (fun h => h)
          clear hQ1 hF1 hb1 hf2
          go_wp2_with fail
          refine (show Calls Tryd.prog 19 #[.iface 88 (.pointer (some ⟨fb, 0, none⟩)), .agg #[.int .i64 8, .int .i64 j, .string sEnd]] v2 _ from same_fault fb 8 j sEnd v2 (.inr (.inl rfl)) (by omega) (by decide) (HP.out _ hF2) (HE.out _ hF2) hb2).mono ?_; rintro e v3 ⟨rfl, hf3⟩
          go_wp2
          go_ret
          exact ⟨rfl, FIN.out (hF2.add (hf3.nb0 B))⟩
        · have hj2 : j = n := by omega
          subst hj2
          have hs : stEnd xs (.at_ j) = none := by simp only [stEnd]; rw [if_neg (by rw [HN.out]; exact hjn)]
          rw [hs] at CE
          have CE' := Lib.hid CE
          clear hs CE hrd
          go_wp2_with fail
          refine CE'.out.mono ?_; rintro e v1 ⟨v, rfl, hv, hf1⟩
          cases hv
          have hQ1 := hQ.quiet hf1
          have hF1 := hF.add (hf1.nb0 B)
          clear hQ hF hf1
          go_wp2_with fail
          refine (refEnd_over hQ1).mono ?_; rintro e v2 ⟨rfl, hf2⟩
          have hF2 := hF1.add (hf2.nb0 B)
          clear hQ1 hF1 hf2
          go_wp2_with fail
          refine (same_none fat what v2).mono ?_; rintro e v3 ⟨rfl, hf3⟩
          go_wp2
          go_ret
          exact ⟨rfl, FIN.out (hF2.add (hf3.nb0 B))⟩
end Go.Proofs.YtpkmmohjdcdfeaaDoor
