/- LogMerges' walk. -/
import Derived.Test.YtklgaffmbojfhaaQp
import Derived.Deep.DeepCutAuto
namespace Go.Proofs.Ytklgaffmbojfhaa
open Go.RowKit

/-- Ints that can be read. -/
def RdI (w : World) (A : Option Addr) (xs : List Int) : Prop := 0 < xs.length → ∃ ad, A = some ad ∧ ad.spot = none ∧ ∀ j (h : j < xs.length), w.cell? ⟨ad.block, ad.off + j, none⟩ = some (.int .i64 xs[j])
theorem Rw.es {w wr : World} {T : TypeId} {A A0 : Option Addr} {n c : Nat} {ps : List EL} (h : Rw w wr T (.slice A n c) ps) (h0 : Es w A0 n ps (fun k => k < w.heap.size)) : Es wr A n ps (fun k => k < wr.heap.size) := by
  refine ⟨h0.len, fun hn => ?_, fun p hp => ?_⟩
  · obtain ⟨A', c', e, _, _, hA⟩ := h.row.form
    obtain ⟨b, off, rfl⟩ := hA (by rw [h0.len]; exact hn)
    injection e with e1 _ _
    subst e1
    have hrow := h.row
    exact ⟨b, off, rfl, hrow.lt rfl, fun j u hu => hrow.cell hu⟩
  · have h1 := (h0.each p hp).fr h.fr (fun _ _ h => h)
    exact ⟨h1.rd, h1.ok, fun ad e h9 => Nat.lt_of_lt_of_le (h1.inF ad e h9) h.fr.size⟩

/-- Both logs, side by side; T: what the leader's leans on. -/
structure MP (w wr : World) (g gt : Nat) (mine theirs : List En) (s : LG) (F T : Nat → Prop) : Prop where
  inv : MI mine theirs 4398046511104 s
  lg : Lg 65 51 wr g s F
  rf : Lg 41 68 wr gt ⟨0, 0, theirs⟩ T
  fr : Fr (fun _ => False) w wr
  newF : ∀ k, F k → w.heap.size ≤ k
  dis : ∀ k, F k → ¬ T k
theorem MP.fr0 {w wr w' : World} {g gt : Nat} {mine theirs : List En} {s : LG} {F T : Nat → Prop} (h : MP w wr g gt mine theirs s F T) (hf : Fr (fun _ => False) wr w') : MP w w' g gt mine theirs s F T :=
  ⟨h.inv, h.lg.fr0 hf, h.rf.fr0 hf, h.fr.trans hf (fun _ _ h => h), h.newF, h.dis⟩
theorem MP.step {w wr w' : World} {g gt : Nat} {mine theirs : List En} {s s' : LG} {F T : Nat → Prop} (h : MP w wr g gt mine theirs s F T) (hi : MI mine theirs 4398046511104 s') (ht : LgTo 65 51 wr g F w' s') : ∃ F', MP w w' g gt mine theirs s' F' T := by
  obtain ⟨F', h1, h2, h3⟩ := ht
  refine ⟨F', hi, h1, h.rf.fr h2 (fun k hk hF => h.dis k hF hk), h.fr.trans h2 (fun k hk e => by have := h.newF k e; omega), fun k hk => ?_, fun k hk hT => ?_⟩
  · rcases h3 k hk with e | e
    · exact h.newF k e
    · exact Nat.le_trans h.fr.size e
  · rcases h3 k hk with e | e
    · exact h.dis k e hT
    · have := h.rf.lt hT
      omega

set_option maxRecDepth 100000 in
set_option maxHeartbeats 8000000 in
theorem merges_any (A1 : Option Addr) (n1 c1 : Nat) (ps1 : List EL) (A2 : Option Addr) (n2 c2 : Nat) (ps2 : List EL) (A3 : Option Addr) (n3 c3 : Nat) (xs : List Int) (w : World)
    (h1 : Es w A1 n1 ps1 (fun k => k < w.heap.size)) (hn1 : n1 ≤ 4398046511104) (h2 : Es w A2 n2 ps2 (fun k => k < w.heap.size)) (hn2 : n2 ≤ 4398046511104) (hc2 : n2 ≤ c2) (hc2m : (c2 : Int) ≤ 9223372036854775807)
    (h3 : RdI w A3 xs) (hn3 : xs.length = n3) (h3b : ∀ ad, A3 = some ad → 0 < n3 → ad.block < w.heap.size) (h3m : (n3 : Int) ≤ 9223372036854775807) (h3r : ∀ x ∈ xs, -9223372036854775808 ≤ x ∧ x ≤ 9223372036854775807) :
    Calls Try.prog 4 #[.slice A1 n1 c1, .slice A2 n2 c2, .slice A3 n3 c3] w fun e w' => e = .returned (.bool true) ∧ Fr (fun _ => False) w w' := by
  have H1 := Lib.hid h1
  have H2 := Lib.hid h2
  have HX : Hid (∀ i, i < n3 → ∃ b o, A3 = some ⟨b, o, none⟩ ∧ -9223372036854775808 ≤ xs.getD i 0 ∧ xs.getD i 0 ≤ 9223372036854775807 ∧ ∀ w', Fr (fun _ => False) w w' → w'.cell? ⟨b, o + i, none⟩ = some (.int .i64 (xs.getD i 0))) := Lib.hid (fun i hi => by
    obtain ⟨ad, e, hsp, hc⟩ := h3 (by omega)
    subst e
    obtain ⟨b, o, sp⟩ := ad
    cases hsp
    have hx := h3r xs[i] (List.getElem_mem (by omega))
    have e9 : xs.getD i 0 = xs[i] := by simp [List.getD, show i < xs.length by omega]
    refine ⟨b, o, rfl, by rw [e9]; exact hx.1, by rw [e9]; exact hx.2, fun w' hf => ?_⟩
    rw [hf.cell (p := ⟨b, o + i, none⟩) (h3b ⟨b, o, none⟩ rfl (by omega)) (fun h => h), e9]
    exact hc i (by omega))
  have HN := Lib.hid (And.intro hn1 (And.intro hn2 (And.intro hc2 hc2m)))
  have hn2I : (n2 : Int) ≤ 4398046511104 := by omega
  clear h1 h2 h3 hn1 hn2 hc2 hc2m h3b hn3 h3r
  go_enter Try.func4, Try.ntmps4
  go_wp2_with fail
  refine (known_any w).mono ?_; rintro e w0 ⟨rfl, hf0⟩
  have HF := Lib.hid hf0
  clear hf0
  go_wp2_with fail
  refine (few_q A1 n1 c1 ps1 _ w0 (H1.out.fr0 HF.out) (by have := HN.out.1; omega)).mono ?_; rintro e w1 ⟨q1, rfl, rfl⟩
  cases q1 with
  | false =>
    go_wp2
    go_ret
    exact ⟨rfl, HF.out⟩
  | true =>
  go_wp2_with fail
  refine (few_q A2 n2 c2 ps2 _ w0 (H2.out.fr0 HF.out) (by have := HN.out.2.1; omega)).mono ?_; rintro e w1 ⟨q2, rfl, rfl⟩
  cases q2 with
  | false =>
    go_wp2
    go_ret
    exact ⟨rfl, HF.out⟩
  | true =>
  by_cases hn100 : (100 : Int) < (n3 : Int)
  · go_wp2
    go_ret
    exact ⟨rfl, HF.out⟩
  have d100 : decide ((100 : Int) < (n3 : Int)) = false := decide_eq_false hn100
  have hn3b : (n3 : Int) ≤ 100 := by omega
  have C1 := Lib.hid (lgNew 0 0 A1 n1 c1 ps1 _ w0 (H1.out.fr0 HF.out) (fun k hk => Nat.lt_of_lt_of_le hk HF.out.size) (by have := HN.out.1; omega) (by omega) (by omega))
  unfold NewL at C1
  rw [begins00, Bool.true_and] at C1
  go_wp2_with fail
  by_cases hq1 : rise 0 (ps1.map EL.e) = true
  · simp only [hq1, if_true] at C1
    refine C1.out.mono ?_; rintro e w1 ⟨g, F1, rfl, hl1, hf1, hn1, hg1⟩
    have HF1 := Lib.hid (HF.out.trans hf1 (fun _ _ h => h))
    have C2 := Lib.hid (of_any A2 n2 c2 ps2 _ w1 (H2.out.fr0 HF1.out) (by have := HN.out.2.1; omega))
    have HL1 := Lib.hid hl1
    have HNF : Hid (∀ k, F1 k → w.heap.size ≤ k) := Lib.hid (fun k hk => Nat.le_trans HF.out.size (hn1 k hk))
    clear hl1 hf1 hn1 hg1 C1 hq1
    go_wp2_with fail
    refine C2.out.mono ?_; rintro e w2 ⟨A4, c4, rfl, hrw⟩
    have hes2 : Es w1 A2 n2 ps2 (fun k => k < w1.heap.size) := (H2.out.fr0 HF1.out).mono (fun k hk => Nat.lt_of_lt_of_le hk HF1.out.size)
    have HRWF := Lib.hid hrw.fr
    have C3 := Lib.hid (refNew 0 0 A4 n2 c4 ps2 _ w2 (hrw.es hes2) (by have := HN.out.2.1; omega) (by omega))
    unfold NewL at C3
    rw [begins00, Bool.true_and] at C3
    clear hrw hes2 C2
    go_wp2_with fail
    by_cases hq2 : rise 0 (ps2.map EL.e) = true
    · simp only [hq2, if_true] at C3
      have HRISE := Lib.hid hq2
      refine C3.out.mono ?_; rintro e w3 ⟨gt, FT, rfl, hl3, hf3, hn3, hg3⟩
      obtain ⟨mine, hmine⟩ : ∃ mine, ps1.map EL.e = mine := ⟨_, rfl⟩
      obtain ⟨theirs, htheirs⟩ : ∃ theirs, ps2.map EL.e = theirs := ⟨_, rfl⟩
      rw [hmine, show ((0 : Int).toNat) = 0 from rfl] at HL1
      rw [htheirs, show ((0 : Int).toNat) = 0 from rfl] at hl3
      have HMI := Lib.hid hmine
      have HTH := Lib.hid htheirs
      have HTL : Hid (theirs.length = n2) := Lib.hid (by rw [← htheirs, List.length_map, H2.out.len])
      have HML : Hid (mine.length = n1) := Lib.hid (by rw [← hmine, List.length_map, H1.out.len])
      have HMP0 : Hid (MP w w3 g gt mine theirs ⟨0, 0, mine⟩ F1 FT) := Lib.hid
        ⟨MI.start mine theirs _ (by rw [HML.out]; exact HN.out.1), (HL1.out.fr0 HRWF.out).fr0 hf3, hl3, (HF1.out.trans HRWF.out (fun _ _ h => h)).trans hf3 (fun _ _ h => h), HNF.out, fun k hk hT => by
          have a1 := HL1.out.lt hk
          have a2 := hn3 k hT
          have a3 := HRWF.out.size
          omega⟩
      rw [htheirs] at HRISE
      clear hl3 hf3 hn3 hg3 C3 hq2 hmine htheirs HL1
      go_wp2_with fail
      go_loopw [11] (fun u wr => ∃ (i : Nat) (s : LG) (F : Nat → Prop), u = .int .i64 (i : Int) ∧ i ≤ n3 ∧ MP w wr g gt mine theirs s F FT) (fun u _ => n3 - (intOf u).toNat)
      case atStart => exact ⟨0, _, _, rfl, Nat.zero_le _, HMP0.out⟩
      case round =>
        obtain ⟨i, s, F, rfl, hi, hmp⟩ := hrel
        have HMPi := Lib.hid hmp
        have hi0 : (0 : Int) ≤ (i : Int) := by omega
        clear hmp HMP0
        by_cases hlt : i < n3
        · have hlt' : (i : Int) < (n3 : Int) := by omega
          obtain ⟨b3, o3, rfl, x0, x1, hx⟩ := HX.out i hlt
          have cx := hx wr HMPi.out.fr
          clear hx
          generalize xs.getD i 0 = x at *
          have t0 := Int.lt_tmod_of_pos x (show (0 : Int) < (n2 : Int) + 1 by omega)
          have t1 := Int.tmod_lt_of_pos x (show (0 : Int) < (n2 : Int) + 1 by omega)
          obtain ⟨r, hr⟩ : ∃ r, x.tmod ((n2 : Int) + 1) = r := ⟨_, rfl⟩
          rw [hr] at t0 t1
          obtain ⟨fr, hfr⟩ : ∃ fr : Nat, (r < 0 ∧ 0 - r = (fr : Int)) ∨ (0 ≤ r ∧ r = (fr : Int)) := by
            by_cases h : r < 0
            · exact ⟨(0 - r).toNat, .inl ⟨h, by omega⟩⟩
            · exact ⟨r.toNat, .inr ⟨by omega, by omega⟩⟩
          have hfn : (fr : Int) ≤ (n2 : Int) := by omega
          obtain ⟨m, pa, hpa⟩ : ∃ m pa : Nat, fr + m = pa ∧ pa ≤ n2 ∧ m ≤ 3 ∧ ((n2 : Int) < (fr : Int) + 3 ∧ n2 = pa ∨ (fr : Int) + 3 ≤ (n2 : Int) ∧ (fr : Int) + 3 = (pa : Int)) := by
            by_cases h : (n2 : Int) < (fr : Int) + 3
            · exact ⟨n2 - fr, n2, by omega, Nat.le_refl _, by omega, .inl ⟨h, rfl⟩⟩
            · exact ⟨3, fr + 3, rfl, by omega, Nat.le_refl _, .inr ⟨by omega, by omega⟩⟩
          obtain ⟨hpm, hpn, hm3e, hpa⟩ := hpa
          have HM3 := Lib.hid hm3e
          have HPM := Lib.hid hpm
          have HPN := Lib.hid hpn
          have hpaI : (pa : Int) ≤ (n2 : Int) := by omega
          have hfpI : (fr : Int) ≤ (pa : Int) := by omega
          have hm3 : m ≤ n2 := by omega
          have CT := Lib.hid (refTerm HMPi.out.rf (fr : Int) (by omega) (by omega))
          obtain ⟨ter, hter⟩ : ∃ t, (⟨0, 0, theirs⟩ : LG).term (fr : Int) = t := ⟨_, rfl⟩
          rw [hter] at CT
          have HTER := Lib.hid hter
          have CM := Lib.hid (fun w' (hf : Fr (fun _ => False) wr w') => lgMatch (HMPi.out.lg.fr0 hf) (fr : Int) ter (by omega) (by omega))
          obtain ⟨qm, hqm⟩ : ∃ q, s.mat (fr : Int) ter = q := ⟨_, rfl⟩
          rw [hqm] at CM
          have HQM := Lib.hid hqm
          have hA2 : 0 < n2 → ∃ b off, A2 = some ⟨b, off, none⟩ := fun h0 => by
            obtain ⟨b, off, e, _⟩ := H2.out.row h0
            exact ⟨b, off, e⟩
          obtain ⟨A5, c5, hsl, hc5, hc5m, hpes⟩ := run_piece A2 n2 c2 fr m pa hpm (by omega) HN.out.2.2.1 HN.out.2.2.2 hA2
          have HPES := Lib.hid hpes
          have HSL := Lib.hid hsl
          have HC5 := Lib.hid (And.intro hc5 hc5m)
          clear hter hqm hA2 hsl hpes hc5 hc5m hpm hpn hm3e t0 t1
          go_upto_if 72 with fail
          go_cut [13] (fun s13 wc => s13 = .int .i64 (fr : Int) ∧ wr = wc)
          case first =>
            rcases hfr with ⟨hr1, hr2⟩ | ⟨hr1, hr2⟩
            · go_wp2_with fail
              go_meet
              exact ⟨rfl, rfl⟩
            · subst hr2
              go_wp2_with fail
              go_meet
              exact ⟨rfl, rfl⟩
          case rest =>
          obtain ⟨rfl, rfl⟩ := hcut
          go_upto_if 79 with fail
          go_cut [14] (fun s14 wc2 => s14 = .int .i64 (pa : Int) ∧ wr = wc2)
          case first =>
            rcases hpa with ⟨hp1, hp2⟩ | ⟨hp1, hp2⟩
            · subst hp2
              go_wp2_with fail
              go_meet
              exact ⟨rfl, rfl⟩
            · have hp3 : ¬ ((n2 : Int) < (fr : Int) + 3) := by omega
              have hp4 : decide ((n2 : Int) < (fr : Int) + 3) = false := decide_eq_false hp3
              go_wp2_with fail
              go_meet
              exact ⟨rfl, rfl⟩
          case rest =>
          obtain ⟨rfl, rfl⟩ := hcut
          clear hr hfr hpa cx
          go_wp2_with fail
          refine CT.out.mono ?_; rintro e w5 ⟨rfl, hf5⟩
          have HF5 := Lib.hid hf5
          clear hf5 CT
          go_wp2_with fail
          refine (CM.out _ HF5.out).mono ?_; rintro e w6 ⟨rfl, hf6⟩
          have HMP6 := Lib.hid (HMPi.out.fr0 (HF5.out.trans hf6 (fun _ _ h => h)))
          clear hf6 CM
          cases qm with
          | false =>
            go_wp2
            refine ⟨⟨i + 1, s, F, by simp, by omega, HMP6.out⟩, ?_⟩
            first | omega | (show _ < _; simp [intOf]; omega)
          | true =>
            have hsl := HSL.out
            have hmat := HQM.out
            unfold LG.mat at hmat
            simp only [Bool.and_eq_true, decide_eq_true_eq] at hmat
            have hpiece := HPES.out w6 ps2 _ (H2.out.fr0 HMP6.out.fr)
            have hmapp : ((ps2.drop fr).take m).map EL.e = (theirs.drop fr).take m := by rw [List.map_take, List.map_drop, HTH.out]
            have hlb : s.l.length ≤ 4398046511104 := HMP6.out.inv.len
            have hix0 := HMP6.out.inv.ix
            have hmok : s.mok (fr : Int) ((theirs.drop fr).take m) = true := by
              unfold LG.mok
              rw [hmat.1, hmat.2, ← HTER.out, rise_piece HRISE.out fr m (by rw [HTL.out]; omega)]
              rfl
            obtain ⟨hmi, hall⟩ := HMP6.out.inv.merge (fr := fr) (m := m) (by rw [HTL.out, HPM.out]; exact HPN.out) (by rw [HTL.out]; exact HN.out.2.1) hmok
            have CG := Lib.hid (lgMerge (c := c5) HMP6.out.lg hpiece (fun k hk => Nat.lt_of_lt_of_le hk HMP6.out.fr.size) (fun k hk e => by have := HMP6.out.newF k e; omega) (by have := HN.out.2.1; have := HPN.out; have := HPM.out; omega) HC5.out.1 (by unfold maxLen; have := HC5.out.2; omega) (by have := HN.out.2.1; have := HPN.out; have := HPM.out; omega) (by have := HN.out.2.1; have := HPN.out; have := HPM.out; have := HM3.out; omega) (fr : Int) (by omega) (by omega))
            rw [hmapp] at CG
            obtain ⟨s9, hs9⟩ : ∃ s9, s.merge (fr : Int) ((theirs.drop fr).take m) = s9 := ⟨_, rfl⟩
            have hres : (s.mres (fr : Int) ((theirs.drop fr).take m)).2.2 = 0 := by
              unfold LG.mres; rw [hmok]; simp only [if_true]; split <;> rfl
            unfold MergeE at CG
            rw [hs9, hres] at CG
            rw [hs9] at hmi hall
            have HMI9 := Lib.hid hmi
            have HALL := Lib.hid hall
            clear hmat hpiece hmapp hlb hix0 hmok hmi hall hs9 hres
            generalize (s.mres (fr : Int) ((theirs.drop fr).take m)).1 = frm at *
            generalize (s.mres (fr : Int) ((theirs.drop fr).take m)).2.1 = mres at *
            go_wp2_with fail
            refine CG.out.mono ?_; rintro e w7 ⟨v7, qs7, rfl, _, _, hto⟩
            obtain ⟨F9, hmp9⟩ := HMP6.out.step HMI9.out hto
            have HMP := Lib.hid hmp9
            have CGT := Lib.hid (fun (x y : Int) (x0 : -9223372036854775808 ≤ x) (x1 : x ≤ 9223372036854775807) (y0 : -9223372036854775808 ≤ y) (y1 : y ≤ 9223372036854775807) (j : Nat) (hm : (s9.get x y).length = j) w' (hf : Fr (fun _ => False) w7 w') => lgGet2 (hmp9.lg.fr0 hf) x y x0 x1 y0 y1 j hm)
            have CMT := Lib.hid (fun (x y : Int) (x0 : -9223372036854775808 ≤ x) (x1 : x ≤ 9223372036854775807) w' (hf : Fr (fun _ => False) w7 w') => lgMatch (hmp9.lg.fr0 hf) x y x0 x1)
            have HIX9 : Hid (s9.ix = 0) := Lib.hid hmp9.inv.ix
            clear hto hmp9 CG hsl HSL
            go_wp2_with fail
            go_loopw [20] (fun u wr => ∃ k : Nat, u = .int .i64 (k : Int) ∧ fr ≤ k ∧ k ≤ pa ∧ Fr (fun _ => False) w7 wr) (fun u _ => pa - (intOf u).toNat)
            case atStart => exact ⟨fr, rfl, Nat.le_refl _, by omega, Fr.refl _ _⟩
            case round =>
              obtain ⟨k, rfl, hkf, hkp, hf⟩ := hrel
              have HFR := Lib.hid hf
              have HKF := Lib.hid hkf
              clear hf
              have hk0 : (0 : Int) ≤ (k : Int) := by omega
              by_cases hkp2 : k < pa
              · have hkpI : (k : Int) < (pa : Int) := by omega
                have hkm : k < fr + m := by rw [HPM.out]; exact hkp2
                have hkl := (HALL.out k hkf hkm).1
                have hhas : s9.has ((k : Int) + 1) = true := by unfold LG.has; rw [HIX9.out]; simp; omega
                have hg1 := LG.get_one hhas
                rw [HIX9.out, show ((k : Int) + 1 - ((0 : Nat) : Int) - 1).toNat = k by omega] at hg1
                have C := Lib.hid (CGT.out ((k : Int) + 1) ((k : Int) + 1 + 1) (by omega) (by omega) (by omega) (by omega) 1 (by rw [hg1]; rfl) wr HFR.out)
                rw [hg1] at C
                rw [show (k : Int) + 1 + 1 = (k : Int) + 2 by omega] at C
                clear hg1 hhas
                go_wp2_with fail
                refine C.out.mono ?_; rintro e w8 ⟨A6, c6, qs6, rfl, hes6, hq6, hf6⟩
                clear C
                have HF6 := Lib.hid (HFR.out.trans hf6 (fun _ _ h => h))
                have HES6 := Lib.hid hes6
                obtain ⟨b6, o6, rfl, _⟩ := hes6.at (i := 0) (by omega)
                have hk2 : k < n2 := by have := HPN.out; omega
                have hk2I : (k : Int) < (n2 : Int) := by omega
                obtain ⟨b2, o2, hA2, _⟩ := H2.out.at hk2
                subst hA2
                have HA := Lib.hid (fun w' (hf : Fr (fun _ => False) w8 w') => (H2.out.fr0 ((HMP.out.fr.trans HF6.out (fun _ _ h => h)).trans hf (fun _ _ h => h))).at' hk2)
                have HB : Hid (∀ w', Fr (fun _ => False) w8 w' → w'.cell? ⟨b6, o6, none⟩ = some (.int .i64 (qs6.getD 0 default).e.t) ∧ w'.cell? ⟨b6, o6 + 1, none⟩ = some (.slice (qs6.getD 0 default).A (qs6.getD 0 default).e.d.length (qs6.getD 0 default).c) ∧ RdE w' (fun k => wr.heap.size ≤ k) (qs6.getD 0 default)) := Lib.hid (fun w' hf => by
                  have h9 := (HES6.out.fr0 hf).at' (i := 0) (by omega)
                  rw [Nat.zero_mul, Nat.add_zero] at h9
                  exact h9)
                have hq : (qs6.getD 0 default).e = s9.l.getD k default := by
                  rw [← getD_map EL.e (by rw [hes6.len]; omega), hq6]; rfl
                have hth : (theirs.getD k default) = (ps2.getD k default).e := by rw [← HTH.out, getD_map EL.e (by rw [H2.out.len]; exact hk2)]
                have hte := (HALL.out k hkf hkm).2
                rw [hth, ← hq] at hte
                have hpr := HMP.out.inv.prov k hkl
                rw [hth, ← hq] at hpr
                have FA := Lib.hid (fun w' (hf : Fr (fun _ => False) w8 w') => run_str8 Try.t8n Try.underlying5 Try.underlying9 (ps2.getD k default).c (HA.out w' hf).2.2.rd rfl)
                have FB := Lib.hid (fun w' (hf : Fr (fun _ => False) w8 w') => run_str8 Try.t8n Try.underlying5 Try.underlying9 (qs6.getD 0 default).c (HB.out w' hf).2.2.rd rfl)
                have CFN0 : Hid ((qs6.getD 0 default).e ≠ (ps2.getD k default).e → ∀ w', Fr (fun _ => False) w8 w' → Calls Try.prog 19 #[.slice A1 n1 c1, .int .i64 (k : Int), .int .i64 (ps2.getD k default).e.t] w' fun e w'' => e = .returned (.bool false) ∧ w' = w'') := Lib.hid (fun hne w' hf => by
                  rcases hpr with ⟨p1, p2⟩ | p2
                  · refine fresh_not A1 n1 c1 k ps1 _ _ w' (H1.out.fr0 ((HMP.out.fr.trans HF6.out (fun _ _ h => h)).trans hf (fun _ _ h => h))) (by rw [← HML.out]; exact p1) ?_
                    rw [← getD_map EL.e (by rw [H1.out.len, ← HML.out]; exact p1), HMI.out, ← p2]
                    exact hte
                  · exact absurd p2 hne)
                have CMK0 : Hid (∀ w', Fr (fun _ => False) w8 w' → Calls Try.prog 17 #[.pointer (some ⟨g, 0, none⟩), .int .i64 ((k : Int) + 1), .int .i64 (ps2.getD k default).e.t] w' fun e w'' => e = .returned (.bool (s9.mat ((k : Int) + 1) (ps2.getD k default).e.t)) ∧ Fr (fun _ => False) w' w'') := Lib.hid (fun w' hf => CMT.out ((k : Int) + 1) _ (by omega) (by omega) w' (HF6.out.trans hf (fun _ _ h => h)))
                have hmt : s9.mat ((k : Int) + 1) (ps2.getD k default).e.t = true := by
                  rw [show (k : Int) + 1 = (s9.ix : Int) + ((k + 1 : Nat) : Int) by rw [HIX9.out]; omega]
                  unfold LG.mat
                  rw [LG.is_of_has (LG.has_nat (by omega) (by omega)), LG.term_nat (by omega) (by omega), show k + 1 - 1 = k by omega, ← hq, hte]
                  simp
                rw [hmt] at CMK0
                clear hq hth hpr hes6 hq6 hf6 hkl hmt
                generalize ps2.getD k default = p at *
                generalize qs6.getD 0 default = rr at *
                obtain ⟨⟨t9, X⟩, pA, pc⟩ := p
                obtain ⟨⟨t8, Y⟩, rA, rc⟩ := rr
                simp only at HA HB FA FB hte CFN0 CMK0
                subst hte
                have b1 : (t8 == t8) = true := by simp
                have b2' : (t8 != t8) = false := by simp
                by_cases hXY : Y = X
                · subst hXY
                  have b0 : ((strOf Y).toList == (strOf Y).toList) = true := by simp
                  go_wp2_with fail
                  refine wp_region_held_drew (S := fun w' => Fr (fun _ => False) w8 w') (by kernel_rfl) ((Fr.refl _ _).drew) (fun hHeld => ?_)
                  refine wpAnyH_takeD (i := 0) (v := ?_) (some 117) rfl rfl (by kernel_rfl) (by kernel_rfl) (by kernel_rfl) (fun _ _ _ h => h) (Or.inl ⟨by rfl, ?_⟩) (by assumption) ?_
                  rotate_left
                  · intro w' hSw
                    go_simp
                    first | done | with_reducible rfl
                  try simp only [Go.Act.put, List.setIfInBounds_toArray, List.set_cons_zero, List.set_cons_succ]
                  refine wpAnyH_takeD (i := 1) (v := ?_) (some 118) rfl rfl (by kernel_rfl) (by kernel_rfl) (by kernel_rfl) (fun _ _ _ h => h) (Or.inl ⟨by rfl, ?_⟩) (by assumption) ?_
                  rotate_left
                  · intro w' hSw
                    go_simp
                    first | done | with_reducible rfl
                  try simp only [Go.Act.put, List.setIfInBounds_toArray, List.set_cons_zero, List.set_cons_succ]
                  refine wpAnyH_takeD (i := 2) (v := ?_) (some 119) rfl rfl (by kernel_rfl) (by kernel_rfl) (by kernel_rfl) (fun _ _ _ h => h) (Or.inl ⟨by rfl, ?_⟩) (by assumption) ?_
                  rotate_left
                  · intro w' hSw
                    go_simp
                    first | done | with_reducible rfl
                  try simp only [Go.Act.put, List.setIfInBounds_toArray, List.set_cons_zero, List.set_cons_succ]
                  refine wpAnyH_takeD (i := 3) (v := ?_) (some 120) rfl rfl (by kernel_rfl) (by kernel_rfl) (by kernel_rfl) (fun _ _ _ h => h) (Or.inl ⟨by rfl, ?_⟩) (by assumption) ?_
                  rotate_left
                  · intro w' hSw
                    go_simp
                    first | done | with_reducible rfl
                  try simp only [Go.Act.put, List.setIfInBounds_toArray, List.set_cons_zero, List.set_cons_succ]
                  refine wpAnyH_takeD (i := 4) (v := ?_) (some 121) rfl rfl (by kernel_rfl) (by kernel_rfl) (by kernel_rfl) (fun _ _ _ h => h) (Or.inl ⟨by rfl, ?_⟩) (by assumption) ?_
                  rotate_left
                  · intro w' hSw
                    go_simp
                    first | done | with_reducible rfl
                  try simp only [Go.Act.put, List.setIfInBounds_toArray, List.set_cons_zero, List.set_cons_succ]
                  refine wpAnyH_takeD (i := 5) (v := ?_) (some 122) rfl rfl (by kernel_rfl) (by kernel_rfl) (by kernel_rfl) (fun _ _ _ h => h) (Or.inl ⟨by rfl, ?_⟩) (by assumption) ?_
                  rotate_left
                  · intro w' hSw
                    go_simp
                    first | done | with_reducible rfl
                  try simp only [Go.Act.put, List.setIfInBounds_toArray, List.set_cons_zero, List.set_cons_succ]
                  refine wpAnyH_takeD (i := 6) (v := ?_) (some 123) rfl rfl (by kernel_rfl) (by kernel_rfl) (by kernel_rfl) (fun _ _ _ h => h) (Or.inl ⟨by rfl, ?_⟩) (by assumption) ?_
                  rotate_left
                  · intro w' hSw
                    go_simp
                    first | done | with_reducible rfl
                  try simp only [Go.Act.put, List.setIfInBounds_toArray, List.set_cons_zero, List.set_cons_succ]
                  refine wpAnyH_takeD (i := 7) (v := ?_) (some 124) rfl rfl (by kernel_rfl) (by kernel_rfl) (by kernel_rfl) (fun _ _ _ h => h) (Or.inl ⟨by rfl, ?_⟩) (by assumption) ?_
                  rotate_left
                  · intro w' hSw
                    obtain ⟨q0, q1, _⟩ := HB.out w' hSw
                    go_simp
                    first | done | with_reducible rfl
                  try simp only [Go.Act.put, List.setIfInBounds_toArray, List.set_cons_zero, List.set_cons_succ]
                  refine wpAnyH_takeD (i := 8) (v := ?_) (some 125) rfl rfl (by kernel_rfl) (by kernel_rfl) (by kernel_rfl) (fun _ _ _ h => h) (Or.inl ⟨by rfl, ?_⟩) (by assumption) ?_
                  rotate_left
                  · intro w' hSw
                    go_simp
                    first | done | with_reducible rfl
                  try simp only [Go.Act.put, List.setIfInBounds_toArray, List.set_cons_zero, List.set_cons_succ]
                  refine wpAnyH_takeD (i := 9) (v := ?_) (some 126) rfl rfl (by kernel_rfl) (by kernel_rfl) (by kernel_rfl) (fun _ _ _ h => h) (Or.inl ⟨by rfl, ?_⟩) (by assumption) ?_
                  rotate_left
                  · intro w' hSw
                    go_simp
                    first | done | with_reducible rfl
                  try simp only [Go.Act.put, List.setIfInBounds_toArray, List.set_cons_zero, List.set_cons_succ]
                  refine wpAnyH_takeD (i := 10) (v := ?_) (some 127) rfl rfl (by kernel_rfl) (by kernel_rfl) (by kernel_rfl) (fun _ _ _ h => h) (Or.inl ⟨by rfl, ?_⟩) (by assumption) ?_
                  rotate_left
                  · intro w' hSw
                    go_simp
                    first | done | with_reducible rfl
                  try simp only [Go.Act.put, List.setIfInBounds_toArray, List.set_cons_zero, List.set_cons_succ]
                  refine wpAnyH_takeD (i := 11) (v := ?_) (some 128) rfl rfl (by kernel_rfl) (by kernel_rfl) (by kernel_rfl) (fun _ _ _ h => h) (Or.inl ⟨by rfl, ?_⟩) (by assumption) ?_
                  rotate_left
                  · intro w' hSw
                    go_simp
                    first | done | with_reducible rfl
                  try simp only [Go.Act.put, List.setIfInBounds_toArray, List.set_cons_zero, List.set_cons_succ]
                  refine wpAnyH_takeD (i := 12) (v := ?_) (some 129) rfl rfl (by kernel_rfl) (by kernel_rfl) (by kernel_rfl) (fun _ _ _ h => h) (Or.inl ⟨by rfl, ?_⟩) (by assumption) ?_
                  rotate_left
                  · intro w' hSw
                    obtain ⟨q0, q1, _⟩ := HA.out w' hSw
                    go_simp
                    first | done | with_reducible rfl
                  try simp only [Go.Act.put, List.setIfInBounds_toArray, List.set_cons_zero, List.set_cons_succ]
                  refine wpAnyH_takeD (i := 13) (v := ?_) (some 130) rfl rfl (by kernel_rfl) (by kernel_rfl) (by kernel_rfl) (fun _ _ _ h => h) (Or.inl ⟨by rfl, ?_⟩) (by assumption) ?_
                  rotate_left
                  · intro w' hSw
                    go_simp
                    first | done | with_reducible rfl
                  try simp only [Go.Act.put, List.setIfInBounds_toArray, List.set_cons_zero, List.set_cons_succ]
                  refine wpAnyH_takeD (i := 14) (v := ?_) (some 131) rfl rfl (by kernel_rfl) (by kernel_rfl) (by kernel_rfl) (fun _ _ _ h => h) (Or.inl ⟨by rfl, ?_⟩) (by assumption) ?_
                  rotate_left
                  · intro w' hSw
                    go_simp
                    first | done | with_reducible rfl
                  try simp only [Go.Act.put, List.setIfInBounds_toArray, List.set_cons_zero, List.set_cons_succ]
                  refine wpAnyH_takeD (i := 15) (v := ?_) (some 132) rfl rfl (by kernel_rfl) (by kernel_rfl) (by kernel_rfl) (fun _ _ _ h => h) (Or.inl ⟨by rfl, ?_⟩) (by assumption) ?_
                  rotate_left
                  · intro w' hSw
                    go_simp
                    first | done | with_reducible rfl
                  try simp only [Go.Act.put, List.setIfInBounds_toArray, List.set_cons_zero, List.set_cons_succ]
                  refine wpAnyH_takeD (i := 16) (v := ?_) (some 133) rfl rfl (by kernel_rfl) (by kernel_rfl) (by kernel_rfl) (fun _ _ _ h => h) (Or.inl ⟨by rfl, ?_⟩) (by assumption) ?_
                  rotate_left
                  · intro w' hSw
                    go_simp
                    first | done | with_reducible rfl
                  try simp only [Go.Act.put, List.setIfInBounds_toArray, List.set_cons_zero, List.set_cons_succ]
                  refine wpAnyH_takeD (i := 17) (v := ?_) (some 134) rfl rfl (by kernel_rfl) (by kernel_rfl) (by kernel_rfl) (fun _ _ _ h => h) (Or.inl ⟨by rfl, ?_⟩) (by assumption) ?_
                  rotate_left
                  · intro w' hSw
                    go_simp
                    first | done | with_reducible rfl
                  try simp only [Go.Act.put, List.setIfInBounds_toArray, List.set_cons_zero, List.set_cons_succ]
                  refine wpAnyH_takeD (i := 18) (v := ?_) (some 135) rfl rfl (by kernel_rfl) (by kernel_rfl) (by kernel_rfl) (fun _ _ _ h => h) (Or.inl ⟨by rfl, ?_⟩) (by assumption) ?_
                  rotate_left
                  · intro w' hSw
                    go_simp
                    first | done | with_reducible rfl
                  try simp only [Go.Act.put, List.setIfInBounds_toArray, List.set_cons_zero, List.set_cons_succ]
                  refine wpAnyH_takeD (i := 19) (v := ?_) (some 136) rfl rfl (by kernel_rfl) (by kernel_rfl) (by kernel_rfl) (fun _ _ _ h => h) (Or.inl ⟨by rfl, ?_⟩) (by assumption) ?_
                  rotate_left
                  · intro w' hSw
                    obtain ⟨q0, q1, _⟩ := HB.out w' hSw
                    go_simp
                    first | done | with_reducible rfl
                  try simp only [Go.Act.put, List.setIfInBounds_toArray, List.set_cons_zero, List.set_cons_succ]
                  refine wpAnyH_takeD (i := 20) (v := ?_) (some 137) rfl rfl (by kernel_rfl) (by kernel_rfl) (by kernel_rfl) (fun _ _ _ h => h) (Or.inl ⟨by rfl, ?_⟩) (by assumption) ?_
                  rotate_left
                  · intro w' hSw
                    have s1 := FB.out w' hSw
                    go_simp
                    first | done | with_reducible rfl
                  try simp only [Go.Act.put, List.setIfInBounds_toArray, List.set_cons_zero, List.set_cons_succ]
                  refine wpAnyH_takeD (i := 21) (v := ?_) (some 138) rfl rfl (by kernel_rfl) (by kernel_rfl) (by kernel_rfl) (fun _ _ _ h => h) (Or.inl ⟨by rfl, ?_⟩) (by assumption) ?_
                  rotate_left
                  · intro w' hSw
                    go_simp
                    first | done | with_reducible rfl
                  try simp only [Go.Act.put, List.setIfInBounds_toArray, List.set_cons_zero, List.set_cons_succ]
                  refine wpAnyH_takeD (i := 22) (v := ?_) (some 139) rfl rfl (by kernel_rfl) (by kernel_rfl) (by kernel_rfl) (fun _ _ _ h => h) (Or.inl ⟨by rfl, ?_⟩) (by assumption) ?_
                  rotate_left
                  · intro w' hSw
                    go_simp
                    first | done | with_reducible rfl
                  try simp only [Go.Act.put, List.setIfInBounds_toArray, List.set_cons_zero, List.set_cons_succ]
                  refine wpAnyH_takeD (i := 23) (v := ?_) (some 140) rfl rfl (by kernel_rfl) (by kernel_rfl) (by kernel_rfl) (fun _ _ _ h => h) (Or.inl ⟨by rfl, ?_⟩) (by assumption) ?_
                  rotate_left
                  · intro w' hSw
                    go_simp
                    first | done | with_reducible rfl
                  try simp only [Go.Act.put, List.setIfInBounds_toArray, List.set_cons_zero, List.set_cons_succ]
                  refine wpAnyH_takeD (i := 24) (v := ?_) (some 141) rfl rfl (by kernel_rfl) (by kernel_rfl) (by kernel_rfl) (fun _ _ _ h => h) (Or.inl ⟨by rfl, ?_⟩) (by assumption) ?_
                  rotate_left
                  · intro w' hSw
                    go_simp
                    first | done | with_reducible rfl
                  try simp only [Go.Act.put, List.setIfInBounds_toArray, List.set_cons_zero, List.set_cons_succ]
                  refine wpAnyH_takeD (i := 25) (v := ?_) (some 142) rfl rfl (by kernel_rfl) (by kernel_rfl) (by kernel_rfl) (fun _ _ _ h => h) (Or.inl ⟨by rfl, ?_⟩) (by assumption) ?_
                  rotate_left
                  · intro w' hSw
                    obtain ⟨q0, q1, _⟩ := HA.out w' hSw
                    go_simp
                    first | done | with_reducible rfl
                  try simp only [Go.Act.put, List.setIfInBounds_toArray, List.set_cons_zero, List.set_cons_succ]
                  refine wpAnyH_takeD (i := 26) (v := ?_) (some 143) rfl rfl (by kernel_rfl) (by kernel_rfl) (by kernel_rfl) (fun _ _ _ h => h) (Or.inl ⟨by rfl, ?_⟩) (by assumption) ?_
                  rotate_left
                  · intro w' hSw
                    have s1 := FA.out w' hSw
                    go_simp
                    first | done | with_reducible rfl
                  try simp only [Go.Act.put, List.setIfInBounds_toArray, List.set_cons_zero, List.set_cons_succ]
                  refine wpAnyH_takeD (i := 27) (v := ?_) (some 144) rfl rfl (by kernel_rfl) (by kernel_rfl) (by kernel_rfl) (fun _ _ _ h => h) (Or.inl ⟨by rfl, ?_⟩) (by assumption) ?_
                  rotate_left
                  · intro w' hSw
                    go_simp
                    first | done | with_reducible rfl
                  try simp only [Go.Act.put, List.setIfInBounds_toArray, List.set_cons_zero, List.set_cons_succ]
                  refine wpAnyH_takeD (i := 28) (v := ?_) (some 145) rfl rfl (by kernel_rfl) (by kernel_rfl) (by kernel_rfl) (fun _ _ _ h => h) (Or.inl ⟨by rfl, ?_⟩) (by assumption) ?_
                  rotate_left
                  · intro w' hSw
                    go_simp
                    first | done | with_reducible rfl
                  try simp only [Go.Act.put, List.setIfInBounds_toArray, List.set_cons_zero, List.set_cons_succ]
                  refine wpAnyH_takeD (i := 29) (v := undef) (some 146) rfl rfl (by kernel_rfl) (by kernel_rfl) (by kernel_rfl) (fun _ _ _ h => h) (Or.inr ⟨by rfl, rfl⟩) (by assumption) ?_
                  try simp only [Go.Act.put, List.setIfInBounds_toArray, List.set_cons_zero, List.set_cons_succ]
                  refine wpAnyH_takeD (i := 30) (v := undef) (some 147) rfl rfl (by kernel_rfl) (by kernel_rfl) (by kernel_rfl) (fun _ _ _ h => h) (Or.inr ⟨by rfl, rfl⟩) (by assumption) ?_
                  try simp only [Go.Act.put, List.setIfInBounds_toArray, List.set_cons_zero, List.set_cons_succ]
                  refine wpAnyH_takeD (i := 31) (v := undef) (some 148) rfl rfl (by kernel_rfl) (by kernel_rfl) (by kernel_rfl) (fun _ _ _ h => h) (Or.inr ⟨by rfl, rfl⟩) (by assumption) ?_
                  try simp only [Go.Act.put, List.setIfInBounds_toArray, List.set_cons_zero, List.set_cons_succ]
                  refine wpAnyH_takeD (i := 32) (v := undef) (some 149) rfl rfl (by kernel_rfl) (by kernel_rfl) (by kernel_rfl) (fun _ _ _ h => h) (Or.inr ⟨by rfl, rfl⟩) (by assumption) ?_
                  try simp only [Go.Act.put, List.setIfInBounds_toArray, List.set_cons_zero, List.set_cons_succ]
                  refine wpAnyH_takeD (i := 33) (v := undef) (some 150) rfl rfl (by kernel_rfl) (by kernel_rfl) (by kernel_rfl) (fun _ _ _ h => h) (Or.inr ⟨by rfl, rfl⟩) (by assumption) ?_
                  try simp only [Go.Act.put, List.setIfInBounds_toArray, List.set_cons_zero, List.set_cons_succ]
                  refine wpAnyH_takeD (i := 34) (v := undef) (some 151) rfl rfl (by kernel_rfl) (by kernel_rfl) (by kernel_rfl) (fun _ _ _ h => h) (Or.inr ⟨by rfl, rfl⟩) (by assumption) ?_
                  try simp only [Go.Act.put, List.setIfInBounds_toArray, List.set_cons_zero, List.set_cons_succ]
                  refine wpAnyH_takeD (i := 35) (v := undef) (some 152) rfl rfl (by kernel_rfl) (by kernel_rfl) (by kernel_rfl) (fun _ _ _ h => h) (Or.inr ⟨by rfl, rfl⟩) (by assumption) ?_
                  try simp only [Go.Act.put, List.setIfInBounds_toArray, List.set_cons_zero, List.set_cons_succ]
                  refine wpAnyH_takeD (i := 36) (v := undef) (some 153) rfl rfl (by kernel_rfl) (by kernel_rfl) (by kernel_rfl) (fun _ _ _ h => h) (Or.inr ⟨by rfl, rfl⟩) (by assumption) ?_
                  try simp only [Go.Act.put, List.setIfInBounds_toArray, List.set_cons_zero, List.set_cons_succ]
                  refine wpAnyH_takeD (i := 37) (v := undef) (some 154) rfl rfl (by kernel_rfl) (by kernel_rfl) (by kernel_rfl) (fun _ _ _ h => h) (Or.inr ⟨by rfl, rfl⟩) (by assumption) ?_
                  try simp only [Go.Act.put, List.setIfInBounds_toArray, List.set_cons_zero, List.set_cons_succ]
                  refine wpAnyH_takeD (i := 38) (v := ?_) (some 155) rfl rfl (by kernel_rfl) (by kernel_rfl) (by kernel_rfl) (fun _ _ _ h => h) (Or.inl ⟨by rfl, ?_⟩) (by assumption) ?_
                  rotate_left
                  · intro w' hSw
                    go_simp
                    first | done | with_reducible rfl
                  try simp only [Go.Act.put, List.setIfInBounds_toArray, List.set_cons_zero, List.set_cons_succ]
                  refine wpAnyH_takeD (i := 39) (v := ?_) (some 156) rfl rfl (by kernel_rfl) (by kernel_rfl) (by kernel_rfl) (fun _ _ _ h => h) (Or.inl ⟨by rfl, ?_⟩) (by assumption) ?_
                  rotate_left
                  · intro w' hSw
                    go_simp
                    first | done | with_reducible rfl
                  try simp only [Go.Act.put, List.setIfInBounds_toArray, List.set_cons_zero, List.set_cons_succ]
                  refine wpAnyH_takeD (i := 40) (v := undef) (some 157) rfl rfl (by kernel_rfl) (by kernel_rfl) (by kernel_rfl) (fun _ _ _ h => h) (Or.inr ⟨by rfl, rfl⟩) (by assumption) ?_
                  try simp only [Go.Act.put, List.setIfInBounds_toArray, List.set_cons_zero, List.set_cons_succ]
                  refine wpAnyH_takeD (i := 41) (v := undef) (some 158) rfl rfl (by kernel_rfl) (by kernel_rfl) (by kernel_rfl) (fun _ _ _ h => h) (Or.inr ⟨by rfl, rfl⟩) (by assumption) ?_
                  try simp only [Go.Act.put, List.setIfInBounds_toArray, List.set_cons_zero, List.set_cons_succ]
                  refine wpAnyH_takeD (i := 42) (v := undef) (some 159) rfl rfl (by kernel_rfl) (by kernel_rfl) (by kernel_rfl) (fun _ _ _ h => h) (Or.inr ⟨by rfl, rfl⟩) (by assumption) ?_
                  try simp only [Go.Act.put, List.setIfInBounds_toArray, List.set_cons_zero, List.set_cons_succ]
                  refine wpAnyH_takeD (i := 43) (v := undef) (some 160) rfl rfl (by kernel_rfl) (by kernel_rfl) (by kernel_rfl) (fun _ _ _ h => h) (Or.inr ⟨by rfl, rfl⟩) (by assumption) ?_
                  try simp only [Go.Act.put, List.setIfInBounds_toArray, List.set_cons_zero, List.set_cons_succ]
                  refine wpAnyH_takeD (i := 44) (v := undef) (some 161) rfl rfl (by kernel_rfl) (by kernel_rfl) (by kernel_rfl) (fun _ _ _ h => h) (Or.inr ⟨by rfl, rfl⟩) (by assumption) ?_
                  try simp only [Go.Act.put, List.setIfInBounds_toArray, List.set_cons_zero, List.set_cons_succ]
                  refine wpAnyH_takeD (i := 45) (v := undef) (some 162) rfl rfl (by kernel_rfl) (by kernel_rfl) (by kernel_rfl) (fun _ _ _ h => h) (Or.inr ⟨by rfl, rfl⟩) (by assumption) ?_
                  try simp only [Go.Act.put, List.setIfInBounds_toArray, List.set_cons_zero, List.set_cons_succ]
                  refine wpAnyH_takeD (i := 46) (v := undef) (some 163) rfl rfl (by kernel_rfl) (by kernel_rfl) (by kernel_rfl) (fun _ _ _ h => h) (Or.inr ⟨by rfl, rfl⟩) (by assumption) ?_
                  try simp only [Go.Act.put, List.setIfInBounds_toArray, List.set_cons_zero, List.set_cons_succ]
                  refine wpAnyH_takeD (i := 47) (v := undef) (some 164) rfl rfl (by kernel_rfl) (by kernel_rfl) (by kernel_rfl) (fun _ _ _ h => h) (Or.inr ⟨by rfl, rfl⟩) (by assumption) ?_
                  try simp only [Go.Act.put, List.setIfInBounds_toArray, List.set_cons_zero, List.set_cons_succ]
                  refine wpAnyH_takeD (i := 48) (v := ?_) (some 165) rfl rfl (by kernel_rfl) (by kernel_rfl) (by kernel_rfl) (fun _ _ _ h => h) (Or.inl ⟨by rfl, ?_⟩) (by assumption) ?_
                  rotate_left
                  · intro w' hSw
                    go_simp
                    first | done | with_reducible rfl
                  try simp only [Go.Act.put, List.setIfInBounds_toArray, List.set_cons_zero, List.set_cons_succ]
                  refine wpAnyH_takeD (i := 49) (v := ?_) (some 166) rfl rfl (by kernel_rfl) (by kernel_rfl) (by kernel_rfl) (fun _ _ _ h => h) (Or.inl ⟨by rfl, ?_⟩) (by assumption) ?_
                  rotate_left
                  · intro w' hSw
                    go_simp
                    first | done | with_reducible rfl
                  try simp only [Go.Act.put, List.setIfInBounds_toArray, List.set_cons_zero, List.set_cons_succ]
                  refine wpAnyH_done (by kernel_rfl) ?_ _
                  have HH := Lib.hid (HF6.out.trans hHeld (fun _ _ h => h))
                  clear hHeld
                  go_wp2
                  refine ⟨⟨k + 1, by simp, by have := HKF.out; omega, by omega, HH.out⟩, ?_⟩
                  first | omega | (show _ < _; simp [intOf]; omega)
                · have b0 : ((strOf Y).toList == (strOf X).toList) = false := by
                    rw [Bool.eq_false_iff]
                    intro h9
                    rw [beq_iff_eq] at h9
                    apply hXY
                    simpa [strOf] using h9
                  have CFN : Hid (∀ w', Fr (fun _ => False) w8 w' → Calls Try.prog 19 #[.slice A1 n1 c1, .int .i64 (k : Int), .int .i64 t8] w' fun e w'' => e = .returned (.bool false) ∧ w' = w'') := Lib.hid (CFN0.out (by intro h; injection h with _ h; exact hXY h))
                  have CMK := CMK0
                  have ew : IntKind.i64.wrap ((k : Int) + 1) = (k : Int) + 1 := IntWalk.i64_in _ (by omega)
                  go_wp2_with fail
                  refine wp_region_held_drew (S := fun w' => Fr (fun _ => False) w8 w') (by kernel_rfl) ((Fr.refl _ _).drew) (fun hHeld => ?_)
                  refine wpAnyH_takeD (i := 0) (v := ?_) (some 117) rfl rfl (by kernel_rfl) (by kernel_rfl) (by kernel_rfl) (fun _ _ _ h => h) (Or.inl ⟨by rfl, ?_⟩) (by assumption) ?_
                  rotate_left
                  · intro w' hSw
                    go_simp
                    first | done | with_reducible rfl
                  try simp only [Go.Act.put, List.setIfInBounds_toArray, List.set_cons_zero, List.set_cons_succ]
                  refine wpAnyH_takeD (i := 1) (v := ?_) (some 118) rfl rfl (by kernel_rfl) (by kernel_rfl) (by kernel_rfl) (fun _ _ _ h => h) (Or.inl ⟨by rfl, ?_⟩) (by assumption) ?_
                  rotate_left
                  · intro w' hSw
                    go_simp
                    first | done | with_reducible rfl
                  try simp only [Go.Act.put, List.setIfInBounds_toArray, List.set_cons_zero, List.set_cons_succ]
                  refine wpAnyH_takeD (i := 2) (v := ?_) (some 119) rfl rfl (by kernel_rfl) (by kernel_rfl) (by kernel_rfl) (fun _ _ _ h => h) (Or.inl ⟨by rfl, ?_⟩) (by assumption) ?_
                  rotate_left
                  · intro w' hSw
                    go_simp
                    first | done | with_reducible rfl
                  try simp only [Go.Act.put, List.setIfInBounds_toArray, List.set_cons_zero, List.set_cons_succ]
                  refine wpAnyH_takeD (i := 3) (v := ?_) (some 120) rfl rfl (by kernel_rfl) (by kernel_rfl) (by kernel_rfl) (fun _ _ _ h => h) (Or.inl ⟨by rfl, ?_⟩) (by assumption) ?_
                  rotate_left
                  · intro w' hSw
                    go_simp
                    first | done | with_reducible rfl
                  try simp only [Go.Act.put, List.setIfInBounds_toArray, List.set_cons_zero, List.set_cons_succ]
                  refine wpAnyH_takeD (i := 4) (v := ?_) (some 121) rfl rfl (by kernel_rfl) (by kernel_rfl) (by kernel_rfl) (fun _ _ _ h => h) (Or.inl ⟨by rfl, ?_⟩) (by assumption) ?_
                  rotate_left
                  · intro w' hSw
                    go_simp
                    first | done | with_reducible rfl
                  try simp only [Go.Act.put, List.setIfInBounds_toArray, List.set_cons_zero, List.set_cons_succ]
                  refine wpAnyH_takeD (i := 5) (v := ?_) (some 122) rfl rfl (by kernel_rfl) (by kernel_rfl) (by kernel_rfl) (fun _ _ _ h => h) (Or.inl ⟨by rfl, ?_⟩) (by assumption) ?_
                  rotate_left
                  · intro w' hSw
                    go_simp
                    first | done | with_reducible rfl
                  try simp only [Go.Act.put, List.setIfInBounds_toArray, List.set_cons_zero, List.set_cons_succ]
                  refine wpAnyH_takeD (i := 6) (v := ?_) (some 123) rfl rfl (by kernel_rfl) (by kernel_rfl) (by kernel_rfl) (fun _ _ _ h => h) (Or.inl ⟨by rfl, ?_⟩) (by assumption) ?_
                  rotate_left
                  · intro w' hSw
                    go_simp
                    first | done | with_reducible rfl
                  try simp only [Go.Act.put, List.setIfInBounds_toArray, List.set_cons_zero, List.set_cons_succ]
                  refine wpAnyH_takeD (i := 7) (v := ?_) (some 124) rfl rfl (by kernel_rfl) (by kernel_rfl) (by kernel_rfl) (fun _ _ _ h => h) (Or.inl ⟨by rfl, ?_⟩) (by assumption) ?_
                  rotate_left
                  · intro w' hSw
                    obtain ⟨q0, q1, _⟩ := HB.out w' hSw
                    go_simp
                    first | done | with_reducible rfl
                  try simp only [Go.Act.put, List.setIfInBounds_toArray, List.set_cons_zero, List.set_cons_succ]
                  refine wpAnyH_takeD (i := 8) (v := ?_) (some 125) rfl rfl (by kernel_rfl) (by kernel_rfl) (by kernel_rfl) (fun _ _ _ h => h) (Or.inl ⟨by rfl, ?_⟩) (by assumption) ?_
                  rotate_left
                  · intro w' hSw
                    go_simp
                    first | done | with_reducible rfl
                  try simp only [Go.Act.put, List.setIfInBounds_toArray, List.set_cons_zero, List.set_cons_succ]
                  refine wpAnyH_takeD (i := 9) (v := ?_) (some 126) rfl rfl (by kernel_rfl) (by kernel_rfl) (by kernel_rfl) (fun _ _ _ h => h) (Or.inl ⟨by rfl, ?_⟩) (by assumption) ?_
                  rotate_left
                  · intro w' hSw
                    go_simp
                    first | done | with_reducible rfl
                  try simp only [Go.Act.put, List.setIfInBounds_toArray, List.set_cons_zero, List.set_cons_succ]
                  refine wpAnyH_takeD (i := 10) (v := ?_) (some 127) rfl rfl (by kernel_rfl) (by kernel_rfl) (by kernel_rfl) (fun _ _ _ h => h) (Or.inl ⟨by rfl, ?_⟩) (by assumption) ?_
                  rotate_left
                  · intro w' hSw
                    go_simp
                    first | done | with_reducible rfl
                  try simp only [Go.Act.put, List.setIfInBounds_toArray, List.set_cons_zero, List.set_cons_succ]
                  refine wpAnyH_takeD (i := 11) (v := ?_) (some 128) rfl rfl (by kernel_rfl) (by kernel_rfl) (by kernel_rfl) (fun _ _ _ h => h) (Or.inl ⟨by rfl, ?_⟩) (by assumption) ?_
                  rotate_left
                  · intro w' hSw
                    go_simp
                    first | done | with_reducible rfl
                  try simp only [Go.Act.put, List.setIfInBounds_toArray, List.set_cons_zero, List.set_cons_succ]
                  refine wpAnyH_takeD (i := 12) (v := ?_) (some 129) rfl rfl (by kernel_rfl) (by kernel_rfl) (by kernel_rfl) (fun _ _ _ h => h) (Or.inl ⟨by rfl, ?_⟩) (by assumption) ?_
                  rotate_left
                  · intro w' hSw
                    obtain ⟨q0, q1, _⟩ := HA.out w' hSw
                    go_simp
                    first | done | with_reducible rfl
                  try simp only [Go.Act.put, List.setIfInBounds_toArray, List.set_cons_zero, List.set_cons_succ]
                  refine wpAnyH_takeD (i := 13) (v := ?_) (some 130) rfl rfl (by kernel_rfl) (by kernel_rfl) (by kernel_rfl) (fun _ _ _ h => h) (Or.inl ⟨by rfl, ?_⟩) (by assumption) ?_
                  rotate_left
                  · intro w' hSw
                    go_simp
                    first | done | with_reducible rfl
                  try simp only [Go.Act.put, List.setIfInBounds_toArray, List.set_cons_zero, List.set_cons_succ]
                  refine wpAnyH_takeD (i := 14) (v := ?_) (some 131) rfl rfl (by kernel_rfl) (by kernel_rfl) (by kernel_rfl) (fun _ _ _ h => h) (Or.inl ⟨by rfl, ?_⟩) (by assumption) ?_
                  rotate_left
                  · intro w' hSw
                    go_simp
                    first | done | with_reducible rfl
                  try simp only [Go.Act.put, List.setIfInBounds_toArray, List.set_cons_zero, List.set_cons_succ]
                  refine wpAnyH_takeD (i := 15) (v := ?_) (some 132) rfl rfl (by kernel_rfl) (by kernel_rfl) (by kernel_rfl) (fun _ _ _ h => h) (Or.inl ⟨by rfl, ?_⟩) (by assumption) ?_
                  rotate_left
                  · intro w' hSw
                    go_simp
                    first | done | with_reducible rfl
                  try simp only [Go.Act.put, List.setIfInBounds_toArray, List.set_cons_zero, List.set_cons_succ]
                  refine wpAnyH_takeD (i := 16) (v := ?_) (some 133) rfl rfl (by kernel_rfl) (by kernel_rfl) (by kernel_rfl) (fun _ _ _ h => h) (Or.inl ⟨by rfl, ?_⟩) (by assumption) ?_
                  rotate_left
                  · intro w' hSw
                    go_simp
                    first | done | with_reducible rfl
                  try simp only [Go.Act.put, List.setIfInBounds_toArray, List.set_cons_zero, List.set_cons_succ]
                  refine wpAnyH_takeD (i := 17) (v := ?_) (some 134) rfl rfl (by kernel_rfl) (by kernel_rfl) (by kernel_rfl) (fun _ _ _ h => h) (Or.inl ⟨by rfl, ?_⟩) (by assumption) ?_
                  rotate_left
                  · intro w' hSw
                    go_simp
                    first | done | with_reducible rfl
                  try simp only [Go.Act.put, List.setIfInBounds_toArray, List.set_cons_zero, List.set_cons_succ]
                  refine wpAnyH_takeD (i := 18) (v := ?_) (some 135) rfl rfl (by kernel_rfl) (by kernel_rfl) (by kernel_rfl) (fun _ _ _ h => h) (Or.inl ⟨by rfl, ?_⟩) (by assumption) ?_
                  rotate_left
                  · intro w' hSw
                    go_simp
                    first | done | with_reducible rfl
                  try simp only [Go.Act.put, List.setIfInBounds_toArray, List.set_cons_zero, List.set_cons_succ]
                  refine wpAnyH_takeD (i := 19) (v := ?_) (some 136) rfl rfl (by kernel_rfl) (by kernel_rfl) (by kernel_rfl) (fun _ _ _ h => h) (Or.inl ⟨by rfl, ?_⟩) (by assumption) ?_
                  rotate_left
                  · intro w' hSw
                    obtain ⟨q0, q1, _⟩ := HB.out w' hSw
                    go_simp
                    first | done | with_reducible rfl
                  try simp only [Go.Act.put, List.setIfInBounds_toArray, List.set_cons_zero, List.set_cons_succ]
                  refine wpAnyH_takeD (i := 20) (v := ?_) (some 137) rfl rfl (by kernel_rfl) (by kernel_rfl) (by kernel_rfl) (fun _ _ _ h => h) (Or.inl ⟨by rfl, ?_⟩) (by assumption) ?_
                  rotate_left
                  · intro w' hSw
                    have s1 := FB.out w' hSw
                    go_simp
                    first | done | with_reducible rfl
                  try simp only [Go.Act.put, List.setIfInBounds_toArray, List.set_cons_zero, List.set_cons_succ]
                  refine wpAnyH_takeD (i := 21) (v := ?_) (some 138) rfl rfl (by kernel_rfl) (by kernel_rfl) (by kernel_rfl) (fun _ _ _ h => h) (Or.inl ⟨by rfl, ?_⟩) (by assumption) ?_
                  rotate_left
                  · intro w' hSw
                    go_simp
                    first | done | with_reducible rfl
                  try simp only [Go.Act.put, List.setIfInBounds_toArray, List.set_cons_zero, List.set_cons_succ]
                  refine wpAnyH_takeD (i := 22) (v := ?_) (some 139) rfl rfl (by kernel_rfl) (by kernel_rfl) (by kernel_rfl) (fun _ _ _ h => h) (Or.inl ⟨by rfl, ?_⟩) (by assumption) ?_
                  rotate_left
                  · intro w' hSw
                    go_simp
                    first | done | with_reducible rfl
                  try simp only [Go.Act.put, List.setIfInBounds_toArray, List.set_cons_zero, List.set_cons_succ]
                  refine wpAnyH_takeD (i := 23) (v := ?_) (some 140) rfl rfl (by kernel_rfl) (by kernel_rfl) (by kernel_rfl) (fun _ _ _ h => h) (Or.inl ⟨by rfl, ?_⟩) (by assumption) ?_
                  rotate_left
                  · intro w' hSw
                    go_simp
                    first | done | with_reducible rfl
                  try simp only [Go.Act.put, List.setIfInBounds_toArray, List.set_cons_zero, List.set_cons_succ]
                  refine wpAnyH_takeD (i := 24) (v := ?_) (some 141) rfl rfl (by kernel_rfl) (by kernel_rfl) (by kernel_rfl) (fun _ _ _ h => h) (Or.inl ⟨by rfl, ?_⟩) (by assumption) ?_
                  rotate_left
                  · intro w' hSw
                    go_simp
                    first | done | with_reducible rfl
                  try simp only [Go.Act.put, List.setIfInBounds_toArray, List.set_cons_zero, List.set_cons_succ]
                  refine wpAnyH_takeD (i := 25) (v := ?_) (some 142) rfl rfl (by kernel_rfl) (by kernel_rfl) (by kernel_rfl) (fun _ _ _ h => h) (Or.inl ⟨by rfl, ?_⟩) (by assumption) ?_
                  rotate_left
                  · intro w' hSw
                    obtain ⟨q0, q1, _⟩ := HA.out w' hSw
                    go_simp
                    first | done | with_reducible rfl
                  try simp only [Go.Act.put, List.setIfInBounds_toArray, List.set_cons_zero, List.set_cons_succ]
                  refine wpAnyH_takeD (i := 26) (v := ?_) (some 143) rfl rfl (by kernel_rfl) (by kernel_rfl) (by kernel_rfl) (fun _ _ _ h => h) (Or.inl ⟨by rfl, ?_⟩) (by assumption) ?_
                  rotate_left
                  · intro w' hSw
                    have s1 := FA.out w' hSw
                    go_simp
                    first | done | with_reducible rfl
                  try simp only [Go.Act.put, List.setIfInBounds_toArray, List.set_cons_zero, List.set_cons_succ]
                  refine wpAnyH_takeD (i := 27) (v := ?_) (some 144) rfl rfl (by kernel_rfl) (by kernel_rfl) (by kernel_rfl) (fun _ _ _ h => h) (Or.inl ⟨by rfl, ?_⟩) (by assumption) ?_
                  rotate_left
                  · intro w' hSw
                    go_simp
                    first | done | with_reducible rfl
                  try simp only [Go.Act.put, List.setIfInBounds_toArray, List.set_cons_zero, List.set_cons_succ]
                  refine wpAnyH_takeD (i := 28) (v := ?_) (some 145) rfl rfl (by kernel_rfl) (by kernel_rfl) (by kernel_rfl) (fun _ _ _ h => h) (Or.inl ⟨by rfl, ?_⟩) (by assumption) ?_
                  rotate_left
                  · intro w' hSw
                    go_simp
                    first | done | with_reducible rfl
                  try simp only [Go.Act.put, List.setIfInBounds_toArray, List.set_cons_zero, List.set_cons_succ]
                  refine wpAnyH_takeD (i := 29) (v := ?_) (some 146) rfl rfl (by kernel_rfl) (by kernel_rfl) (by kernel_rfl) (fun _ _ _ h => h) (Or.inl ⟨by rfl, ?_⟩) (by assumption) ?_
                  rotate_left
                  · intro w' hSw
                    go_simp
                    first | done | with_reducible rfl
                  try simp only [Go.Act.put, List.setIfInBounds_toArray, List.set_cons_zero, List.set_cons_succ]
                  refine wpAnyH_takeD (i := 30) (v := ?_) (some 147) rfl rfl (by kernel_rfl) (by kernel_rfl) (by kernel_rfl) (fun _ _ _ h => h) (Or.inl ⟨by rfl, ?_⟩) (by assumption) ?_
                  rotate_left
                  · intro w' hSw
                    go_simp
                    first | done | with_reducible rfl
                  try simp only [Go.Act.put, List.setIfInBounds_toArray, List.set_cons_zero, List.set_cons_succ]
                  refine wpAnyH_takeD (i := 31) (v := ?_) (some 148) rfl rfl (by kernel_rfl) (by kernel_rfl) (by kernel_rfl) (fun _ _ _ h => h) (Or.inl ⟨by rfl, ?_⟩) (by assumption) ?_
                  rotate_left
                  · intro w' hSw
                    go_simp
                    first | done | with_reducible rfl
                  try simp only [Go.Act.put, List.setIfInBounds_toArray, List.set_cons_zero, List.set_cons_succ]
                  refine wpAnyH_takeD (i := 32) (v := ?_) (some 149) rfl rfl (by kernel_rfl) (by kernel_rfl) (by kernel_rfl) (fun _ _ _ h => h) (Or.inl ⟨by rfl, ?_⟩) (by assumption) ?_
                  rotate_left
                  · intro w' hSw
                    go_simp
                    first | done | with_reducible rfl
                  try simp only [Go.Act.put, List.setIfInBounds_toArray, List.set_cons_zero, List.set_cons_succ]
                  refine wpAnyH_takeD (i := 33) (v := ?_) (some 150) rfl rfl (by kernel_rfl) (by kernel_rfl) (by kernel_rfl) (fun _ _ _ h => h) (Or.inl ⟨by rfl, ?_⟩) (by assumption) ?_
                  rotate_left
                  · intro w' hSw
                    go_simp
                    first | done | with_reducible rfl
                  try simp only [Go.Act.put, List.setIfInBounds_toArray, List.set_cons_zero, List.set_cons_succ]
                  refine wpAnyH_takeD (i := 34) (v := ?_) (some 151) rfl rfl (by kernel_rfl) (by kernel_rfl) (by kernel_rfl) (fun _ _ _ h => h) (Or.inl ⟨by rfl, ?_⟩) (by assumption) ?_
                  rotate_left
                  · intro w' hSw
                    go_simp
                    first | done | with_reducible rfl
                  try simp only [Go.Act.put, List.setIfInBounds_toArray, List.set_cons_zero, List.set_cons_succ]
                  refine wpAnyH_takeD (i := 35) (v := ?_) (some 152) rfl rfl (by kernel_rfl) (by kernel_rfl) (by kernel_rfl) (fun _ _ _ h => h) (Or.inl ⟨by rfl, ?_⟩) (by assumption) ?_
                  rotate_left
                  · intro w' hSw
                    go_simp
                    first | done | with_reducible rfl
                  try simp only [Go.Act.put, List.setIfInBounds_toArray, List.set_cons_zero, List.set_cons_succ]
                  refine wpAnyH_takeD (i := 36) (v := ?_) (some 153) rfl rfl (by kernel_rfl) (by kernel_rfl) (by kernel_rfl) (fun _ _ _ h => h) (Or.inl ⟨by rfl, ?_⟩) (by assumption) ?_
                  rotate_left
                  · intro w' hSw
                    obtain ⟨q0, q1, _⟩ := HA.out w' hSw
                    go_simp
                    first | done | with_reducible rfl
                  try simp only [Go.Act.put, List.setIfInBounds_toArray, List.set_cons_zero, List.set_cons_succ]
                  refine wpAnyH_ready (rs := [37]) (by kernel_rfl) (by simp) ?_
                  refine AllReadyH.cons rfl (fun K hK => ?_) AllReadyH.nil
                  go_simp
                  refine (CMK.out _ hHeld).mono ?_; rintro e v1 ⟨rfl, h9⟩
                  refine hK.out _ _ (hHeld.trans h9 (fun _ _ h => h)) (fun hHeld => ?_)
                  clear hK K
                  try change wpAnyH _ _ _ _ _ _ _ (Go.Act.put _ (some 154) _) _
                  try simp only [Go.Act.put, List.setIfInBounds_toArray, List.set_cons_zero, List.set_cons_succ]
                  clear h9
                  refine wpAnyH_takeD (i := 38) (v := ?_) (some 155) rfl rfl (by kernel_rfl) (by kernel_rfl) (by kernel_rfl) (fun _ _ _ h => h) (Or.inl ⟨by rfl, ?_⟩) (by assumption) ?_
                  rotate_left
                  · intro w' hSw
                    go_simp
                    first | done | with_reducible rfl
                  try simp only [Go.Act.put, List.setIfInBounds_toArray, List.set_cons_zero, List.set_cons_succ]
                  refine wpAnyH_takeD (i := 39) (v := ?_) (some 156) rfl rfl (by kernel_rfl) (by kernel_rfl) (by kernel_rfl) (fun _ _ _ h => h) (Or.inl ⟨by rfl, ?_⟩) (by assumption) ?_
                  rotate_left
                  · intro w' hSw
                    go_simp
                    first | done | with_reducible rfl
                  try simp only [Go.Act.put, List.setIfInBounds_toArray, List.set_cons_zero, List.set_cons_succ]
                  refine wpAnyH_takeD (i := 40) (v := ?_) (some 157) rfl rfl (by kernel_rfl) (by kernel_rfl) (by kernel_rfl) (fun _ _ _ h => h) (Or.inl ⟨by rfl, ?_⟩) (by assumption) ?_
                  rotate_left
                  · intro w' hSw
                    go_simp
                    first | done | with_reducible rfl
                  try simp only [Go.Act.put, List.setIfInBounds_toArray, List.set_cons_zero, List.set_cons_succ]
                  refine wpAnyH_takeD (i := 41) (v := ?_) (some 158) rfl rfl (by kernel_rfl) (by kernel_rfl) (by kernel_rfl) (fun _ _ _ h => h) (Or.inl ⟨by rfl, ?_⟩) (by assumption) ?_
                  rotate_left
                  · intro w' hSw
                    go_simp
                    first | done | with_reducible rfl
                  try simp only [Go.Act.put, List.setIfInBounds_toArray, List.set_cons_zero, List.set_cons_succ]
                  refine wpAnyH_takeD (i := 42) (v := ?_) (some 159) rfl rfl (by kernel_rfl) (by kernel_rfl) (by kernel_rfl) (fun _ _ _ h => h) (Or.inl ⟨by rfl, ?_⟩) (by assumption) ?_
                  rotate_left
                  · intro w' hSw
                    go_simp
                    first | done | with_reducible rfl
                  try simp only [Go.Act.put, List.setIfInBounds_toArray, List.set_cons_zero, List.set_cons_succ]
                  refine wpAnyH_takeD (i := 43) (v := ?_) (some 160) rfl rfl (by kernel_rfl) (by kernel_rfl) (by kernel_rfl) (fun _ _ _ h => h) (Or.inl ⟨by rfl, ?_⟩) (by assumption) ?_
                  rotate_left
                  · intro w' hSw
                    go_simp
                    first | done | with_reducible rfl
                  try simp only [Go.Act.put, List.setIfInBounds_toArray, List.set_cons_zero, List.set_cons_succ]
                  refine wpAnyH_takeD (i := 44) (v := ?_) (some 161) rfl rfl (by kernel_rfl) (by kernel_rfl) (by kernel_rfl) (fun _ _ _ h => h) (Or.inl ⟨by rfl, ?_⟩) (by assumption) ?_
                  rotate_left
                  · intro w' hSw
                    go_simp
                    first | done | with_reducible rfl
                  try simp only [Go.Act.put, List.setIfInBounds_toArray, List.set_cons_zero, List.set_cons_succ]
                  refine wpAnyH_takeD (i := 45) (v := ?_) (some 162) rfl rfl (by kernel_rfl) (by kernel_rfl) (by kernel_rfl) (fun _ _ _ h => h) (Or.inl ⟨by rfl, ?_⟩) (by assumption) ?_
                  rotate_left
                  · intro w' hSw
                    go_simp
                    first | done | with_reducible rfl
                  try simp only [Go.Act.put, List.setIfInBounds_toArray, List.set_cons_zero, List.set_cons_succ]
                  refine wpAnyH_takeD (i := 46) (v := ?_) (some 163) rfl rfl (by kernel_rfl) (by kernel_rfl) (by kernel_rfl) (fun _ _ _ h => h) (Or.inl ⟨by rfl, ?_⟩) (by assumption) ?_
                  rotate_left
                  · intro w' hSw
                    obtain ⟨q0, q1, _⟩ := HA.out w' hSw
                    go_simp
                    first | done | with_reducible rfl
                  try simp only [Go.Act.put, List.setIfInBounds_toArray, List.set_cons_zero, List.set_cons_succ]
                  refine wpAnyH_ready (rs := [47]) (by kernel_rfl) (by simp) ?_
                  refine AllReadyH.cons rfl (fun K hK => ?_) AllReadyH.nil
                  go_simp
                  refine (CFN.out _ hHeld).mono ?_; rintro e v2 ⟨rfl, rfl⟩
                  refine hK.out _ _ (hHeld) (fun hHeld => ?_)
                  clear hK K
                  try change wpAnyH _ _ _ _ _ _ _ (Go.Act.put _ (some 164) _) _
                  try simp only [Go.Act.put, List.setIfInBounds_toArray, List.set_cons_zero, List.set_cons_succ]
                  refine wpAnyH_takeD (i := 48) (v := ?_) (some 165) rfl rfl (by kernel_rfl) (by kernel_rfl) (by kernel_rfl) (fun _ _ _ h => h) (Or.inl ⟨by rfl, ?_⟩) (by assumption) ?_
                  rotate_left
                  · intro w' hSw
                    go_simp
                    first | done | with_reducible rfl
                  try simp only [Go.Act.put, List.setIfInBounds_toArray, List.set_cons_zero, List.set_cons_succ]
                  refine wpAnyH_takeD (i := 49) (v := ?_) (some 166) rfl rfl (by kernel_rfl) (by kernel_rfl) (by kernel_rfl) (fun _ _ _ h => h) (Or.inl ⟨by rfl, ?_⟩) (by assumption) ?_
                  rotate_left
                  · intro w' hSw
                    go_simp
                    first | done | with_reducible rfl
                  try simp only [Go.Act.put, List.setIfInBounds_toArray, List.set_cons_zero, List.set_cons_succ]
                  refine wpAnyH_done (by kernel_rfl) ?_ _
                  have HH := Lib.hid (HF6.out.trans hHeld (fun _ _ h => h))
                  clear hHeld
                  go_wp2
                  refine ⟨⟨k + 1, by simp, by have := HKF.out; omega, by omega, HH.out⟩, ?_⟩
                  first | omega | (show _ < _; simp [intOf]; omega)
              · obtain rfl : k = pa := by omega
                go_wp2
                refine ⟨⟨i + 1, s9, F9, by simp, by omega, HMP.out.fr0 HFR.out⟩, ?_⟩
                first | omega | (show _ < _; simp [intOf]; omega)
        · obtain rfl : i = n3 := by omega
          go_wp2
          go_ret
          exact ⟨rfl, HMPi.out.fr⟩
    · simp only [hq2] at C3
      refine C3.out.mono ?_; rintro e w3 ⟨rfl, hf3⟩
      have HF3 := Lib.hid ((HF1.out.trans HRWF.out (fun _ _ h => h)).trans hf3 (fun _ _ h => h))
      clear hf3 C3 hq2
      go_wp2
      go_ret
      exact ⟨rfl, HF3.out⟩
  · simp only [hq1] at C1
    refine C1.out.mono ?_; rintro e w1 ⟨rfl, hf1⟩
    have HF1 := Lib.hid (HF.out.trans hf1 (fun _ _ h => h))
    have C2 := Lib.hid (of_any A2 n2 c2 ps2 _ w1 (H2.out.fr0 HF1.out) (by have := HN.out.2.1; omega))
    clear hf1 C1 hq1
    go_wp2_with fail
    refine C2.out.mono ?_; rintro e w2 ⟨A4, c4, rfl, hrw⟩
    have hes2 : Es w1 A2 n2 ps2 (fun k => k < w1.heap.size) := (H2.out.fr0 HF1.out).mono (fun k hk => Nat.lt_of_lt_of_le hk HF1.out.size)
    have HRWF := Lib.hid hrw.fr
    have C3 := Lib.hid (refNew 0 0 A4 n2 c4 ps2 _ w2 (hrw.es hes2) (by have := HN.out.2.1; omega) (by omega))
    unfold NewL at C3
    rw [begins00, Bool.true_and] at C3
    clear hrw hes2 C2
    go_wp2_with fail
    by_cases hq2 : rise 0 (ps2.map EL.e) = true
    · simp only [hq2, if_true] at C3
      refine C3.out.mono ?_; rintro e w3 ⟨gt, FT, rfl, hl3, hf3, hn3, hg3⟩
      have HF3 := Lib.hid ((HF1.out.trans HRWF.out (fun _ _ h => h)).trans hf3 (fun _ _ h => h))
      clear hl3 hf3 hn3 hg3 C3 hq2
      go_wp2
      go_ret
      exact ⟨rfl, HF3.out⟩
    · simp only [hq2] at C3
      refine C3.out.mono ?_; rintro e w3 ⟨rfl, hf3⟩
      have HF3 := Lib.hid ((HF1.out.trans HRWF.out (fun _ _ h => h)).trans hf3 (fun _ _ h => h))
      clear hf3 C3 hq2
      go_wp2
      go_ret
      exact ⟨rfl, HF3.out⟩
end Go.Proofs.Ytklgaffmbojfhaa
