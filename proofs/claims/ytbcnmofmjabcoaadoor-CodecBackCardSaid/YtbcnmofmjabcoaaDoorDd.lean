/- The law on items and back, its walk. -/
import Derived.Test.YtbcnmofmjabcoaaDoorDc
namespace Go.Proofs.YtbcnmofmjabcoaaDoor
open Go.RowKit

theorem itsEnc_take (l : List It) (k : Nat) (h : k < l.length) : itsEnc (l.take (k + 1)) = itsEnc (l.take k) ++ itEnc l[k] := by
  unfold itsEnc
  rw [List.take_succ_eq_append_getElem h, List.flatMap_append]
  simp
theorem itsEnc_le (l : List It) (w : World) (g o : Nat) (hx : ∀ i (h : i < l.length), ItAt w g (o + i * 3) l[i]) : ∀ k, k ≤ l.length → (itsEnc (l.take k)).length ≤ sizeOf' (l.take k)
  | 0, _ => by simp [itsEnc]
  | k + 1, h => by
    have h1 := itsEnc_le l w g o hx k (by omega)
    have h2 := hx k (by omega)
    have h3 := itEnc_le l[k] h2.lo h2.hi h2.len
    rw [sizeOf'_take l k (by omega), itsEnc_take l k (by omega), List.length_append]
    omega
theorem sizeOf'_mono (l : List It) (k : Nat) : sizeOf' (l.take k) ≤ sizeOf' l := by
  conv => rhs; rw [← List.take_append_drop k l]
  unfold sizeOf'
  rw [List.map_append, List.sum_append]
  omega
theorem size_mem (l : List It) (k : Nat) (h : k < l.length) : l[k].bs.length + 10 ≤ sizeOf' l := by
  have := sizeOf'_take l k h
  have := sizeOf'_mono l (k + 1)
  omega
theorem its_fits {w : World} {A : Option Addr} {l : List It} (h : Its w A l) (hs : sizeOf' l ≤ 8192) : ∀ x ∈ l, Fits x := by
  intro x hx
  obtain ⟨i, hi, rfl⟩ := List.getElem_of_mem hx
  obtain ⟨g, o, _, hat⟩ := h (by omega)
  have h1 := hat i hi
  have h2 := size_mem l i hi
  exact ⟨h1.lo, h1.hi, by omega⟩

set_option maxRecDepth 100000 in
set_option maxHeartbeats 4000000 in
theorem back_any (A : Option Addr) (n c : Nat) (cut : Int) (l : List It) (w : World) (ht : Tab w) (hE : ErrT w) (h : Its w A l) (hn : l.length = n) (hb : (n : Int) ≤ 140737488355328) (hcut0 : -9223372036854775808 ≤ cut) (hcut1 : cut ≤ 9223372036854775807) :
    Calls Tryd.prog 7 #[.slice A n c, .int .i64 cut] w fun e w' => e = .returned (.bool true) ∧ Fr (fun _ => False) w w' := by
  have hEl := hE.lt
  generalize hB : w.heap.size = B at *
  have HB := Lib.hid hB
  clear hB
  have fin : ∀ {w'}, Nb B w w' → Fr (fun _ => False) w w' := fun hF => hF.mono (fun x hx h => by have h1 : B ≤ x := h; have h2 := HB.out; omega)
  have FIN := @Lib.hid _ @fin
  clear fin
  go_enter Tryd.func7, Tryd.ntmps7
  go_wp2_with fail
  refine (known_any _ ht hE).mono ?_; rintro e w1 ⟨rfl, hf1⟩
  have hF1 : Nb B w w1 := hf1.nb0 B
  have hs1 : B ≤ w1.heap.size := by have := hf1.size; have := HB.out; omega
  go_wp2_with fail
  refine (few_any A n c l w1 (h.fr hf1 (fun _ _ h => h)) hn hb).mono ?_; rintro e _ ⟨b, rfl, rfl, hfew⟩
  have HFEW := Lib.hid hfew
  clear hfew
  cases b with
  | false =>
    go_wp2
    go_ret
    exact ⟨rfl, hf1⟩
  | true =>
    by_cases h300 : (300 : Int) < n
    · go_wp2
      go_ret
      exact ⟨rfl, hf1⟩
    · have hsz : sizeOf' l ≤ 8192 := of_decide_eq_true (HFEW.out (by omega)).symm
      clear hf1
      go_wp2_with fail
      refine (newWriter_any w1).mono ?_; rintro e w2 ⟨rfl, rfl⟩
      have hwr0 : Wr (w1.alloc (.cells #[.slice none 0 0] 81)) w1.heap.size (.slice none 0 0) [] := ⟨Bk.new _ _ _, Own8.nil _ _⟩
      have hF2 : Nb B w (w1.alloc (.cells #[.slice none 0 0] 81)) := hF1.alloc _
      have hs2 : B ≤ (w1.alloc (.cells #[.slice none 0 0] 81)).heap.size := by simp; omega
      generalize w1.alloc (.cells #[.slice none 0 0] 81) = w2 at *
      generalize w1.heap.size = gw at *
      go_wp2_with fail
      go_loopw [6] (fun i wr => ∃ (k : Nat) (v : Value), (k : Int) ≤ n ∧ i = .int .i64 k ∧ Wr wr gw v (itsEnc (l.take k)) ∧ From B v ∧ Nb B w wr ∧ B ≤ wr.heap.size) (fun i _ => n - (intOf i).toNat)
      case atStart => exact ⟨0, _, by omega, rfl, hwr0, From.nil _ _ _, hF2, hs2⟩
      case round =>
        obtain ⟨k, v, hk, rfl, hwr, hfrom, hFk, hsk⟩ := hrel
        by_cases hlt : (k : Int) < n
        · obtain ⟨g2, o2, rfl, hx⟩ := h (by omega)
          have hle := itsEnc_le l w g2 o2 hx k (by omega)
          have hmono := sizeOf'_mono l k
          have hmem := size_mem l k (by omega)
          have hlb : (itsEnc (l.take k)).length ≤ 8192 := by omega
          have hdl0 := (hx k (by omega)).lt
          have hi := (hx k (by omega)).fr hFk (fun x hx' e => by have := HB.out; have e' : B ≤ x := e; omega)
          have hgi := Lib.hid (itsEnc_take l k (by omega))
          generalize (l[k]'(by omega)) = it at *
          obtain ⟨isB, num, ad, cp, bs⟩ := it
          have d0 := hi.c0
          have d1 := hi.c1
          have d2 := hi.c2
          have dr := hi.rd
          have dlo := hi.lo
          have dhi := hi.hi
          simp only at d0 d1 d2 dr dlo dhi hdl0 hmem
          have hap : Apart (fun x => x = gw ∨ v.ownBlock = some x) ad bs.length := fun ad' e h0 hor => by
            have h1 := hdl0 ad' e h0
            have h2 := HB.out
            rcases hor with h3 | h3
            · omega
            · have := hfrom _ h3; omega
          have hbl : bs.length ≤ 8192 := by omega
          clear hx hi hdl0 hle hmono hmem
          cases isB
          · go_wp2_with fail
            refine (wInt_any gw v num (itsEnc (l.take k)) wr dlo dhi hwr (by omega)).mono ?_; rintro e w3 ⟨rfl, v3, hw3⟩
            have hn3 := hw3.nb hs1 hfrom hsk
            go_wp2
            go_roundw
            case rel =>
              refine ⟨k + 1, v3, by omega, by go_num, ?_, hn3.2.1, hFk.add hn3.1, hn3.2.2⟩
              rw [hgi.out]
              simpa [itEnc] using hw3.1
            case measure => simp [intOf]; omega
          · go_wp2_with fail
            refine (wBytes_any gw v (itsEnc (l.take k)) ad bs.length cp bs wr hwr (by omega) dr rfl (by omega) hap).mono ?_; rintro e w3 ⟨rfl, v3, hw3⟩
            have hn3 := hw3.nb hs1 hfrom hsk
            go_wp2
            go_roundw
            case rel =>
              refine ⟨k + 1, v3, by omega, by go_num, ?_, hn3.2.1, hFk.add hn3.1, hn3.2.2⟩
              rw [hgi.out]
              simpa [itEnc, foldN_nat] using hw3.1
            case measure => simp [intOf]; omega
        · have hkn : k = n := by omega
          subst hkn
          rw [List.take_of_length_le (by omega)] at hwr
          have hlb : (itsEnc l).length ≤ 8192 := by
            rcases Nat.eq_zero_or_pos l.length with h0 | h0
            · rw [List.eq_nil_of_length_eq_zero h0]; simp [itsEnc]
            · obtain ⟨g2, o2, _, hx⟩ := h h0
              have := itsEnc_le l w g2 o2 hx l.length (Nat.le_refl _)
              rw [List.take_of_length_le (Nat.le_refl _)] at this
              omega
          go_wp2_with fail
          refine (wDone_any gw v (itsEnc l) wr hwr (by omega)).mono ?_; rintro e w3 ⟨A3, c3, rfl, ho3, hr3⟩
          have hF3 : Nb B w w3 := hFk.add (hr3.1.nb0 B)
          have hfits := its_fits h hsz
          have hyes := Lib.hid (whole_yes l hfits)
          have hno := Lib.hid (whole_no l hfits)
          have hbk : ∀ x, x < w.heap.size → ¬ B ≤ x := fun x hx' e => by have := HB.out; omega
          clear hfits
          go_wp2_with fail
          refine (whole_any A3 A (itsEnc l).length c3 k c (itsEnc l) l w3 (hE.fr hF3 (fun h => by have h' : B ≤ 1 := h; omega)) ho3.rd rfl (by omega) (h.fr hF3 hbk) hn hb).mono ?_
          rw [hyes.out]
          rintro e w4 ⟨rfl, hf4⟩
          have hF4 : Nb B w w4 := hF3.add (hf4.nb0 B)
          have hcap : (itsEnc l).length ≤ c3 := by
            rcases ho3.form with ⟨e, h0⟩ | ⟨g, cap, e, h1, _⟩
            · rw [h0]; exact Nat.zero_le _
            · injection e with _ _ e; rw [e]; exact h1
          have hrd3 := ho3.rd.fr hf4 (fun _ _ _ h => h)
          have hF4' := Lib.hid hF4
          have hE4 := hE.fr hF4 (fun h => by have h' : B ≤ 1 := h; omega)
          have h4 := h.fr hF4 hbk
          clear hyes hF4 hF3 hFk hF2 hF1 hwr hwr0 hr3 hf4 ho3 hE ht h hfrom hsk hs1 hs2 hbk HFEW hsz
          generalize itsEnc l = xs at *
          generalize hm : xs.length = m at *
          by_cases h0 : m = 0
          · subst h0
            go_wp2
            go_ret
            exact ⟨rfl, FIN.out hF4'.out⟩
          · have hm0 : ((m : Int) == 0) = false := by rw [beq_eq_false_iff_ne]; omega
            have t0 := Int.lt_tmod_of_pos cut (show (0 : Int) < m by omega)
            have t1 := Int.tmod_lt_of_pos cut (show (0 : Int) < m by omega)
            have hne : xs ≠ [] := fun e => by rw [e] at hm; simp at hm; omega
            have H4 := Lib.hid (And.intro hE4 h4)
            have HRD := Lib.hid hrd3
            have hfr : ∀ j, Rd8 w4 A3 (xs.take j) := fun j h0 => by
              obtain ⟨ad, e, hsp, _⟩ := HRD.out (by simp at h0; omega)
              subst e
              obtain ⟨b, o, sp⟩ := ad
              cases hsp
              exact (HRD.out.front j) h0
            have HFR := Lib.hid hfr
            clear hrd3 hfr hE4 h4
            by_cases htn : cut.tmod m < 0
            · obtain ⟨j, hj⟩ := Int.eq_ofNat_of_zero_le (show 0 ≤ cut.tmod m + m by omega)
              have hq : cut.tmod m = (j : Int) - m := by omega
              have htn' : (j : Int) - m < 0 := by omega
              have hw : wrap64 ((j : Int) - m + m) = (j : Int) := by unfold wrap64; omega
              have j0 : (0 : Int) ≤ j := by omega
              have j1 : (j : Int) ≤ c3 := by omega
              have hjm : j < m := by omega
              clear hj htn t0 t1
              go_wp2_with fail
              refine (whole_any A3 A j c3 k c (xs.take j) l w4 H4.out.1 (HFR.out j) (by rw [List.length_take]; omega) (by omega) H4.out.2 hn hb).mono ?_
              rw [hno.out j hjm]
              rintro e w5 ⟨rfl, hf5⟩
              go_wp2
              go_ret
              exact ⟨rfl, FIN.out (hF4'.out.add (hf5.nb0 B))⟩
            · obtain ⟨j, hq⟩ := Int.eq_ofNat_of_zero_le (show 0 ≤ cut.tmod m by omega)
              have j0 : ¬ (j : Int) < 0 := by omega
              have j1 : (j : Int) ≤ c3 := by omega
              have hjm : j < m := by omega
              clear htn t0 t1
              go_wp2_with fail
              refine (whole_any A3 A j c3 k c (xs.take j) l w4 H4.out.1 (HFR.out j) (by rw [List.length_take]; omega) (by omega) H4.out.2 hn hb).mono ?_
              rw [hno.out j hjm]
              rintro e w5 ⟨rfl, hf5⟩
              go_wp2
              go_ret
              exact ⟨rfl, FIN.out (hF4'.out.add (hf5.nb0 B))⟩
end Go.Proofs.YtbcnmofmjabcoaaDoor
