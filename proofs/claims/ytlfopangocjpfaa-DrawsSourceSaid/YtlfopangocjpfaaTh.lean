/- The walk of DrawsTwins. -/
import Derived.Test.YtlfopangocjpfaaTf
import Derived.Test.YtlfopangocjpfaaMemU
import Derived.Deep.RegionWith
namespace Go.Proofs.Ytlfopangocjpfaa
open Go.RowKit Go.Maps

/-- The state behind so many draws. -/
def itN (s : Nat) : Nat → Nat
  | 0 => s
  | k + 1 => stepN (itN s k)
/-- The numbers that are drawn. -/
def seqN (s k : Nat) : List Int := (List.range k).map fun j => ((hashN (itN s (j + 1)) : Nat) : Int)
theorem seqN_succ (s k : Nat) : seqN s (k + 1) = seqN s k ++ [((hashN (itN s (k + 1)) : Nat) : Int)] := by simp [seqN, List.range_succ]
theorem seqN_len (s k : Nat) : (seqN s k).length = k := by simp [seqN]
theorem seqN_get (s k j : Nat) (h : j < k) : (seqN s k)[j]'(by rw [seqN_len]; exact h) = ((hashN (itN s (j + 1)) : Nat) : Int) := by simp [seqN]

set_option maxRecDepth 100000 in
set_option maxHeartbeats 4000000 in
theorem twins_any (seed : Nat) (ahead n : Int) (w : World) :
    Calls Try.prog 6 #[.int .u64 seed, .int .i64 ahead, .int .i64 n] w fun e w' => e = .returned (.bool true) ∧ Fr (fun _ => False) w w' := by
  generalize hB : w.heap.size = B at *
  have HB := Lib.hid hB
  clear hB
  by_cases hno : ahead < 0 ∨ 500 < ahead ∨ n < 0 ∨ 200 < n
  · rcases Int.lt_or_le ahead 0 with h1 | h1
    · go_enter Try.func6, Try.ntmps6
      go_wp2_with fail
      refine (known_any w).mono ?_; rintro e w1 ⟨rfl, hf1⟩
      go_wp2
      go_ret
      exact ⟨rfl, hf1⟩
    · rcases Int.lt_or_le 500 ahead with h2 | h2
      · clear hno
        go_enter Try.func6, Try.ntmps6
        go_wp2_with fail
        refine (known_any w).mono ?_; rintro e w1 ⟨rfl, hf1⟩
        go_wp2
        go_ret
        exact ⟨rfl, hf1⟩
      · rcases Int.lt_or_le n 0 with h3 | h3
        · clear hno
          go_enter Try.func6, Try.ntmps6
          go_wp2_with fail
          refine (known_any w).mono ?_; rintro e w1 ⟨rfl, hf1⟩
          go_wp2
          go_ret
          exact ⟨rfl, hf1⟩
        · have h4 : 200 < n := by omega
          clear hno
          go_enter Try.func6, Try.ntmps6
          go_wp2_with fail
          refine (known_any w).mono ?_; rintro e w1 ⟨rfl, hf1⟩
          go_wp2
          go_ret
          exact ⟨rfl, hf1⟩
  · obtain ⟨A, rfl⟩ : ∃ A : Nat, ahead = A := ⟨ahead.toNat, by omega⟩
    obtain ⟨N, rfl⟩ : ∃ N : Nat, n = N := ⟨n.toNat, by omega⟩
    have hA : A ≤ 500 := by omega
    have hN : N ≤ 200 := by omega
    clear hno
    go_enter Try.func6, Try.ntmps6
    go_wp2_with fail
    refine (known_any w).mono ?_; rintro e w1 ⟨rfl, hf1⟩
    go_wp2_with fail
    refine (new_any seed w1).mono ?_; rintro e w2 ⟨rfl, hw2⟩
    have hs2 : Src w2 w1.heap.size seed 0 := by rw [hw2]; exact src_new w1 seed
    have hf2 : Fr (fun _ => False) w w2 := hf1.trans (by rw [hw2]; exact (Fr.refl _ _).alloc _) (fun _ _ h => h)
    have hgB : B ≤ w1.heap.size := by have := hf1.size; have := HB.out; omega
    clear hw2 hf1
    generalize w1.heap.size = g at *
    have HGB := Lib.hid (fun x (hx : x < w.heap.size) (e : x = g) => show False by have := HB.out; omega)
    clear hgB
    go_wp2_with fail
    go_loopw [8] (fun i wr => ∃ (k : Nat), k ≤ A ∧ i = .int .i64 k ∧ Src wr g (itN seed k) k ∧ Fr (fun _ => False) w wr) (fun i _ => A - (intOf i).toNat)
    case atStart => exact ⟨0, by omega, rfl, hs2, hf2⟩
    case round =>
      clear hs2 hf2
      obtain ⟨k, hk, rfl, hs, hf⟩ := hrel
      have HS := Lib.hid hs
      have HF := Lib.hid hf
      clear hs hf
      by_cases hlt : k < A
      · go_wp2_with fail
        refine (next_any g _ k wr HS.out (by omega)).mono ?_; rintro e w3 ⟨rfl, hs3, hf3⟩
        have HS3 := Lib.hid hs3
        have HF3 := Lib.hid (HF.out.trans hf3 (fun x hx e => HGB.out x hx e))
        clear hs3 hf3 HS HF
        generalize hashN (stepN (itN seed k)) = hv at *
        go_wp2
        go_roundw
        case rel => exact ⟨k + 1, by omega, by go_num, HS3.out, HF3.out⟩
        case measure => simp [intOf]; omega
      · obtain rfl : k = A := by omega
        have hglt := HS.out.lt
        go_wp2_with fail
        refine (twin_any g _ k wr HS.out).mono ?_; rintro e w3 ⟨rfl, ht3, hf3⟩
        have HS3 := Lib.hid (HS.out.fr hf3 (fun h => h))
        have HF3 := Lib.hid (HF.out.trans hf3 (fun _ _ h => h))
        have HT3 := Lib.hid ht3
        have hne : g ≠ wr.heap.size := by omega
        have hbB : w.heap.size ≤ wr.heap.size := HF.out.size
        clear hf3 ht3 HS HF hglt
        generalize wr.heap.size = gb at *
        have HNE := Lib.hid hne
        have HGC := Lib.hid (fun x (hx : x < w.heap.size) (e : x = gb) => show False by omega)
        clear hne hbB
        generalize itN seed k = s1 at *
        go_wp2_with fail
        refine (count_any gb s1 k w3 HT3.out).mono ?_; rintro e _ ⟨rfl, rfl⟩
        go_wp2_with fail
        refine (count_any g s1 k w3 HS3.out).mono ?_; rintro e _ ⟨rfl, rfl⟩
        have hkk : ((k : Int) == (k : Int)) = true := by simp
        go_wp2_with fail
        clear hkk
        go_loopw [10, 11] (fun u i wr => ∃ (j : Nat) (v : Value), j ≤ N ∧ i = .int .i64 j ∧ u = v ∧ OwnU wr v (seqN s1 j) ∧ Src wr g (itN s1 j) (k + j) ∧ Src wr gb s1 k ∧ Fresh w wr v) (fun _ i _ => N - (intOf i).toNat)
        case atStart => exact ⟨0, _, by omega, rfl, rfl, OwnU.nil _, HS3.out, HT3.out, Fresh.nil _ _ HF3.out⟩
        case round =>
          clear HS3 HF3 HT3
          obtain ⟨j, v, hj, rfl, rfl, hrow, hs, htw, hfr⟩ := hrel
          have HS := Lib.hid hs
          have HT := Lib.hid htw
          have HFR := Lib.hid hfr
          have HROW := Lib.hid hrow
          clear hs htw hfr hrow
          by_cases hlt2 : j < N
          · go_wp2_with fail
            refine (next_any g _ (k + j) wr HS.out (by omega)).mono ?_; rintro e w4 ⟨rfl, hs4, hf4⟩
            have hno : u10.ownBlock ≠ some g := HROW.out.ne HS.out (by decide)
            have hne := HNE.out
            have hrow4 := HROW.out.fr hf4 (fun x hx e => hno (by rw [hx, e]))
            have hT4 := HT.out.fr hf4 (fun e => hne e.symm)
            have hfr4 : Fresh w w4 u10 := ⟨HFR.out.1.trans hf4 (fun x hx e => HGB.out x hx e), HFR.out.2⟩
            have hno2 : u10.ownBlock ≠ some gb := hrow4.ne hT4 (by decide)
            have HX := Lib.hid (And.intro hs4 (And.intro hT4 (And.intro hfr4 (And.intro hno hno2))))
            have hsq := seqN_succ s1 j
            have HSQ := Lib.hid hsq
            have hll := seqN_len s1 j
            clear hs4 hf4 hT4 hfr4 hsq HS HT HFR HROW hno hno2 hne
            change OwnU w4 u10 (seqN s1 j) at hrow4
            generalize hev : hashN (stepN (itN s1 j)) = hv at *
            have HEV := Lib.hid (show hashN (itN s1 (j + 1)) = hv from hev)
            clear hev
            go_wp2_with (at_builtin; refine wpList_appendU _ rfl (.tmp 56) (.tmp 59) rfl u10 (seqN s1 j) rfl hv hrow4 rfl (by omega) ?_; intro g5 c5 w5 ho5 hf5 hm5)
            go_roundw
            case rel =>
              obtain ⟨hs4, hT4, hfr4, hno, hno2⟩ := HX.out
              refine ⟨j + 1, _, by omega, by go_num, rfl, ?_, hs4.fr hf5 hno, hT4.fr hf5 hno2, hfr4.step hf5 hm5⟩
              rw [HSQ.out, HEV.out]
              rw [hll] at ho5
              exact ho5
            case measure => simp [intOf]; omega
          · obtain rfl : j = N := by omega
            go_wp2_with fail
            refine (next_any g _ (k + j) wr HS.out (by omega)).mono ?_; rintro e w4 ⟨rfl, hs4, hf4⟩
            have hno : u10.ownBlock ≠ some g := HROW.out.ne HS.out (by decide)
            have hne := HNE.out
            have hrow4 := HROW.out.fr hf4 (fun x hx e => hno (by rw [hx, e]))
            have hT4 := HT.out.fr hf4 (fun e => hne e.symm)
            have hF4 : Fr (fun _ => False) w w4 := HFR.out.1.trans hf4 (fun x hx e => HGB.out x hx e)
            have hno2 : u10.ownBlock ≠ some gb := hrow4.ne hT4 (by decide)
            have HX := Lib.hid (And.intro hs4 (And.intro hF4 (And.intro hrow4 hno2)))
            generalize hashN (stepN (itN s1 j)) = hv at *
            clear hs4 hf4 hF4 hrow4 HS HT HFR HROW hno hno2 hne
            go_wp2_with fail
            go_loopw [12] (fun i wr => ∃ (m : Nat), m ≤ j ∧ i = .int .i64 m ∧ Src wr gb (itN s1 m) (k + m) ∧ Fr (fun x => x = gb) w4 wr) (fun i _ => j - (intOf i).toNat)
            case atStart => exact ⟨0, by omega, rfl, hT4, Fr.refl _ _⟩
            case round =>
              clear hT4
              obtain ⟨m, hm, rfl, hs, hf⟩ := hrel
              have HS := Lib.hid hs
              have HF := Lib.hid hf
              clear hs hf
              by_cases hlt3 : m < j
              · obtain ⟨_, _, hrow0, hno2⟩ := HX.out
                have hrow := hrow0.fr HF.out (fun x hx e => hno2 (by rw [hx, e]))
                have hll := seqN_len s1 j
                have hget := seqN_get s1 j m hlt3
                rcases hrow.form with ⟨_, h0⟩ | ⟨d, cap, cur, rfl, _, _, _, _⟩
                · rw [h0] at hll; simp at hll; omega
                have hcell := hrow.cell m (by omega)
                rw [hget] at hcell
                unfold UV at hcell
                rw [hll] at *
                have hdb : d ≠ gb := fun e => hno2 (by rw [← e]; rfl)
                have C := Lib.hid (fun w' h => next_any gb (itN s1 m) (k + m) w' h (by omega))
                generalize hev : hashN (stepN (itN s1 m)) = hv at *
                have hev' : hashN (itN s1 (m + 1)) = hv := hev
                rw [hev'] at hcell
                clear hrow hrow0 hno2 hll hget hev hev'
                have hltz : (m : Int) < j := by omega
                have hbz : (j : Int) ≤ 200 := by omega
                go_wp2_with fail
                go_region_with (go_at_call 10; refine (C.out wr.drew HS.out).mono ?_; rintro e w5 ⟨rfl, hs5, hf5⟩; have hcell5 := (hf5.cell (p := ⟨d, m, none⟩) (World.block_lt_of_cell? wr _ hcell) hdb).trans hcell)
                all_goals
                  have HS5 := Lib.hid hs5
                  have HF5 := Lib.hid (HF.out.drew.trans hf5 (fun _ _ h => h))
                  clear hs5 hf5 hcell5 hcell
                  go_wp2
                  go_roundw
                  case rel => exact ⟨m + 1, by omega, by go_num, HS5.out, HF5.out⟩
                  case measure => simp [intOf]; omega
              · obtain rfl : m = j := by omega
                have HG := Lib.hid (show Src wr g (stepN (itN s1 m)) (k + m + 1) from HX.out.1.fr HF.out (fun e => HNE.out e))
                have b1 : (k : Int) + m + 1 ≤ 1000 := by omega
                have C1 := Lib.hid (count_any g _ (k + m + 1) wr HG.out)
                have C2 := Lib.hid (count_any gb _ (k + m) wr HS.out)
                simp only [Int.natCast_add, Int.natCast_one] at C1 C2
                go_wp2_with fail
                refine C1.out.mono ?_; rintro e _ ⟨rfl, rfl⟩
                go_wp2_with fail
                refine C2.out.mono ?_; rintro e _ ⟨rfl, rfl⟩
                go_wp2
                go_ret
                exact ⟨rfl, HX.out.2.1.trans HF.out (fun x hx e => HGC.out x hx e)⟩
end Go.Proofs.Ytlfopangocjpfaa
