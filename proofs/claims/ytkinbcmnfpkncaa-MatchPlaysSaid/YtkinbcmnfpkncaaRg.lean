/- MatchOrder: the walk. -/
import Derived.Test.YtkinbcmnfpkncaaRf
import Derived.Test.YtkinbcmnfpkncaaRm
namespace Go.Proofs.Ytkinbcmnfpkncaa
open Go.RowKit Go.Maps

/-- A slice that reads as ints. -/
def RdI (w : World) (A : Option Addr) (xs : List Int) : Prop :=
  0 < xs.length → ∃ ad, A = some ad ∧ ad.spot = none ∧ ∀ j (h : j < xs.length), w.cell? ⟨ad.block, ad.off + j, none⟩ = some (.int .i64 xs[j])
theorem RdI.fr {S : Nat → Prop} {w w' : World} {A : Option Addr} {xs : List Int} (h : RdI w A xs) (hb : Fr S w w') (hS : ∀ ad, A = some ad → 0 < xs.length → ¬ S ad.block) (hlt : ∀ ad, A = some ad → 0 < xs.length → ad.block < w.heap.size) : RdI w' A xs := fun h0 => by
  obtain ⟨ad, e, hsp, hc⟩ := h h0
  exact ⟨ad, e, hsp, fun j hj => (hb.cell (p := ⟨ad.block, ad.off + j, none⟩) (hlt ad e h0) (hS ad e h0)).trans (hc j hj)⟩
/-- One of them, in a later world. -/
theorem RdI.at {w w' : World} {A : Option Addr} {xs : List Int} (h : RdI w A xs) (hf : Fr (fun _ => False) w w') {i : Nat} (hi : i < xs.length) : ∃ b off, A = some ⟨b, off, none⟩ ∧ w'.cell? ⟨b, off + i, none⟩ = some (.int .i64 (xs.getD i 0)) := by
  obtain ⟨⟨b, off, sp⟩, rfl, hsp, hc⟩ := h (by omega)
  obtain rfl : sp = none := hsp
  refine ⟨b, off, rfl, ?_⟩
  have h1 := hc i hi
  rw [hf.cell (p := ⟨b, off + i, none⟩) (World.block_lt_of_cell? w _ h1) (fun h => h), h1]
  simp [List.getD, hi]
theorem meas_down (m p L : Nat) (h : p < L) : m + L - ((m : Int) + (p : Int) + 1).toNat < m + L - ((m : Int) + (p : Int)).toNat := by omega
/-- The list that the i-th number goes to. -/
def ordF (xs : List Int) (q : Int) (i : Nat) : Int := (xs.getD i 0).tmod q

set_option maxRecDepth 100000 in
set_option maxHeartbeats 8000000 in
theorem order_any (A : Option Addr) (n c : Nat) (xs : List Int) (q : Int) (w : World) (hr : RdI w A xs) (hl : xs.length = n) (hx : ∀ x ∈ xs, I64 x) (hq : I64 q) :
    Calls Try.prog 4 #[.slice A n c, .int .i64 q] w fun e w' => e = .returned (.bool true) ∧ Fr (fun _ => False) w w' := by
  have CK := Lib.hid (known_any w)
  have HR := Lib.hid hr
  have HL := Lib.hid hl
  have HX := Lib.hid hx
  clear hr hl hx hq
  go_enter Try.func4, Try.ntmps4
  go_wp2_with fail
  refine CK.out.mono ?_; rintro e w1 ⟨rfl, hf1⟩
  have HF1 := Lib.hid hf1
  clear hf1 CK
  by_cases h0 : (300 : Int) < (n : Int)
  · have d0 : decide ((300 : Int) < (n : Int)) = true := decide_eq_true h0
    have d0' : decide (300 < n) = true := decide_eq_true (by omega)
    clear h0
    go_wp2
    go_ret
    exact ⟨rfl, HF1.out⟩
  have d0 : decide ((300 : Int) < (n : Int)) = false := decide_eq_false h0
  have d0' : decide (300 < n) = false := decide_eq_false (by omega)
  by_cases h1 : q < 1
  · have d1 : decide (q < 1) = true := decide_eq_true h1
    clear h0 h1
    go_wp2
    go_ret
    exact ⟨rfl, HF1.out⟩
  have d1 : decide (q < 1) = false := decide_eq_false h1
  by_cases h2 : (20 : Int) < q
  · have d2 : decide ((20 : Int) < q) = true := decide_eq_true h2
    clear h0 h1 h2
    go_wp2
    go_ret
    exact ⟨rfl, HF1.out⟩
  have d2 : decide ((20 : Int) < q) = false := decide_eq_false h2
  have HN : Hid (n ≤ 300) := Lib.hid (by omega)
  have HQ : Hid (1 ≤ q ∧ q ≤ 20) := Lib.hid (by omega)
  clear h0 h1 h2
  go_wp2_with fail
  clear d0 d0' d1 d2
  refine (KI.made HF1.out (most := 300) (by omega) (by omega)).mono ?_; rintro e w2 ⟨g, rfl, hk, -⟩
  have HK2 : Hid (KI w w2 g (ordT (ordF xs q) 0)) := Lib.hid hk
  have HF : Hid (∀ i, I64 (ordF xs q i)) := Lib.hid (fun i => by
    have h1 := tmod_in (xs.getD i 0) q HQ.out.1
    have h2 := HQ.out
    unfold ordF; constructor <;> omega)
  clear hk HF1
  go_wp2_with fail
  go_loopw [7] (fun v wr => ∃ i : Nat, v = .int .i64 (i : Int) ∧ i ≤ n ∧ Hid (KI w wr g (ordT (ordF xs q) i))) (fun v _ => n - (intOf v).toNat)
  case atStart => exact ⟨0, rfl, Nat.zero_le _, HK2⟩
  case round =>
    clear HK2
    obtain ⟨i, rfl, hin, HK⟩ := hrel
    by_cases hi : i < n
    · have di : decide ((i : Int) < (n : Int)) = true := decide_eq_true (by omega)
      have di' : decide (i < n) = true := decide_eq_true hi
      have hi0 : (0 : Int) ≤ (i : Int) := by omega
      have hi1 : (i : Int) < (n : Int) := by omega
      have HIN := Lib.hid hi
      obtain ⟨b, off, rfl, hc⟩ := HR.out.at HK.out.old (i := i) (by rw [HL.out]; exact hi)
      have hq0 : ¬ q = 0 := by have := HQ.out; omega
      obtain ⟨y, hy⟩ : ∃ y, xs.getD i 0 = y := ⟨_, rfl⟩
      obtain ⟨z, hz⟩ : ∃ z, ordF xs q i = z := ⟨_, rfl⟩
      have hwr : y.tmod q = z := by
        rw [← hz, ← hy]; rfl
      rw [hy] at hc
      have CP := Lib.hid (HK.out.push (ordT_ok (by have := HN.out; omega)) (by have := HN.out; show i ≤ 1000000; omega) (HF.out i) (i : Int) (ordT_full (by have := HN.out; omega) _))
      rw [ordT_push, hz] at CP
      clear hi hin hy hz
      go_wp2_with fail
      refine CP.out.mono ?_; rintro e w3 ⟨rfl, hk⟩
      have HK3 := Lib.hid hk
      have hwi : IntKind.wrap .i64 ((i : Int) + 1) = (i : Int) + 1 := by have := HN.out; have := HIN.out; simp only [IntKind.wrap_i64]; omega
      clear hk CP HK hc di di'
      go_wp2
      go_roundw
      case rel => exact ⟨i + 1, by first | rfl | (push_cast; rfl) | (go_num; done), HIN.out, HK3⟩
      case measure => (have := HIN.out; simp [intOf]) <;> omega
    · have di : decide ((i : Int) < (n : Int)) = false := decide_eq_false (by omega)
      have di' : decide (i < n) = false := decide_eq_false hi
      obtain rfl : i = n := by omega
      obtain ⟨z, hz⟩ : ∃ z, -q = z := ⟨_, rfl⟩
      have hng : IntKind.wrap .i64 (0 - q) = z := by have := HQ.out; simp only [IntKind.wrap_i64]; omega
      have hng' : IntKind.wrap .i64 (-q) = z := by have := HQ.out; simp only [IntKind.wrap_i64]; omega
      have HP0 : Hid (∃ s, Ord (ordF xs q) i z 0 s ∧ KI w wr g s) := Lib.hid ⟨_, Ord.start HN.out _, HK.out⟩
      have HZ := Lib.hid hz
      clear hz
      clear hi hin HK
      go_wp2_with fail
      go_loopw [8, 9] (fun u v wr => ∃ (k : Int) (m : Nat), v = .int .i64 k ∧ u = .int .i64 (m : Int) ∧ Hid (-q ≤ k ∧ k ≤ q ∧ m = cntP (fun j => decide (ordF xs q j < k)) i) ∧ Hid (∃ s, Ord (ordF xs q) i k 0 s ∧ KI w wr g s)) (fun _ v _ => (q - intOf v).toNat)
      case atStart =>
        refine ⟨z, 0, rfl, rfl, Lib.hid ⟨by have := HZ.out; omega, by have := HZ.out; have := HQ.out; omega, ?_⟩, HP0⟩
        rw [cntP_none]
        intro j _
        have := (tmod_in (xs.getD j 0) q HQ.out.1).1
        have := HZ.out
        exact decide_eq_false (by unfold ordF; omega)
      case round =>
        clear HP0
        obtain ⟨k, m, rfl, rfl, HKM, HS⟩ := hrel
        by_cases hkq : k < q
        · have dk : decide (k < q) = true := decide_eq_true hkq
          have HKQ := Lib.hid hkq
          have hIk : I64 k := by have := HKM.out; have := HQ.out; exact ⟨by omega, by omega⟩
          have HIK := Lib.hid hIk
          have HS1 : Hid (∃ s p, Ord (ordF xs q) i k p s ∧ KI w wr g s ∧ p = 0) := Lib.hid (by obtain ⟨s, h1, h2⟩ := HS.out; exact ⟨s, 0, h1, h2, rfl⟩)
          clear hkq hIk HS
          go_wp2_with fail
          go_loopw [8, 10] (fun u v wr => ∃ (p : Nat) (last : Int), u = .int .i64 ((m + p : Nat) : Int) ∧ v = .int .i64 last ∧ Hid (p ≤ (ordR (ordF xs q) i k).length ∧ -1 ≤ last ∧ (∀ x ∈ (ordR (ordF xs q) i k).drop p, last < (x.1 : Int))) ∧ Hid (∃ s, Ord (ordF xs q) i k p s ∧ KI w wr g s)) (fun u _ _ => m + (ordR (ordF xs q) i k).length - (intOf u).toNat)
          case atStart =>
            refine ⟨0, -1, rfl, rfl, Lib.hid ⟨Nat.zero_le _, Int.le_refl _, fun x _ => by omega⟩, Lib.hid ?_⟩
            obtain ⟨s, p, h1, h2, rfl⟩ := HS1.out
            exact ⟨s, h1, h2⟩
          case round =>
            clear HS1
            obtain ⟨p, last, rfl, rfl, HPL, HS⟩ := hrel
            obtain ⟨s, ho, hk⟩ := HS.out
            have CL := Lib.hid (hk.len HIK.out)
            rw [ho.len] at CL
            by_cases hp : p < (ordR (ordF xs q) i k).length
            · obtain ⟨t, ht, hft, hrow, hgt⟩ := ho.head hp
              have dl : decide (0 < (ordR (ordF xs q) i k).length - p) = true := decide_eq_true (by omega)
              have dl' : decide ((0 : Int) < (((ordR (ordF xs q) i k).length - p : Nat) : Int)) = true := decide_eq_true (by omega)
              have CP := Lib.hid (hk.pop (v := .int .i64 (t : Int)) (b := .bool true) (by rw [ho.ps]; have := HN.out; omega) HIK.out (by rw [hrow]; rfl))
              have hlt : last < (t : Int) := HPL.out.2.2 (t, (t : Int)) (by
                have := ho.at_
                rw [hrow] at this
                rw [← this]; exact List.mem_cons_self ..)
              have dle : decide ((t : Int) ≤ last) = false := decide_eq_false (by omega)
              have ht0 : (0 : Int) ≤ (t : Int) := by omega
              have ht1 : (t : Int) < (i : Int) := by omega
              obtain ⟨b, off, rfl, hc⟩ := HR.out.at hk.old (i := t) (by rw [HL.out]; exact ht)
              have HC : Hid (∀ w', Fr (fun _ => False) w w' → w'.cell? ⟨b, off + t, none⟩ = some (.int .i64 (xs.getD t 0))) := Lib.hid (fun w' hf => by
                obtain ⟨b', off', e, h⟩ := HR.out.at hf (i := t) (by rw [HL.out]; exact ht)
                injection e with e
                injection e with e1 e2
                subst e1 e2
                exact h)
              have hq0 : ¬ q = 0 := by have := HQ.out; omega
              obtain ⟨y, hy⟩ : ∃ y, xs.getD t 0 = y := ⟨_, rfl⟩
              have hwr : y.tmod q = k := by
                rw [← hft, ← hy]; rfl
              rw [hy] at HC
              have hkk : (k != k) = false := by simp
              have HO : Hid (Ord (ordF xs q) i k (p + 1) (s.pop k)) := Lib.hid (ho.pop hp)
              have HGT := Lib.hid hgt
              have HPP := Lib.hid hp
              have HLEN : Hid (m + (ordR (ordF xs q) i k).length ≤ 1000) := Lib.hid (by have h1 := HKM.out.2.2; have h2 := cntP_le (fun j => decide (ordF xs q j < k)) i; have h3 := ordR_len (ordF xs q) i k; have := HN.out; omega)
              clear ho hk hp hrow hgt hft hlt ht hc HS hy
              go_wp2_with fail
              refine CL.out.mono ?_; rintro e w4 ⟨rfl, rfl⟩
              go_wp2_with fail
              refine CP.out.mono ?_; rintro e w5 ⟨rfl, hk5⟩
              have hc := HC.out w5 hk5.old
              have HK5 := Lib.hid hk5
              have hwm : IntKind.wrap .i64 ((m : Int) + (p : Int) + 1) = (m : Int) + (p : Int) + 1 := by have := HLEN.out; have := HPP.out; simp only [IntKind.wrap_i64]; omega
              have hwm' : wrap64 ((m : Int) + (p : Int) + 1) = (m : Int) + (p : Int) + 1 := by have := HLEN.out; have := HPP.out; unfold wrap64; omega
              clear hk5 CL CP dl dl'
              go_wp2
              go_roundw
              case rel => exact ⟨p + 1, (t : Int), by first | rfl | (push_cast; rfl) | (simp only [hwm']; push_cast; congr 1; omega) | (go_num; done), rfl, Lib.hid ⟨HPP.out, by omega, fun x hx => by have := HGT.out x hx; omega⟩, Lib.hid ⟨_, HO.out, HK5.out⟩⟩
              case measure =>
                simp only [intOf, hwm', Int.natCast_add]
                exact meas_down _ _ _ HPP.out
            · have dl : decide (0 < (ordR (ordF xs q) i k).length - p) = false := decide_eq_false (by omega)
              have dl' : decide ((0 : Int) < (((ordR (ordF xs q) i k).length - p : Nat) : Int)) = false := decide_eq_false (by omega)
              have hpe : p = (ordR (ordF xs q) i k).length := by have := HPL.out.1; omega
              have HNX : Hid (∃ s, Ord (ordF xs q) i (k + 1) 0 s ∧ KI w wr g s) := Lib.hid ⟨s, ho.up, hk⟩
              have HM : Hid (m + p = cntP (fun j => decide (ordF xs q j < k + 1)) i) := Lib.hid (by rw [cntP_next, ← HKM.out.2.2, hpe])
              have hwk : IntKind.wrap .i64 (k + 1) = k + 1 := by have := HKM.out; have := HQ.out; simp only [IntKind.wrap_i64]; omega
              clear ho hk hp hpe HS
              go_wp2_with fail
              refine CL.out.mono ?_; rintro e w4 ⟨rfl, rfl⟩
              clear CL
              go_wp2
              go_roundw
              case rel => exact ⟨k + 1, m + p, rfl, rfl, Lib.hid ⟨by have := HKM.out; omega, by have := HKQ.out; omega, HM.out⟩, HNX⟩
              case measure => (have := HKQ.out; simp [intOf]) <;> omega
        · have dk : decide (k < q) = false := decide_eq_false hkq
          have hke : k = q := by have := HKM.out; omega
          have hme : m = i := by
            rw [HKM.out.2.2, hke, cntP_all]
            intro j _
            have := (tmod_in (xs.getD j 0) q HQ.out.1).2
            exact decide_eq_true (by unfold ordF; omega)
          subst hme
          have HFIN : Hid (Fr (fun _ => False) w wr) := Lib.hid (by obtain ⟨s, _, h2⟩ := HS.out; exact h2.old)
          have hmm : ((m : Int) == (m : Int)) = true := by simp
          clear hkq hke HS
          go_wp2
          go_ret
          exact ⟨rfl, HFIN.out⟩
end Go.Proofs.Ytkinbcmnfpkncaa
