/- The reference's Get. -/
import Derived.Test.YtainkckcipdknaaQt
namespace Go.Proofs.Ytainkckcipdknaa
open Go.RowKit

theorem win_in {ps : List EL} {lo hi k : Nat} (hk : k < ps.length) (h1 : lo ≤ k) (h2 : k < hi) : (ps.take (min (k + 1) hi)).drop lo = (ps.take (min k hi)).drop lo ++ [ps.getD k default] := by
  rw [Nat.min_eq_left (by omega), Nat.min_eq_left (by omega), take_succ_getD hk, List.drop_append, List.length_take, show lo - min k ps.length = 0 by omega]
  rfl
theorem win_lo {ps : List EL} {lo hi k : Nat} (h1 : k < lo) : (ps.take (min (k + 1) hi)).drop lo = (ps.take (min k hi)).drop lo := by
  rw [List.drop_of_length_le (by rw [List.length_take]; omega), List.drop_of_length_le (by rw [List.length_take]; omega)]
theorem win_hi {ps : List EL} {lo hi k : Nat} (h1 : hi ≤ k) : (ps.take (min (k + 1) hi)).drop lo = (ps.take (min k hi)).drop lo := by
  rw [Nat.min_eq_right (by omega), Nat.min_eq_right (by omega)]
theorem win_len {ps : List EL} {lo hi k : Nat} : ((ps.take (min k hi)).drop lo).length ≤ k := by
  rw [List.length_drop, List.length_take]; omega

set_option maxRecDepth 100000 in
set_option maxHeartbeats 4000000 in
theorem refGet {w : World} {g : Nat} {s : LG} {F : Nat → Prop} (h : Lg 41 68 w g s F) (f p : Int) (f0 : -9223372036854775808 ≤ f) (f1 : f ≤ 9223372036854775807) (p0 : -9223372036854775808 ≤ p) (p1 : p ≤ 9223372036854775807) (hlm : s.l.length ≤ 1099511627776) :
    Calls Try.prog 50 #[.pointer (some ⟨g, 0, none⟩), .int .i64 f, .int .i64 p] w fun e w' => ∃ A c m qs, e = .returned (.slice A m c) ∧ Es w' A m qs (fun k => w.heap.size ≤ k) ∧ qs.map EL.e = s.get f p ∧ Fr (fun _ => False) w w' := by
  obtain ⟨v, ps, h1, h2, h3⟩ := h
  obtain ⟨A, c, rfl, hnc, hcm, hA⟩ := h1.form
  have hi1 := h1.ok.i1
  have HPS := Lib.hid h1.l
  obtain ⟨n, hn⟩ : ∃ n, s.l.length = n := ⟨_, rfl⟩
  have HPL : Hid (ps.length = n) := Lib.hid (by rw [h1.ll, hn])
  have HC : Hid (∀ w', Fr (fun _ => False) w w' → w'.cell? ⟨g, 0, none⟩ = some (.int .i64 (s.ix : Int)) ∧ w'.cell? ⟨g, 2, none⟩ = some (.slice A n c) ∧ Es w' A n ps (EB (.slice A n c) ps)) := Lib.hid (fun w' hf => by
    have h9 := h1.fr0 hf
    have h8 := h9.own.es
    rw [hn] at h8
    exact ⟨h9.c0, by rw [h9.c2, hn], h8⟩)
  obtain ⟨lo, hlo⟩ : ∃ lo, s.lo f = lo := ⟨_, rfl⟩
  obtain ⟨hi, hhi⟩ : ∃ hi, s.lo p = hi := ⟨_, rfl⟩
  have HG : Hid (s.get f p = (s.l.take hi).drop lo) := Lib.hid (by unfold LG.get; rw [hlo, hhi])
  unfold LG.lo at hlo hhi
  have HB : Hid (∀ x, EB (.slice A n c) ps x → x < w.heap.size) := Lib.hid (fun x hx => by have := h1.own.lt (k := x); rw [hn] at this; exact this hx)
  rw [hn] at hi1 hlm
  obtain ⟨ix, hix⟩ : ∃ ix, s.ix = ix := ⟨_, rfl⟩
  rw [hix] at HC hlo hhi hi1
  have hixb : (ix : Int) ≤ 20000000000000 := by omega
  have hnb : (n : Int) ≤ 1099511627776 := by omega
  have HLH := Lib.hid (And.intro hlo hhi)
  clear h1 h2 h3 hA hnc hcm hn hlo hhi hix
  go_enter Try.func50, Try.ntmps50
  go_wp2_with fail
  go_loopw [8, 7] (fun u v wr => ∃ (k m : Nat) (A3 : Option Addr) (c3 : Nat), u = .int .i64 (k : Int) ∧ v = .slice A3 m c3 ∧ k ≤ n ∧ ((ps.take (min k hi)).drop lo).length = m ∧ Rw w wr 68 (.slice A3 m c3) ((ps.take (min k hi)).drop lo)) (fun u _ _ => n - (intOf u).toNat)
  case atStart => exact ⟨0, 0, none, 0, rfl, rfl, Nat.zero_le _, by simp, by simp only [Nat.zero_min, List.take_zero, List.drop_nil]; exact Rw.nil _ _⟩
  case round =>
    obtain ⟨k, m, A3, c3, rfl, rfl, hk, hml, hrw⟩ := hrel
    have hRW := Lib.hid hrw
    have HML := Lib.hid hml
    have hmk : m ≤ k := by rw [← hml]; exact win_len
    clear hrw hml
    have hk0 : (0 : Int) ≤ (k : Int) := by omega
    obtain ⟨c0, c2, hes⟩ := HC.out wr hRW.out.fr
    by_cases hlt : k < n
    · have hlt' : (k : Int) < n := by omega
      obtain ⟨b, off, hAe, e0, e1, _⟩ := hes.at hlt
      subst hAe
      obtain ⟨q, hq⟩ : ∃ q, ps.getD k default = q := ⟨_, rfl⟩
      have HQ := Lib.hid hq
      rw [hq] at e0 e1
      unfold EL.bv at e1
      have hkx : (ix : Int) + 1 + (k : Int) ≤ 40000000000000 := by omega
      clear hq hes
      by_cases hin1 : f ≤ (ix : Int) + 1 + (k : Int)
      · by_cases hin2 : (ix : Int) + 1 + (k : Int) < p
        · have HW : Hid ((ps.take (min (k + 1) hi)).drop lo = (ps.take (min k hi)).drop lo ++ [q]) := Lib.hid (by
            have := HLH.out
            rw [win_in (by rw [HPL.out]; exact hlt) (by omega) (by omega), HQ.out])
          go_wp2_with (at_builtin; (refine wpList_appendR Try.teR rfl (.tmp 34) (.tmp 42) rfl (.slice A3 m c3) m (elc ((ps.take (min k hi)).drop lo)) rfl (by have h9 := (hRW.out.fr0 ((Fr.refl _ wr).alloc (.cells #[.int .i64 q.e.t, .slice q.A q.e.d.length q.c] 68))).row; rw [HML.out] at h9; exact h9) _ 1 [.int .i64 q.e.t, .slice q.A q.e.d.length q.c] rfl (sl_one _ _ _ _) (by intro u hu; simp at hu; rcases hu with rfl | rfl <;> rfl) (by unfold maxLen; omega) (by omega) ?_; intro A4 c4 w4 hr4 hf4 hm4; have HN4 := Lib.hid ((hRW.out.fr0 ((Fr.refl _ wr).alloc (.cells #[.int .i64 q.e.t, .slice q.A q.e.d.length q.c] 68))).put (q := q) rfl hr4 (by rw [HML.out]) hf4 hm4); clear hr4 hf4 hm4))
          refine ⟨⟨k + 1, m + 1, A4, c4, by simp, rfl, by omega, ?_, ?_⟩, ?_⟩
          · rw [HW.out, List.length_append, HML.out]; rfl
          · rw [HW.out]; exact HN4.out
          · first | omega | (show _ < _; simp [intOf]; omega)
        · have hin3 : decide ((ix : Int) + 1 + (k : Int) < p) = false := decide_eq_false hin2
          have HW : Hid ((ps.take (min (k + 1) hi)).drop lo = (ps.take (min k hi)).drop lo) := Lib.hid (by
            have := HLH.out
            exact win_hi (by omega))
          go_wp2
          refine ⟨⟨k + 1, m, A3, c3, by simp, rfl, by omega, by rw [HW.out]; exact HML.out, by rw [HW.out]; exact hRW.out⟩, ?_⟩
          first | omega | (show _ < _; simp [intOf]; omega)
      · have hin3 : decide (f ≤ (ix : Int) + 1 + (k : Int)) = false := decide_eq_false hin1
        have HW : Hid ((ps.take (min (k + 1) hi)).drop lo = (ps.take (min k hi)).drop lo) := Lib.hid (by
          have := HLH.out
          exact win_lo (by omega))
        go_wp2
        refine ⟨⟨k + 1, m, A3, c3, by simp, rfl, by omega, by rw [HW.out]; exact HML.out, by rw [HW.out]; exact hRW.out⟩, ?_⟩
        first | omega | (show _ < _; simp [intOf]; omega)
    · obtain rfl : k = n := by omega
      have hfin : (ps.take (min k hi)).drop lo = (ps.take hi).drop lo := by
        congr 1
        by_cases h : hi ≤ k
        · rw [Nat.min_eq_right h]
        · rw [Nat.min_eq_left (by omega), List.take_of_length_le (by rw [HPL.out]; exact Nat.le_refl _), List.take_of_length_le (by rw [HPL.out]; omega)]
      have hes9 : Es wr A3 m ((ps.take hi).drop lo) (fun x => x < wr.heap.size) := by
        have hw := hRW.out
        rw [hfin] at hw
        have hm9 := HML.out
        rw [hfin] at hm9
        refine ⟨hm9, fun h0 => ?_, fun p hp => ?_⟩
        · obtain ⟨A', c', e, _, _, hA⟩ := hw.row.form
          obtain ⟨b, off, rfl⟩ := hA (by rw [hm9]; exact h0)
          injection e with e1 _ _
          subst e1
          have hrow := hw.row
          exact ⟨b, off, rfl, hrow.lt rfl, fun j u hu => hrow.cell hu⟩
        · have h9 := hes.each p (List.mem_of_mem_take (List.mem_of_mem_drop hp))
          exact ⟨h9.rd, h9.ok, fun ad e h0 => Nat.lt_of_lt_of_le (HB.out _ (h9.inF ad e h0)) hw.fr.size⟩
      have C := Lib.hid (copied_any A3 m c3 _ _ wr hes9 (by omega))
      have HGG : Hid (((ps.take hi).drop lo).map EL.e = s.get f p) := Lib.hid (by rw [HG.out, HPS.out, List.map_drop, List.map_take])
      clear hfin hes9 hes
      go_wp2_with fail
      refine C.out.mono ?_; rintro e w5 ⟨A5, c5, qs5, rfl, ⟨ho5, hf5, hn5⟩, hq5⟩
      have HO5 := Lib.hid ho5
      have HF5 := Lib.hid hf5
      have HN5 := Lib.hid hn5
      have HQ5 := Lib.hid hq5
      clear ho5 hf5 hn5 hq5 C
      go_wp2
      go_ret
      exact ⟨A5, c5, m, qs5, rfl, (HO5.out.es).mono (fun x hx => Nat.le_trans hRW.out.fr.size (HN5.out x hx)), by rw [HQ5.out, HGG.out], hRW.out.fr.trans HF5.out (fun _ _ h => h)⟩
end Go.Proofs.Ytainkckcipdknaa
