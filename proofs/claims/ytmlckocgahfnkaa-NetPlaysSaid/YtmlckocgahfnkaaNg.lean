/- The net's pastLike. -/
import Derived.Test.YtmlckocgahfnkaaNf
namespace Go.Proofs.Ytmlckocgahfnkaa
open Go.RowKit

set_option maxRecDepth 100000 in
set_option maxHeartbeats 4000000 in
theorem past_any (g i : Nat) (s : NS) (m : NL) (w : World) (h : NetM w g s m) (hi : i < s.l.length) (hq : s.l.length ≤ 1048576) :
    Calls Try.prog 38 #[.pointer (some ⟨g, 0, none⟩), .int .i64 (i : Int)] w fun e w' => e = .returned (.int .i64 (s.past i : Int)) ∧ Fr (fun _ => False) w w' := by
  obtain ⟨A, c, hLV, hlc, hcm, hA⟩ := h.row.form
  have hll := h.ll
  obtain ⟨mb, LV, ps⟩ := m
  simp only at *
  subst hLV
  obtain ⟨b, off, rfl⟩ := hA (by omega)
  have H := Lib.hid h
  have HLL := Lib.hid hll
  clear h hll hA hcm hlc
  obtain ⟨n, hn⟩ : ∃ n, ps.length = n := ⟨_, rfl⟩
  have hnb : (n : Int) ≤ 1048576 := by have := HLL.out; omega
  have hin : (i : Int) < n := by have := HLL.out; omega
  have HN := Lib.hid hn
  obtain ⟨X, hX⟩ : ∃ X, s.past i = X := ⟨_, rfl⟩
  have HX := Lib.hid hX
  rw [hX]
  have HC := Lib.hid (fun w' (hf : Fr (fun _ => False) w w') => show w'.cell? ⟨g, 3, none⟩ = some (.slice (some ⟨b, off, none⟩) n c) from by rw [← hn]; exact (H.out.fr0 hf).cells rfl)
  have HE := Lib.hid (fun w' (hf : Fr (fun _ => False) w w') (k : Nat) (hk : k < n) => show w'.cell? ⟨b, off + k * 4 + 2, none⟩ = some (.int .i64 ((s.l.getD k default).n : Int)) from by
    have hk' : k < ps.length := by rw [hn]; exact hk
    have h1 := ((H.out.fr0 hf).at4 hk').2.2.1
    rw [h1, ← H.out.pk hk'])
  have hi0 : (0 : Int) ≤ (i : Int) := by omega
  clear hn hX hi
  go_enter Try.func38, Try.ntmps38
  go_wp2_with fail
  go_loopw [5] (fun u wr => ∃ k : Nat, u = .int .i64 (k : Int) ∧ k ≤ n ∧ X = runOf s.l (s.l.getD i default).n s.l.length k ∧ Fr (fun _ => False) w wr) (fun u _ => n - (intOf u).toNat)
  case atStart => exact ⟨i + 1, by simp, by omega, HX.out.symm, Fr.refl _ _⟩
  case round =>
    obtain ⟨k, rfl, hk, hX, hf⟩ := hrel
    have HX' := Lib.hid hX
    have HF := Lib.hid hf
    have c3 := HC.out wr hf
    have hk0 : (0 : Int) ≤ (k : Int) := by omega
    clear hX hf
    by_cases hlt : k < n
    · have hlt' : (k : Int) < n := by omega
      have e1 := HE.out wr HF.out k hlt
      have e2 := HE.out wr HF.out i (by omega)
      by_cases hq2 : (s.l.getD k default).n = (s.l.getD i default).n
      · have d : ((((s.l.getD k default).n : Nat) : Int) == (((s.l.getD i default).n : Nat) : Int)) = true := by rw [beq_iff_eq]; omega
        have HXX := Lib.hid (HX'.out.trans (show runOf s.l (s.l.getD i default).n s.l.length k = runOf s.l (s.l.getD i default).n s.l.length (k + 1) by
          rw [runOf_fuel s.l.length (s.l.length + 1) k (by omega) (by omega), runOf_yes (by have := HN.out; have := HLL.out; omega) hq2]))
        clear hq2
        generalize (((s.l.getD k default).n : Nat) : Int) = x at *
        generalize (((s.l.getD i default).n : Nat) : Int) = y at *
        go_wp2_with fail
        go_quiet (fail)
        go_wp2
        refine ⟨⟨k + 1, by simp, by omega, HXX.out, HF.out.drewN _⟩, ?_⟩
        first | omega | (show _ < _; simp [intOf]; omega)
      · have d : ((((s.l.getD k default).n : Nat) : Int) == (((s.l.getD i default).n : Nat) : Int)) = false := by rw [beq_eq_false_iff_ne]; omega
        have HXX := Lib.hid (HX'.out.trans (runOf_no (l := s.l) (n := (s.l.getD i default).n) (f := s.l.length) (k := k) (fun h => hq2 h.2)))
        clear hq2
        generalize (((s.l.getD k default).n : Nat) : Int) = x at *
        generalize (((s.l.getD i default).n : Nat) : Int) = y at *
        go_wp2_with fail
        go_quiet (fail)
        go_wp2
        go_ret
        exact ⟨by rw [HXX.out]; rfl, HF.out.drewN _⟩
    · obtain rfl : k = n := by omega
      have HXX := Lib.hid (HX'.out.trans (runOf_no (l := s.l) (n := (s.l.getD i default).n) (f := s.l.length) (k := k) (fun h => by have h1 := HN.out; have h2 := HLL.out; omega)))
      go_wp2_with fail
      go_quiet (fail)
      go_wp2
      go_ret
      exact ⟨by rw [HXX.out]; rfl, HF.out.drewN _⟩
end Go.Proofs.Ytmlckocgahfnkaa
