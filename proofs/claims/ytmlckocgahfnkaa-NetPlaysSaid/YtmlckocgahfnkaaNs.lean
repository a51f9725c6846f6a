/- The walk of NetAgain. -/
import Derived.Test.YtmlckocgahfnkaaNr
namespace Go.Proofs.Ytmlckocgahfnkaa
open Go.RowKit

/-- So many others wait. -/
def othL : Nat → List Pk
  | 0 => []
  | k + 1 => othL k ++ [⟨1, 0, k, [UInt8.ofNat k]⟩]
def othS (k : Nat) : NS := ⟨2, k, [], othL k⟩
theorem othL_len (k : Nat) : (othL k).length = k := by
  induction k with
  | zero => rfl
  | succ k ih => unfold othL; rw [List.length_append, ih]; rfl
theorem othL_get {k i : Nat} (h : i < k) : (othL k).getD i default = ⟨1, 0, i, [UInt8.ofNat i]⟩ := by
  induction k with
  | zero => omega
  | succ k ih =>
    unfold othL
    by_cases e : i = k
    · subst e
      simp [List.getD, othL_len]
    · have := ih (by omega)
      rw [← this]
      simp [List.getD, List.getElem?_append_left (show i < (othL k).length by rw [othL_len]; omega)]
theorem oth_send (k : Nat) : (othS k).send 1 0 [UInt8.ofNat k] = othS (k + 1) := by
  have he : (othS k).err 1 0 [UInt8.ofNat k] = 0 := rfl
  unfold NS.send
  rw [if_pos he]
  rfl
/-- The others, and the packet so many times. -/
def agS (o : Nat) (bs : List UInt8) (t : Nat) : NS := ⟨2, o + 1, [], othL o ++ List.replicate t ⟨0, 1, o, bs⟩⟩
theorem agS_len (o : Nat) (bs : List UInt8) (t : Nat) : (agS o bs t).l.length = o + t := by
  unfold agS; simp [othL_len]
theorem ag_first (o : Nat) (bs : List UInt8) (hb : bs.length ≤ 100) : (othS o).send 0 1 bs = agS o bs 1 := by
  have he : (othS o).err 0 1 bs = 0 := by
    unfold NS.err
    rw [show ((othS o).is 0 && (othS o).is 1) = true from rfl, if_pos rfl, if_neg (by omega)]
  unfold NS.send
  rw [if_pos he]
  rfl
theorem agS_at {o : Nat} {bs : List UInt8} {t i : Nat} (h : i < t) : (agS o bs t).l.getD (o + i) default = ⟨0, 1, o, bs⟩ := by
  unfold agS
  simp [List.getD, List.getElem?_append_right (show (othL o).length ≤ o + i by rw [othL_len]; omega), othL_len, List.getElem?_replicate, h]
theorem ag_past (o : Nat) (bs : List UInt8) (t : Nat) (h : 0 < t) : (agS o bs t).past o = o + t := by
  unfold NS.past
  have h0 := agS_at (o := o) (bs := bs) h
  rw [Nat.add_zero] at h0
  rw [h0, agS_len]
  have key : ∀ r f d, d + r = t → 1 ≤ d → r ≤ f → runOf (agS o bs t).l o f (o + d) = o + t := by
    intro r
    induction r with
    | zero => intro f d hd _ _; rw [runOf_no (fun h => by have := h.1; rw [agS_len] at this; omega)]; omega
    | succ r ih =>
      intro f d hd h1 hf
      obtain ⟨f, rfl⟩ : ∃ f', f = f' + 1 := ⟨f - 1, by omega⟩
      rw [runOf_yes (by rw [agS_len]; omega) (by rw [agS_at (by omega)])]
      exact ih f (d + 1) (by omega) (by omega) (by omega)
  exact key (t - 1) (o + t) 1 (by omega) (Nat.le_refl _) (by omega)
theorem agS_waits (o : Nat) (bs : List UInt8) (t : Nat) (h : 0 < t) : (agS o bs t).waits (o : Int) = true := NS.waits_yes (by rw [agS_len]; omega)
theorem ag_again (o : Nat) (bs : List UInt8) (t : Nat) (h : 0 < t) : (agS o bs t).againS (o : Int) = agS o bs (t + 1) ∧ (agS o bs t).wR (o : Int) = 0 := by
  refine ⟨?_, if_pos (agS_waits o bs t h)⟩
  unfold NS.againS
  rw [if_pos (agS_waits o bs t h), Int.toNat_natCast]
  unfold NS.again
  rw [ag_past o bs t h]
  have h0 := agS_at (o := o) (bs := bs) h
  rw [Nat.add_zero] at h0
  rw [h0, List.take_of_length_le (by rw [agS_len]; exact Nat.le_refl _), List.drop_of_length_le (by rw [agS_len]; exact Nat.le_refl _)]
  unfold agS
  simp only [List.append_assoc]
  rw [List.replicate_succ']
theorem ag_take (o : Nat) (bs : List UInt8) (t : Nat) : (agS o bs (t + 1)).dropS (o : Int) = agS o bs t ∧ (agS o bs (t + 1)).wR (o : Int) = 0 ∧ (agS o bs (t + 1)).takeK (o : Int) = ⟨0, 1, o, bs⟩ := by
  have hw := agS_waits o bs (t + 1) (by omega)
  refine ⟨?_, if_pos hw, ?_⟩
  · unfold NS.dropS
    rw [if_pos hw, Int.toNat_natCast]
    unfold NS.drop agS
    simp only
    rw [List.eraseIdx_append_of_length_le (by rw [othL_len]; exact Nat.le_refl _), othL_len, Nat.sub_self]
    rfl
  · unfold NS.takeK
    rw [if_pos hw, Int.toNat_natCast]
    have h0 := agS_at (o := o) (bs := bs) (t := t + 1) (i := 0) (by omega)
    rw [Nat.add_zero] at h0
    exact h0
theorem oth_clear (o : Nat) (bs : List UInt8) : ((agS o bs 0).clear 0).l = [] := by
  unfold NS.clear agS
  simp only [List.replicate_zero, List.append_nil]
  induction o with
  | zero => rfl
  | succ o ih =>
    unfold othL
    rw [List.filter_append, ih]
    rfl

theorem again_no (A : Option Addr) (n c : Nat) (t o : Int) (w : World) (h : 100 < n ∨ t < 0 ∨ 50 < t ∨ o < 0 ∨ 50 < o) :
    Calls Try.prog 6 #[.slice A n c, .int .i64 t, .int .i64 o] w fun e w' => e = .returned (.bool true) ∧ Fr (fun _ => False) w w' := by
  have fin : ∀ (d1 d2 d3 d4 d5 : Bool), decide ((100 : Int) < (n : Int)) = d1 → decide (t < 0) = d2 → decide (50 < t) = d3 → decide (o < 0) = d4 → decide (50 < o) = d5 → (d1 || (d2 || (d3 || (d4 || d5)))) = true →
      Calls Try.prog 6 #[.slice A n c, .int .i64 t, .int .i64 o] w fun e w' => e = .returned (.bool true) ∧ Fr (fun _ => False) w w' := by
    intro d1 d2 d3 d4 d5 e1 e2 e3 e4 e5 hd
    clear h
    go_enter Try.func6, Try.ntmps6
    go_wp2_with fail
    refine (known_any w).mono ?_; rintro e w0 ⟨rfl, hf0⟩
    have HF := Lib.hid hf0
    clear hf0
    cases d1 <;> cases d2 <;> cases d3 <;> cases d4 <;> cases d5 <;> simp at hd
    all_goals
      go_wp2
      go_ret
      exact ⟨rfl, HF.out⟩
  refine fin _ _ _ _ _ rfl rfl rfl rfl rfl ?_
  simp only [Bool.or_eq_true, decide_eq_true_eq]
  omega

set_option maxRecDepth 100000 in
set_option maxHeartbeats 8000000 in
theorem again_yes (A : Option Addr) (n c t o : Nat) (bs : List UInt8) (w : World) (hr : Rd8 w A bs) (hn : bs.length = n) (h1 : n ≤ 100) (h2 : t ≤ 50) (h3 : o ≤ 50) :
    Calls Try.prog 6 #[.slice A n c, .int .i64 (t : Int), .int .i64 (o : Int)] w fun e w' => e = .returned (.bool true) ∧ Fr (fun _ => False) w w' := by
  have d1 : decide ((100 : Int) < (n : Int)) = false := by simp; omega
  have d2 : decide ((50 : Int) < (t : Int)) = false := by simp; omega
  have d3 : decide ((50 : Int) < (o : Int)) = false := by simp; omega
  have ht0 : (0 : Int) ≤ (t : Int) := by omega
  have ho0 : (0 : Int) ≤ (o : Int) := by omega
  have ht5 : (t : Int) ≤ 50 := by omega
  have ho5 : (o : Int) ≤ 50 := by omega
  have HR := Lib.hid (fun w' (hf : Fr (fun _ => False) w w') => hr.fr hf (fun _ _ _ h => h))
  have HN := Lib.hid hn
  have HB := Lib.hid (show bs.length ≤ 100 by omega)
  obtain ⟨S, hS⟩ : ∃ S, strOf bs = S := ⟨_, rfl⟩
  have hSS : (S.toList != S.toList) = false := by simp
  have HS := Lib.hid hS
  have SQ := Lib.hid (fun w' (hf : Fr (fun _ => False) w w') => by
    have h := run_str8 Try.t8n Try.underlying5 Try.underlying9 c (hr.fr hf (fun _ _ _ h => h)) hn
    rw [hS] at h; exact h : ∀ w', Fr (fun _ => False) w w' → (convert 33 9 (.slice A n c)).run Try.prog w' = .ok (.string S) w')
  clear hr hn hS
  go_enter Try.func6, Try.ntmps6
  go_wp2_with fail
  refine (known_any w).mono ?_; rintro e w0 ⟨rfl, hf0⟩
  have HF0 := Lib.hid hf0
  clear hf0
  go_wp2_with fail
  refine (RunN.made 2 w0 (by omega) (by omega)).mono ?_; rintro e w1 ⟨g, F, rfl, hh1⟩
  have H1 := Lib.hid (show RunN w w1 g (othS 0) F from ⟨hh1.nt, fun k hk => Nat.le_trans HF0.out.size (hh1.low k hk), HF0.out.trans hh1.fr (fun _ _ h => h)⟩)
  clear hh1 HF0
  go_wp2_with fail
  go_loopw [9] (fun u wr => ∃ (k : Nat) (F : Nat → Prop), u = .int .i64 (k : Int) ∧ k ≤ o ∧ RunN w wr g (othS k) F) (fun u _ => o - (intOf u).toNat)
  case atStart => exact ⟨0, F, rfl, Nat.zero_le _, H1.out⟩
  case round =>
    obtain ⟨k, F, rfl, hk, hR⟩ := hrel
    have HR1 := Lib.hid hR
    have hk0 : (0 : Int) ≤ (k : Int) := by omega
    clear hR H1
    by_cases hlt : k < o
    · have hlt' : (k : Int) < (o : Int) := by omega
      have hk5 : (k : Int) ≤ 50 := by omega
      have R2 := HR1.out.on0 ((Fr.refl _ _).alloc (.cells #[.int .u8 (k : Int)] 5))
      have e8 : ((UInt8.ofNat k).toNat : Int) = (k : Int) := by rw [UInt8.toNat_ofNat']; omega
      have hrd := rd8_one wr (UInt8.ofNat k)
      rw [e8] at hrd
      have C1 := Lib.hid (R2.sendC (by show ((k : Nat) : Int) ≤ _; omega) (by show (othL k).length ≤ _; rw [othL_len]; omega) 1 0 (some ⟨wr.heap.size, 0, none⟩) 1 1 [UInt8.ofNat k] hrd rfl)
      rw [oth_send] at C1
      clear R2 hrd e8
      generalize (othS k).err 1 0 [UInt8.ofNat k] = z1 at *
      go_wp2_with fail
      refine C1.out.mono ?_; rintro e w2 ⟨rfl, F2, R2, _, _⟩
      have H2 := Lib.hid R2
      clear R2 C1
      go_wp2
      refine ⟨⟨k + 1, F2, by simp, by omega, H2.out⟩, ?_⟩
      first | omega | (show _ < _; simp [intOf]; omega)
    · obtain rfl : k = o := by omega
      have C1 := Lib.hid (HR1.out.sendC (by show ((k : Nat) : Int) ≤ _; omega) (by show (othL k).length ≤ _; rw [othL_len]; omega) 0 1 A n c bs (HR.out _ HR1.out.fr) HN.out)
      rw [ag_first k bs HB.out] at C1
      generalize (othS k).err 0 1 bs = z1 at *
      go_wp2_with fail
      refine C1.out.mono ?_; rintro e w2 ⟨rfl, F2, R2, _, _⟩
      have H2 := Lib.hid R2
      clear R2 C1 HR1
      go_wp2_with fail
      go_loopw [10] (fun u wr => ∃ (j : Nat) (F : Nat → Prop), u = .int .i64 (j : Int) ∧ j ≤ t ∧ RunN w wr g (agS k bs (j + 1)) F) (fun u _ => t - (intOf u).toNat)
      case atStart => exact ⟨0, F2, rfl, Nat.zero_le _, H2.out⟩
      case round =>
        obtain ⟨j, F3, rfl, hj, hR⟩ := hrel
        have HR3 := Lib.hid hR
        have hj0 : (0 : Int) ≤ (j : Int) := by omega
        clear hR H2
        by_cases hlt2 : j < t
        · have hlt' : (j : Int) < (t : Int) := by omega
          have C3 := Lib.hid (HR3.out.againC (by rw [agS_len]; omega) (k : Int))
          rw [(ag_again k bs (j + 1) (by omega)).1, (ag_again k bs (j + 1) (by omega)).2] at C3
          go_wp2_with fail
          refine C3.out.mono ?_; rintro e w4 ⟨rfl, F4, R4, _, _⟩
          have H4 := Lib.hid R4
          clear R4 C3
          go_wp2
          refine ⟨⟨j + 1, F4, by simp, by omega, H4.out⟩, ?_⟩
          first | omega | (show _ < _; simp [intOf]; omega)
        · obtain rfl : j = t := by omega
          go_wp2_with fail
          go_loopw [11] (fun u wr => ∃ (i : Nat) (F : Nat → Prop), u = .int .i64 (i : Int) ∧ i ≤ j + 1 ∧ RunN w wr g (agS k bs (j + 1 - i)) F) (fun u _ => j + 1 - (intOf u).toNat)
          case atStart => exact ⟨0, F3, rfl, Nat.zero_le _, HR3.out⟩
          case round =>
            obtain ⟨i, F5, rfl, hi, hR⟩ := hrel
            have HR5 := Lib.hid hR
            have hi0 : (0 : Int) ≤ (i : Int) := by omega
            clear hR HR3
            by_cases hlt3 : i ≤ j
            · have hlt' : (i : Int) ≤ (j : Int) := by omega
              obtain ⟨q, hq⟩ : ∃ q, j + 1 - i = q + 1 := ⟨j - i, by omega⟩
              have hq2 : j + 1 - (i + 1) = q := by omega
              rw [hq] at HR5
              have C5 := Lib.hid (HR5.out.takeC (by rw [agS_len]; omega) (k : Int))
              rw [(ag_take k bs q).1, (ag_take k bs q).2.1, (ag_take k bs q).2.2] at C5
              go_wp2_with fail
              refine C5.out.mono ?_; rintro e w6 ⟨kk, rfl, hkk, ho, _, F6, R6, _, _, _⟩
              obtain ⟨⟨kf, kt, kn, kb⟩, kA, kc⟩ := kk
              simp only [Pk.mk.injEq] at hkk
              obtain ⟨rfl, rfl, rfl, rfl⟩ := hkk
              simp only [KP.sl] at ho ⊢
              have H6 := Lib.hid R6
              have F7 := Lib.hid R6.fr
              have fb : Fr (fun _ => False) w6 (w6.alloc (.cells #[.int .i64 0, .int .i64 1, .int .i64 (kn : Int), .slice kA kb.length kc] 48)) := (Fr.refl _ _).alloc _
              have s1 := run_str8 Try.t8n Try.underlying5 Try.underlying9 kc (ho.fr fb (fun _ _ h => h)).rd rfl
              rw [HS.out] at s1
              have s2 := SQ.out _ (R6.fr.trans fb (fun _ _ h => h))
              have FB := Lib.hid fb
              clear R6 C5 ho fb
              go_wp2
              refine ⟨⟨i + 1, F6, by simp, by omega, by rw [hq2]; exact H6.out.on0 FB.out⟩, ?_⟩
              first | omega | (show _ < _; simp [intOf]; omega)
            · obtain rfl : i = j + 1 := by omega
              rw [Nat.sub_self] at HR5
              have C6 := Lib.hid (HR5.out.nt.wait (by rw [agS_len]; omega))
              have hlI : decide (((j + 1 : Nat) : Int) ≤ (j : Int)) = false := by simp; omega
              have C7 := Lib.hid (fun W (hf : Fr (fun _ => False) wr W) => (HR5.out.on0 hf).clearC (by rw [agS_len]; omega) 0)
              rw [agS_len, oth_clear] at C7
              have HF5 := Lib.hid HR5.out.fr
              go_wp2_with fail
              refine C6.out.mono ?_; rintro e w7 ⟨v, ks, rfl, ht, hks, hf7⟩
              have hl : ks.length = k := by have := congrArg List.length hks; simpa [agS_len] using this
              obtain ⟨Av, cv, rfl, _, _, _⟩ := ht.row.form
              rw [hl]
              have HF7 := Lib.hid hf7
              clear ht hks hf7 hl C6
              go_wp2_with fail
              refine (C7.out _ HF7.out).mono ?_; rintro e w8 ⟨rfl, F8, R8, _, _⟩
              have HF8 := Lib.hid R8.fr
              clear R8 C7
              go_wp2
              go_ret
              exact ⟨by simp, HF8.out⟩
end Go.Proofs.Ytmlckocgahfnkaa
