/- The reference writes a number, bytes. -/
import Derived.Test.YtblfnbmgijppmaaDoorCp
namespace Go.Proofs.YtblfnbmgijppmaaDoor
open Go.RowKit

/-- A row of bytes that was appended to: what it is now, what was turned. -/
def OwnTo (w : World) (v : Value) (w' : World) (v' : Value) (bs : List UInt8) : Prop := Own8 w' 5 v' bs ∧ Fr (fun k => v.ownBlock = some k) w w' ∧ Moved w v v'
theorem OwnTo.trans {w w1 w2 : World} {v v1 v2 : Value} {bs bs1 : List UInt8} (h : OwnTo w v w1 v1 bs) (k : OwnTo w1 v1 w2 v2 bs1) (hlt : ∀ x, v.ownBlock = some x → x < w.heap.size) : OwnTo w v w2 v2 bs1 :=
  ⟨k.1, h.2.1.trans k.2.1 (fun x hx e => by
    rcases h.2.2 with h1 | ⟨y, h1, hy⟩
    · rw [← h1]; exact e
    · rw [h1] at e; injection e with e; omega), h.2.2.trans k.2.2 h.2.1.size⟩

theorem add_val (n : Nat) : (n : Int) % 128 + 128 = ((UInt8.ofNat (n % 128 + 128)).toNat : Int) := by
  rw [UInt8.toNat_ofNat', Nat.mod_eq_of_lt (by omega)]; omega

set_option maxRecDepth 100000 in
set_option maxHeartbeats 2000000 in
theorem refWInt_any (v : Value) (a : Int) (bs : List UInt8) (w : World) (h0 : -9223372036854775808 ≤ a) (h1 : a ≤ 9223372036854775807) (hw : Own8 w 5 v bs) (hb : bs.length ≤ 70368744177664) :
    Calls Tryd.prog 28 #[v, .int .i64 a] w fun e w' => ∃ v', e = .returned v' ∧ OwnTo w v w' v' (bs ++ enc (foldN a)) := by
  have hlt := foldN_lt a h0 h1
  have he10 := enc_length10 _ hlt
  have hfold : (a < 0 ∧ ((foldN a : Nat) : Int) = 2 * (0 - (a + 1)) + 1) ∨ (0 ≤ a ∧ ((foldN a : Nat) : Int) = 2 * a) := by
    unfold foldN; split <;> omega
  have HB := Lib.hid (show ∀ x, v.ownBlock = some x → x < w.heap.size from fun x hx => hw.lt hx)
  rcases hfold with ⟨ha, hf⟩ | ⟨ha, hf⟩
  · have HF := Lib.hid hf
    have hf0 : (0 : Int) ≤ 2 * (0 - (a + 1)) + 1 := by omega
    clear hf
    go_enter Tryd.func28, Tryd.ntmps28
    go_wp2_with fail
    rw [show 2 * -(a + 1) + 1 = ((foldN a : Nat) : Int) from HF.out.symm ▸ by omega]
    go_loopw [0, 5] (fun b u wr => ∃ (n : Nat) (v' : Value) (done : List UInt8), (n : Int) ≤ 18446744073709551615 ∧ b = v' ∧ u = .int .u64 n ∧ OwnTo w v wr v' (bs ++ done) ∧ done ++ enc n = enc (foldN a)) (fun _ u _ => (intOf u).toNat)
    case atStart => exact ⟨foldN a, v, [], by omega, rfl, rfl, ⟨by simpa using hw, Fr.refl _ _, Moved.refl _ _⟩, rfl⟩
    case round =>
      obtain ⟨n, v', done, hn, rfl, rfl, hto, hdone⟩ := hrel
      clear hlt
      have hlen : (bs ++ done).length ≤ 70368744177680 := by
        have := congrArg List.length hdone
        simp at this ⊢; omega
      have HD := Lib.hid hdone
      clear hdone he10
      have HTO := Lib.hid hto
      have hw' := hto.1
      clear hto hw
      by_cases hlt : n < 128
      · have hlt' : (n : Int) < 128 := by omega
        have sv := Lib.hid (small_val n (by omega))
        go_wp2_with (at_builtin; (refine wpList_append8 _ rfl (.tmp 28) (.tmp 31) Tryd.t8 rfl _ _ rfl _ (UInt8.ofNat n) sv.out hw' rfl (by omega) ?_; intro g1 c1 w1 ho1 hf1 hm1))
        go_ret
        rw [List.append_assoc, List.length_append] at ho1
        rw [List.length_append] at hm1
        exact ⟨_, rfl, by rw [← HD.out, enc_lt n hlt]; exact HTO.out.trans ⟨ho1, hf1, hm1⟩ HB.out⟩
      · have hge : (128 : Int) ≤ n := by omega
        go_wp2_with (at_builtin; (refine wpList_append8 _ rfl (.tmp 19) (.tmp 24) Tryd.t8 rfl _ _ rfl _ (UInt8.ofNat (n % 128 + 128)) (add_val n) hw' rfl (by omega) ?_; intro g1 c1 w1 ho1 hf1 hm1))
        go_roundw
        case rel =>
          rw [List.append_assoc, List.length_append] at ho1
          rw [List.length_append] at hm1
          refine ⟨n / 128, _, _, by omega, rfl, ?_, HTO.out.trans ⟨ho1, hf1, hm1⟩ HB.out, ?_⟩
          · simp
          · rw [← HD.out, enc_ge n (by omega)]; simp
        case measure => simp [intOf]; omega
  · have HF := Lib.hid hf
    clear hf
    go_enter Tryd.func28, Tryd.ntmps28
    go_wp2_with fail
    rw [show 2 * a = ((foldN a : Nat) : Int) from HF.out.symm ▸ by omega]
    go_loopw [0, 5] (fun b u wr => ∃ (n : Nat) (v' : Value) (done : List UInt8), (n : Int) ≤ 18446744073709551615 ∧ b = v' ∧ u = .int .u64 n ∧ OwnTo w v wr v' (bs ++ done) ∧ done ++ enc n = enc (foldN a)) (fun _ u _ => (intOf u).toNat)
    case atStart => exact ⟨foldN a, v, [], by omega, rfl, rfl, ⟨by simpa using hw, Fr.refl _ _, Moved.refl _ _⟩, rfl⟩
    case round =>
      obtain ⟨n, v', done, hn, rfl, rfl, hto, hdone⟩ := hrel
      clear hlt
      have hlen : (bs ++ done).length ≤ 70368744177680 := by
        have := congrArg List.length hdone
        simp at this ⊢; omega
      have HD := Lib.hid hdone
      clear hdone he10
      have HTO := Lib.hid hto
      have hw' := hto.1
      clear hto hw
      by_cases hlt : n < 128
      · have hlt' : (n : Int) < 128 := by omega
        have sv := Lib.hid (small_val n (by omega))
        go_wp2_with (at_builtin; (refine wpList_append8 _ rfl (.tmp 28) (.tmp 31) Tryd.t8 rfl _ _ rfl _ (UInt8.ofNat n) sv.out hw' rfl (by omega) ?_; intro g1 c1 w1 ho1 hf1 hm1))
        go_ret
        rw [List.append_assoc, List.length_append] at ho1
        rw [List.length_append] at hm1
        exact ⟨_, rfl, by rw [← HD.out, enc_lt n hlt]; exact HTO.out.trans ⟨ho1, hf1, hm1⟩ HB.out⟩
      · have hge : (128 : Int) ≤ n := by omega
        go_wp2_with (at_builtin; (refine wpList_append8 _ rfl (.tmp 19) (.tmp 24) Tryd.t8 rfl _ _ rfl _ (UInt8.ofNat (n % 128 + 128)) (add_val n) hw' rfl (by omega) ?_; intro g1 c1 w1 ho1 hf1 hm1))
        go_roundw
        case rel =>
          rw [List.append_assoc, List.length_append] at ho1
          rw [List.length_append] at hm1
          refine ⟨n / 128, _, _, by omega, rfl, ?_, HTO.out.trans ⟨ho1, hf1, hm1⟩ HB.out, ?_⟩
          · simp
          · rw [← HD.out, enc_ge n (by omega)]; simp
        case measure => simp [intOf]; omega

set_option maxRecDepth 100000 in
set_option maxHeartbeats 2000000 in
theorem refWBytes_any (v : Value) (bs : List UInt8) (A : Option Addr) (n c : Nat) (xs : List UInt8) (w : World) (hw : Own8 w 5 v bs) (hb : bs.length ≤ 17592186044416) (hr : Rd8 w A xs) (hn : xs.length = n) (hn2 : n ≤ 17592186044416) (hA : ∀ ad, A = some ad → 0 < n → v.ownBlock ≠ some ad.block) :
    Calls Tryd.prog 29 #[v, .slice A n c] w fun e w' => ∃ v', e = .returned v' ∧ OwnTo w v w' v' (bs ++ (enc (2 * n) ++ xs)) := by
  have hfold : foldN (n : Int) = 2 * n := by unfold foldN; rw [if_pos (by omega)]; omega
  have he10 := enc_length10 (2 * n) (by omega)
  have HB := Lib.hid (show ∀ x, v.ownBlock = some x → x < w.heap.size from fun x hx => hw.lt hx)
  have HN := Lib.hid hn
  have C1 := Lib.hid (refWInt_any v n bs w (by omega) (by omega) hw (by omega))
  rw [hfold] at C1
  clear hfold hn
  go_enter Tryd.func29, Tryd.ntmps29
  go_wp2_with fail
  refine C1.out.mono ?_; rintro e w1 ⟨v1, rfl, h1⟩
  have hr1 : Rd8 w1 A xs := hr.fr h1.2.1 (fun ad ha h0 h => hA ad ha (HN.out ▸ h0) h)
  have hlen : (bs ++ enc (2 * n)).length + xs.length ≤ 140737488355328 := by rw [List.length_append, HN.out]; omega
  have H1 := Lib.hid h1
  have ho1 := h1.1
  clear h1 C1 hr hA he10
  go_wp2_with (at_builtin; (refine wpList_append8s _ rfl (.tmp 8) (.tmp 9) Tryd.t8 rfl v1 _ rfl ho1 A n c xs rfl HN.out hr1 hlen ?_; intro A2 c2 w2 ho2 hf2 hm2))
  go_ret
  refine ⟨_, rfl, ?_⟩
  have := H1.out.trans ⟨ho2, hf2, hm2⟩ HB.out
  rw [List.append_assoc] at this
  simpa [HN.out] using this
end Go.Proofs.YtblfnbmgijppmaaDoor
