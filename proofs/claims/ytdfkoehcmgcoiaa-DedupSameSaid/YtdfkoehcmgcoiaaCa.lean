/- The codec's writer: fold, NewWriter, Int. -/
import Derived.Test.YtdfkoehcmgcoiaaProg
import Derived.Test.YtdfkoehcmgcoiaaMem
namespace Go.Proofs.Ytdfkoehcmgcoiaa
open Go.RowKit

/-- P101's number of an integer. -/
def foldN (a : Int) : Nat := if 0 ≤ a then (2 * a).toNat else (-2 * a - 1).toNat

theorem foldN_lt (a : Int) (h0 : -9223372036854775808 ≤ a) (h1 : a ≤ 9223372036854775807) : foldN a < 18446744073709551616 := by
  unfold foldN; split <;> omega

theorem fold_bits (a : Int) (h0 : -9223372036854775808 ≤ a) (h1 : a ≤ 9223372036854775807) :
    bits BinOp.xor IntKind.u64 (IntKind.u64.wrap (IntKind.u64.wrap a * 2)) (IntKind.u64.wrap (a / 9223372036854775808)) = (foldN a : Int) := by
  simp only [IntKind.wrap_u64]
  unfold foldN
  by_cases h : 0 ≤ a
  · rw [if_pos h, show a / 9223372036854775808 = 0 by omega, show (0 : Int) % 18446744073709551616 = ((0 : Nat) : Int) by omega,
      show a % 18446744073709551616 * 2 % 18446744073709551616 = (((2 * a).toNat : Nat) : Int) by omega, u64_xor_nat _ _ (by omega) (by omega), Nat.xor_zero]
  · rw [if_neg h, show a / 9223372036854775808 = -1 by omega, show (-1 : Int) % 18446744073709551616 = ((18446744073709551615 : Nat) : Int) by omega,
      show a % 18446744073709551616 * 2 % 18446744073709551616 = (((18446744073709551616 + 2 * a).toNat : Nat) : Int) by omega, u64_xor_nat _ _ (by omega) (by omega)]
    have hx : ∀ x : BitVec 64, x ^^^ 18446744073709551615#64 = ~~~x := fun x => by
      rw [show (18446744073709551615#64 : BitVec 64) = BitVec.allOnes 64 from rfl, BitVec.xor_allOnes]
    have := congrArg BitVec.toNat (hx (BitVec.ofNat 64 (18446744073709551616 + 2 * a).toNat))
    rw [BitVec.toNat_xor, BitVec.toNat_not] at this
    simp only [BitVec.toNat_ofNat] at this
    rw [Nat.mod_eq_of_lt (by omega), show 18446744073709551615 % 2 ^ 64 = 18446744073709551615 from rfl] at this
    omega

/-- P101's bytes of a number: seven bits a byte. -/
def enc (u : Nat) : List UInt8 := if u < 128 then [UInt8.ofNat u] else UInt8.ofNat (u % 128 + 128) :: enc (u / 128)
  termination_by u
  decreasing_by omega

theorem enc_lt (u : Nat) (h : u < 128) : enc u = [UInt8.ofNat u] := by rw [enc, if_pos h]
theorem enc_ge (u : Nat) (h : 128 ≤ u) : enc u = UInt8.ofNat (u % 128 + 128) :: enc (u / 128) := by rw [enc, if_neg (by omega)]

theorem enc_length : ∀ (n u : Nat), u < 128 ^ n → (enc u).length ≤ max n 1
  | 0, u, h => by rw [enc_lt u (by simp at h; omega)]; simp
  | n + 1, u, h => by
    by_cases hu : u < 128
    · rw [enc_lt u hu]; simp
    · rw [enc_ge u (by omega), List.length_cons]
      have := enc_length n (u / 128) (by rw [Nat.pow_succ] at h; omega)
      by_cases hn : n = 0
      · subst hn; simp at h; omega
      · omega
theorem enc_length10 (u : Nat) (h : u < 18446744073709551616) : (enc u).length ≤ 10 := by
  have := enc_length 10 u (by omega); omega
theorem enc_pos (u : Nat) : 1 ≤ (enc u).length := by
  by_cases hu : u < 128
  · rw [enc_lt u hu]; simp
  · rw [enc_ge u (by omega)]; simp

theorem B8_ofNat (n : Nat) (h : n < 256) : B8 (UInt8.ofNat n) = .int .u8 (n : Int) := by
  simp [B8, Nat.mod_eq_of_lt h]

/-- A writer at block g, its bytes in v. -/
def Wr (w : World) (g : Nat) (v : Value) (bs : List UInt8) : Prop := Bk w g 77 #[v] ∧ Own8 w 5 v bs
/-- From a writer (v) to that writer later. -/
def WrTo (w : World) (g : Nat) (v : Value) (w' : World) (v' : Value) (bs : List UInt8) : Prop :=
  Wr w' g v' bs ∧ Fr (fun k => k = g ∨ v.ownBlock = some k) w w' ∧ Moved w v v'

theorem WrTo.refl {w : World} {g : Nat} {v : Value} {bs : List UInt8} (h : Wr w g v bs) : WrTo w g v w v bs := ⟨h, Fr.refl _ _, Moved.refl _ _⟩
theorem WrTo.trans {w w1 w2 : World} {g : Nat} {v v1 v2 : Value} {b1 b2 : List UInt8} (h : WrTo w g v w1 v1 b1) (k : WrTo w1 g v1 w2 v2 b2) : WrTo w g v w2 v2 b2 :=
  ⟨k.1, h.2.1.trans k.2.1 (fun x hx e => e.imp id (fun e => h.2.2.old hx e)), h.2.2.trans k.2.2 h.2.1.size⟩

theorem or_val (n : Nat) : bits BinOp.or IntKind.u8 ((n : Int) % 256) 128 = ((UInt8.ofNat (n % 128 + 128)).toNat : Int) := by
  rw [show (n : Int) % 256 = ((n % 256 : Nat) : Int) by omega, show (128 : Int) = ((128 : Nat) : Int) from rfl, u8_or_nat _ _ (by omega) (by omega)]
  have : ∀ x : Fin 256, x.val ||| 128 = x.val % 128 + 128 := by decide +kernel
  have := this ⟨n % 256, by omega⟩
  simp only at this
  rw [this, UInt8.toNat_ofNat_of_lt' (by show _ < 256; omega)]; omega
theorem small_val (n : Nat) (h : n < 256) : (n : Int) = ((UInt8.ofNat n).toNat : Int) := by
  rw [UInt8.toNat_ofNat_of_lt' h]

theorem Try.info5 : (Try.prog.info? 5).map (fun i => (i.zero, i.size, i.bytes)) = some (some (.int .u8 0), 1, 1) := by kernel_rfl

set_option maxHeartbeats 400000 in
theorem fold_any (a : Int) (h0 : -9223372036854775808 ≤ a) (h1 : a ≤ 9223372036854775807) (w : World) :
    Calls Try.prog 37 #[.int .i64 a] w fun e w' => e = .returned (.int .u64 (foldN a)) ∧ w = w' := by
  have hb := fold_bits a h0 h1
  go_enter Try.func37, Try.ntmps37
  go_wp2
  go_ret
  exact ⟨rfl, rfl⟩

set_option maxHeartbeats 400000 in
theorem newWriter_any (w : World) :
    Calls Try.prog 22 #[] w fun e w' => e = .returned (.pointer (some ⟨w.heap.size, 0, none⟩)) ∧ w' = w.alloc (.cells #[.slice none 0 0] 77) := by
  go_enter Try.func22, Try.ntmps22
  go_wp2
  go_ret
  exact ⟨rfl, rfl⟩

theorem Try.t8 : T8 Try.prog 30 5 := by
  obtain ⟨i0, hi, hz0, hz1, hz2⟩ := info_parts Try.info5
  exact ⟨Try.underlying30, i0, hi, hz0, hz1, hz2⟩

/-- The store of the grown row into the writer's field. -/
theorem wr_step {w w1 : World} {g : Nat} {v v1 : Value} {bs bs1 : List UInt8} (hw : Wr w g v bs) (ho : Own8 w1 5 v1 bs1) (hf : Fr (fun k => v.ownBlock = some k) w w1) (hat : Moved w v v1) :
    WrTo w g v (w1.setCell ⟨g, 0, none⟩ v1) v1 bs1 := by
  have hne := hw.2.ne hw.1 (by decide)
  have hbk : Bk w1 g 77 #[v] := hw.1.fr hf hne
  have hne1 : v1.ownBlock ≠ some g := ho.ne hbk (by decide)
  refine ⟨⟨by simpa using hbk.set 0 v1, ?_⟩, ?_, hat⟩
  · exact ho.fr (S := fun k => k = g) (Fr.setCell (S := fun k => k = g) (p := ⟨g, 0, none⟩) (Fr.refl _ _) (fun _ => rfl) _) (fun k hk e => hne1 (by rw [hk, e]))
  · exact (hf.mono (fun _ _ h => .inr h)).setCell (fun _ => .inl rfl) _
/-- The writer's own cell behind the append. -/
theorem wr_cell {w w1 : World} {g : Nat} {v : Value} {bs : List UInt8} (hw : Wr w g v bs) (hf : Fr (fun k => v.ownBlock = some k) w w1) :
    w1.cell? ⟨g, 0, none⟩ = some v ∧ w1.frozen? ⟨g, 0, none⟩ = false :=
  have hb : Bk w1 g 77 #[v] := hw.1.fr hf (hw.2.ne hw.1 (by decide))
  ⟨hb.cell 0, hb.frozen 0⟩

set_option maxRecDepth 100000 in
set_option maxHeartbeats 1000000 in
theorem wInt_any (g : Nat) (v : Value) (a : Int) (bs : List UInt8) (w : World) (h0 : -9223372036854775808 ≤ a) (h1 : a ≤ 9223372036854775807) (hw : Wr w g v bs) (hb : bs.length ≤ 70368744177664) :
    Calls Try.prog 24 #[.pointer (some ⟨g, 0, none⟩), .int .i64 a] w fun e w' => e = .returned (.pointer (some ⟨g, 0, none⟩)) ∧ ∃ v', WrTo w g v w' v' (bs ++ enc (foldN a)) := by
  go_enter Try.func24, Try.ntmps24
  go_wp2_with (go_at_call 37; refine (fold_any _ h0 h1 _).mono ?_; rintro e w' ⟨rfl, rfl⟩)
  have hlt := foldN_lt a h0 h1
  have he10 := enc_length10 _ hlt
  go_loopw [5] (fun u wr => ∃ (n : Nat) (v' : Value) (done : List UInt8), (n : Int) ≤ 18446744073709551615 ∧ u = .int .u64 n ∧ WrTo w g v wr v' (bs ++ done) ∧ done ++ enc n = enc (foldN a)) (fun u _ => (intOf u).toNat)
  case atStart => exact ⟨foldN a, v, [], by omega, rfl, by simpa using WrTo.refl hw, rfl⟩
  case round =>
    obtain ⟨n, v', done, hn, rfl, hto, hdone⟩ := hrel
    clear hlt
    have hlen : (bs ++ done).length ≤ 70368744177680 := by
      have := congrArg List.length hdone
      simp at this ⊢; omega
    have HD := Lib.hid hdone
    clear hdone he10
    have hcell : wr.cell? ⟨g, 0, none⟩ = some v' := hto.1.1.cell 0
    have hfro : wr.frozen? ⟨g, 0, none⟩ = false := hto.1.1.frozen 0
    have hw' := hto.1
    by_cases hlt : n < 128
    · go_wp2_with (at_builtin; (refine wpList_append8 _ rfl (.tmp 28) (.tmp 31) Try.t8 rfl v' _ rfl _ (UInt8.ofNat n) (small_val n (by omega)) hw'.2 rfl (by omega) ?_; clear hcell hfro; intro g1 c1 w1 ho1 hf1 hm1; obtain ⟨hcell, hfro⟩ := wr_cell hw' hf1))
      go_ret
      have h2 := wr_step hw' ho1 hf1 hm1
      rw [List.append_assoc, List.length_append] at h2
      refine ⟨rfl, _, hto.trans (by rw [← HD.out, enc_lt n hlt]; exact h2)⟩
    · go_wp2_with (at_builtin; (refine wpList_append8 _ rfl (.tmp 14) (.tmp 18) Try.t8 rfl v' _ rfl _ (UInt8.ofNat (n % 128 + 128)) (or_val n) hw'.2 rfl (by omega) ?_; clear hcell hfro; intro g1 c1 w1 ho1 hf1 hm1; obtain ⟨hcell, hfro⟩ := wr_cell hw' hf1))
      go_roundw
      case rel =>
        have h2 := wr_step hw' ho1 hf1 hm1
        rw [List.append_assoc, List.length_append] at h2
        refine ⟨n / 128, _, _, by omega, ?_, hto.trans h2, ?_⟩
        · simp
        · rw [← HD.out, enc_ge n (by omega)]; simp
      case measure => simp [intOf]; omega
end Go.Proofs.Ytdfkoehcmgcoiaa
