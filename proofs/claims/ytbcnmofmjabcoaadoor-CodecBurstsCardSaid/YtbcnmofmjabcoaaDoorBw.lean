/- The law on bursts, its walk. -/
import Derived.Test.YtbcnmofmjabcoaaDoorCp
import Derived.Test.YtbcnmofmjabcoaaDoorBv
namespace Go.Proofs.YtbcnmofmjabcoaaDoor
open Go.RowKit

set_option maxRecDepth 100000 in
set_option maxHeartbeats 4000000 in
theorem bursts_out (A : Option Addr) (n c : Nat) (bit : Int) (pat : Nat) (w : World) (ht : Tab w) (hE : ErrT w) (hb : (n : Int) ≤ 9223372036854775807)
    (h : (8192 : Int) < n ∨ bit < 0 ∨ pat = 0) :
    Calls Tryd.prog 6 #[.slice A n c, .int .i64 bit, .int .u32 pat] w fun e w' => e = .returned (.bool true) ∧ Fr (fun _ => False) w w' := by
  by_cases h1 : (8192 : Int) < n
  · clear h
    go_enter Tryd.func6, Tryd.ntmps6
    go_wp2_with (go_at_call 9; refine (known_any _ ht hE).mono ?_; rintro e w1 ⟨rfl, hf1⟩)
    go_ret
    exact ⟨rfl, hf1⟩
  · by_cases h2 : bit < 0
    · clear h
      go_enter Tryd.func6, Tryd.ntmps6
      go_wp2_with (go_at_call 9; refine (known_any _ ht hE).mono ?_; rintro e w1 ⟨rfl, hf1⟩)
      go_ret
      exact ⟨rfl, hf1⟩
    · obtain rfl : pat = 0 := by omega
      clear h
      go_enter Tryd.func6, Tryd.ntmps6
      go_wp2_with (go_at_call 9; refine (known_any _ ht hE).mono ?_; rintro e w1 ⟨rfl, hf1⟩)
      go_ret
      exact ⟨rfl, hf1⟩

theorem Own8.frozenAt {w : World} {e : TypeId} {g n c : Nat} {xs : List UInt8} (h : Own8 w e (.slice (some ⟨g, 0, none⟩) n c) xs) (hn : xs.length = n) (j : Nat) : w.frozen? ⟨g, j, none⟩ = false := by
  subst hn
  exact World.ownsRow.frozenAt h j
theorem Own8.put {w : World} {e : TypeId} {g n c : Nat} {xs : List UInt8} (h : Own8 w e (.slice (some ⟨g, 0, none⟩) n c) xs) (hn : xs.length = n) (j : Nat) (b : UInt8) :
    Own8 (w.setCell ⟨g, j, none⟩ (B8 b)) e (.slice (some ⟨g, 0, none⟩) n c) (xs.set j b) := by
  subst hn
  have := (World.ownsRow.stored h j (B8 b)).1
  unfold Own8
  rw [List.length_set, List.map_set]
  exact this
theorem strOf_toList (xs : List UInt8) : (strOf xs).toList = xs := by rw [ByteArray.toList_eq]; rfl
theorem test_val (pat k : Nat) (hp : (pat : Int) ≤ 4294967295) : bits BinOp.and IntKind.u32 ((pat : Int) / 2 ^ k) 1 = ((pat / 2 ^ k % 2 : Nat) : Int) := by
  have h : pat / 2 ^ k < 4294967296 := Nat.lt_of_le_of_lt (Nat.div_le_self _ _) (by omega)
  have e : (pat : Int) / 2 ^ k = ((pat / 2 ^ k : Nat) : Int) := by rw [Int.natCast_ediv, Int.natCast_pow]; rfl
  rw [e, show (1 : Int) = ((1 : Nat) : Int) from rfl, u32_and_nat _ _ h (by omega), nat_mask1]
theorem flip_val (xv m : Nat) (hx : xv < 2 ^ 8) (hm : m < 8) : (.int .u8 (bits BinOp.xor IntKind.u8 (xv : Int) (2 ^ m % 256)) : Value) = B8 (UInt8.ofNat (xv ^^^ 2 ^ m)) := by
  have h2 : 2 ^ m < 2 ^ 8 := Nat.pow_lt_pow_right (by omega) hm
  have e : (2 : Int) ^ m % 256 = ((2 ^ m : Nat) : Int) := by
    rw [Int.natCast_pow]
    have : ((2 : Nat) : Int) ^ m = ((2 ^ m : Nat) : Int) := (Int.natCast_pow 2 m).symm
    rw [this]
    exact Int.emod_eq_of_lt (Int.natCast_nonneg _) (Int.ofNat_lt.2 (show 2 ^ m < 256 from h2))
  have h3 : xv ^^^ 2 ^ m < 2 ^ 8 := Nat.xor_lt_two_pow hx h2
  rw [e, u8_xor_nat _ _ (by omega) (by omega)]
  unfold B8
  rw [UInt8.toNat_ofNat', Nat.mod_eq_of_lt h3]
theorem xor_mul (a b s : Nat) : (a ^^^ b) * 2 ^ s = a * 2 ^ s ^^^ b * 2 ^ s := by
  apply Nat.eq_of_testBit_eq
  intro i
  simp only [Nat.testBit_xor, Nat.mul_comm _ (2 ^ s), Nat.testBit_two_pow_mul]
  by_cases hi : s ≤ i <;> simp [hi]
theorem turn_no (pat k bit v : Nat) (h : v = pat % 2 ^ k * 2 ^ bit) (h0 : pat / 2 ^ k % 2 = 0) : v = pat % 2 ^ (k + 1) * 2 ^ bit := by
  rw [Nat.mod_pow_succ, h0, Nat.mul_zero, Nat.add_zero]; exact h
theorem turn_yes (pat k bit v : Nat) (h : v = pat % 2 ^ k * 2 ^ bit) (h0 : pat / 2 ^ k % 2 = 1) : v ^^^ 2 ^ (bit + k) = pat % 2 ^ (k + 1) * 2 ^ bit := by
  rw [Nat.mod_pow_succ, h0, xor_add _ _ k (Nat.mod_lt _ (Nat.two_pow_pos k)), xor_mul, h, Nat.mul_one, ← Nat.pow_add, Nat.add_comm bit k]

set_option maxRecDepth 100000 in
set_option maxHeartbeats 4000000 in
theorem bursts_in (A : Option Addr) (n c : Nat) (bs : List UInt8) (bit pat : Nat) (w : World) (ht : Tab w) (hE : ErrT w) (hr : Rd8 w A bs) (hn : bs.length = n) (hb : (n : Int) ≤ 8192)
    (hbit : (bit : Int) ≤ 9223372036854775807) (hp : (pat : Int) ≤ 4294967295) (hp0 : ((pat : Int) == 0) = false) :
    Calls Tryd.prog 6 #[.slice A n c, .int .i64 bit, .int .u32 pat] w fun e w' => e = .returned (.bool true) ∧ Fr (fun _ => False) w w' := by
  have h0 : ¬ (bit : Int) < 0 := by omega
  have h1 : ¬ (8192 : Int) < n := by omega
  go_enter Tryd.func6, Tryd.ntmps6
  go_wp2_with fail
  refine (known_any _ ht hE).mono ?_; rintro e w1 ⟨rfl, hf1⟩
  go_wp2_with fail
  refine (frame_any A n c bs w1 (ht.fr hf1 (fun h => h)) (hr.fr hf1 (fun _ _ _ h => h)) hn (by omega)).mono ?_; rintro e w2 ⟨A2, c2, rfl, ho2, hr2⟩
  have hF2 := hf1.trans hr2.1 (fun _ _ h => h)
  have hs2 := Nat.le_trans hf1.size hr2.1.size
  have hfl : (frameOf bs).length = n + 12 := by simp [frameOf, four, hn]
  have hne : ((n : Int) + 12 != (n : Int) + 12) = false := by simp
  have hq2 : Fr (fun _ => False) w2 (w2.alloc (.cells #[] 5)) := (Fr.refl _ _).alloc _
  go_wp2_with (at_builtin; (refine wpList_append8s _ rfl (.tmp 34) (.tmp 35) Tryd.t8 rfl _ [] rfl (Own8.fresh w2 _ #[] 0 rfl (by decide)) A2 (n + 12) c2 (frameOf bs) rfl hfl (ho2.fr hq2 (fun _ _ h => h)).rd (by simp only [List.length_nil]; omega) ?_; intro A3 c3 w3 ho3 hf3 hm3))
  have hr3 := (Fresh.new w2 (.cells #[] 5) 0 0).step hf3 hm3
  have ho23 := ho2.fr hr3.1 (fun _ _ h => h)
  simp only [List.length_nil, Nat.zero_add, List.nil_append, hfl] at ho3 hr3 ⊢
  obtain ⟨g, rfl, hc3⟩ : ∃ g, A3 = some ⟨g, 0, none⟩ ∧ n + 12 ≤ c3 := by
    rcases ho3.form with ⟨e, h0⟩ | ⟨g, cap, e, h1, _⟩
    · rw [h0] at hfl; simp at hfl
    · injection e with e1 _ e2
      rw [hfl] at h1
      exact ⟨g, e1, by omega⟩
  have hg : w2.heap.size ≤ g := hr3.2 g rfl
  have hF3 := hF2.trans hr3.1 (fun _ _ h => h)
  have hne2 : (Value.slice A2 (n + 12) c2).ownBlock ≠ some g := fun e => by have := ho2.lt e; omega
  clear hf3 hm3 hr3 hr2 hF2 hf1 ho2 hq2
  have hfr0 : Fr (fun x => x = g) w3 w3 := Fr.refl _ _
  go_wp2_with fail
  go_loopw [9] (fun i wr => ∃ (k : Nat) (x : List UInt8), (k : Int) ≤ 32 ∧ i = .int .i64 k ∧ x.length = n + 12 ∧ V x ^^^ V (frameOf bs) = pat % 2 ^ k * 2 ^ bit ∧ Own8 wr 5 (.slice (some ⟨g, 0, none⟩) (n + 12) c3) x ∧ Fr (fun x => x = g) w3 wr) (fun i _ => 32 - (intOf i).toNat)
  case atStart => exact ⟨0, frameOf bs, by omega, rfl, hfl, by simp [Nat.mod_one], ho3, hfr0⟩
  case round =>
    obtain ⟨k, x, hk, rfl, hxl, hv, hox, hfr⟩ := hrel
    have HV := Lib.hid hv
    clear hv ho3
    by_cases hk32 : (k : Int) < 32
    · by_cases hlt : (bit : Int) < 8 * ((n : Int) + 12) - k
      · rcases Nat.mod_two_eq_zero_or_one (pat / 2 ^ k) with hbit0 | hbit1
        · have ht0 : (bits BinOp.and IntKind.u32 ((pat : Int) / 2 ^ k) 1 == 1) = false := by rw [test_val pat k hp, hbit0]; rfl
          have HB := Lib.hid hbit0
          clear hbit0
          go_wp2
          go_roundw
          case rel => exact ⟨k + 1, x, by omega, by go_num, hxl, turn_no _ _ _ _ HV.out HB.out, hox, hfr⟩
          case measure => simp [intOf]; omega
        · have ht0 : (bits BinOp.and IntKind.u32 ((pat : Int) / 2 ^ k) 1 == 1) = true := by rw [test_val pat k hp, hbit1]; rfl
          have HB := Lib.hid hbit1
          clear hbit1
          have hj : (bit + k) / 8 < x.length := by omega
          have hcx := hox.cell ((bit + k) / 8) hj
          have hfx : wr.frozen? ⟨g, (bit + k) / 8, none⟩ = false := hox.frozenAt hxl ((bit + k) / 8)
          have hxb := (x[(bit + k) / 8]'hj).toNat_lt
          generalize hxv : (x[(bit + k) / 8]'hj).toNat = xv at *
          have HX := Lib.hid hxv
          clear hxv
          go_wp2
          go_roundw
          case rel =>
            have hp8 := hox.put hxl ((bit + k) / 8) (UInt8.ofNat (xv ^^^ 2 ^ ((bit + k) % 8)))
            rw [flip_val xv ((bit + k) % 8) hxb (Nat.mod_lt _ (by omega))]
            refine ⟨k + 1, _, by omega, by go_num, by rw [List.length_set]; exact hxl, ?_, hp8, hfr.trans fr_set (fun _ _ h => h)⟩
            have hvf := V_flip x (bit + k) hj
            rw [HX.out] at hvf
            rw [hvf, Nat.xor_assoc, Nat.xor_comm (2 ^ (bit + k)), ← Nat.xor_assoc]
            exact turn_yes _ _ _ _ HV.out HB.out
          case measure => simp [intOf]; omega
      · have hle : 8 * ((n : Int) + 12) - k ≤ bit := by omega
        have s1 := run_str8 Tryd.t8 Tryd.underlying5 Tryd.underlying9 c3 hox.rd hxl
        have hof := ho23.fr hfr (fun k hk e => hne2 (by rw [hk, e]))
        have s2 := run_str8 Tryd.t8 Tryd.underlying5 Tryd.underlying9 c2 hof.rd hfl
        by_cases hxf : x = frameOf bs
        · subst hxf
          go_wp2
          go_ret
          exact ⟨rfl, hF3.trans hfr (fun y hy e => by have h' : y = g := e; omega)⟩
        · have hsx : ((strOf x).toList == (strOf (frameOf bs)).toList) = false := by
            rw [strOf_toList, strOf_toList, beq_eq_false_iff_ne]; exact hxf
          obtain ⟨er, at_, wh, hbad⟩ := burst_bad x bs _ bit (by omega) (by omega) (Nat.lt_of_le_of_lt (Nat.mod_le pat (2 ^ k)) (show pat < 4294967296 by omega)) HV.out hxf
          have HBAD := Lib.hid hbad
          clear hbad
          have hrx := hox.rd
          go_wp2_with fail
          have hF := hF3.trans hfr (fun y hy e => by have h' : y = g := e; omega)
          refine (readFrame_any (some ⟨g, 0, none⟩) (n + 12) c3 x wr (ht.fr hF (fun h => h)) hrx (fun ad e => by injection e with e; subst e; rfl) hxl (by omega) (by omega)).mono ?_
          rw [HBAD.out]
          rintro e w5 ⟨fb, rfl, hfb, hf5, _⟩
          simp only [faultV]
          clear s1 s2 hsx
          go_wp2
          go_ret
          exact ⟨rfl, hF.trans hf5 (fun _ _ h => h)⟩
    · have hk' : (32 : Int) ≤ k := by omega
      have s1 := run_str8 Tryd.t8 Tryd.underlying5 Tryd.underlying9 c3 hox.rd hxl
      have hof := ho23.fr hfr (fun k hk e => hne2 (by rw [hk, e]))
      have s2 := run_str8 Tryd.t8 Tryd.underlying5 Tryd.underlying9 c2 hof.rd hfl
      by_cases hxf : x = frameOf bs
      · subst hxf
        go_wp2
        go_ret
        exact ⟨rfl, hF3.trans hfr (fun y hy e => by have h' : y = g := e; omega)⟩
      · have hsx : ((strOf x).toList == (strOf (frameOf bs)).toList) = false := by
          rw [strOf_toList, strOf_toList, beq_eq_false_iff_ne]; exact hxf
        obtain ⟨er, at_, wh, hbad⟩ := burst_bad x bs _ bit (by omega) (by omega) (Nat.lt_of_le_of_lt (Nat.mod_le pat (2 ^ k)) (show pat < 4294967296 by omega)) HV.out hxf
        have HBAD := Lib.hid hbad
        clear hbad
        have hrx := hox.rd
        go_wp2_with fail
        have hF := hF3.trans hfr (fun y hy e => by have h' : y = g := e; omega)
        refine (readFrame_any (some ⟨g, 0, none⟩) (n + 12) c3 x wr (ht.fr hF (fun h => h)) hrx (fun ad e => by injection e with e; subst e; rfl) hxl (by omega) (by omega)).mono ?_
        rw [HBAD.out]
        rintro e w5 ⟨fb, rfl, hfb, hf5, _⟩
        simp only [faultV]
        clear s1 s2 hsx
        go_wp2
        go_ret
        exact ⟨rfl, hF.trans hf5 (fun _ _ h => h)⟩
end Go.Proofs.YtbcnmofmjabcoaaDoor
