/- ChunkSums' walk: one byte of the pieces is turned. -/
import Derived.Test.YtacafjbbdklleaaDoorAx
import Derived.Test.YtacafjbbdklleaaDoorBu
import Derived.Test.YtacafjbbdklleaaDoorTmC
namespace Go.Proofs.YtacafjbbdklleaaDoor
open Go.RowKit

theorem Own8.frozenAt {w : World} {e : TypeId} {g n c : Nat} {xs : List UInt8} (h : Own8 w e (.slice (some ⟨g, 0, none⟩) n c) xs) (hn : xs.length = n) (j : Nat) : w.frozen? ⟨g, j, none⟩ = false := by
  subst hn
  exact World.ownsRow.frozenAt h j
theorem Own8.put {w : World} {e : TypeId} {g n c : Nat} {xs : List UInt8} (h : Own8 w e (.slice (some ⟨g, 0, none⟩) n c) xs) (hn : xs.length = n) (j : Nat) (b : UInt8) :
    Own8 (w.setCell ⟨g, j, none⟩ (B8 b)) e (.slice (some ⟨g, 0, none⟩) n c) (xs.set j b) := by
  subst hn
  have := (World.ownsRow.stored h j (B8 b)).1
  unfold Own8
  rw [List.length_set, List.map_set]
  exact this
theorem xor_mul (a b s : Nat) : (a ^^^ b) * 2 ^ s = a * 2 ^ s ^^^ b * 2 ^ s := by
  apply Nat.eq_of_testBit_eq
  intro i
  simp only [Nat.testBit_xor, Nat.mul_comm _ (2 ^ s), Nat.testBit_two_pow_mul]
  by_cases hi : s ≤ i <;> simp [hi]

theorem V_set (t : Nat) (ht : t < 256) : ∀ (l : List UInt8) (i : Nat) (hi : i < l.length), V (l.set i (UInt8.ofNat ((l[i]).toNat ^^^ t))) = V l ^^^ t * 2 ^ (8 * i)
  | [], _, h => by simp at h
  | b :: l, 0, _ => by
    have h1 : (UInt8.ofNat (b.toNat ^^^ t)).toNat = b.toNat ^^^ t := by
      rw [UInt8.toNat_ofNat', Nat.mod_eq_of_lt (Nat.xor_lt_two_pow (n := 8) b.toNat_lt ht)]
    simp only [List.set_cons_zero, List.getElem_cons_zero]
    rw [V_xor, V_xor, h1, Nat.mul_zero, Nat.pow_zero, Nat.mul_one, Nat.xor_assoc, Nat.xor_comm t, ← Nat.xor_assoc]
  | b :: l, i + 1, h => by
    have ih := V_set t ht l i (by simpa using h)
    simp only [List.set_cons_succ, List.getElem_cons_succ]
    rw [V_xor, V_xor, ih, Nat.xor_assoc]
    congr 1
    rw [Nat.mul_comm 256 (V l ^^^ _), show (256 : Nat) = 2 ^ 8 from rfl, xor_mul, Nat.mul_comm (2 ^ 8) (V l)]
    congr 1
    rw [Nat.mul_assoc, ← Nat.pow_add]
    congr 1
theorem crc_flip (xs : List UInt8) (i t : Nat) (hi : i < xs.length) (ht : t < 256) (h0 : t ≠ 0) : crcOf (xs.set i (UInt8.ofNat ((xs[i]).toNat ^^^ t))) ≠ crcOf xs := by
  intro h
  have e : crcL 4294967295 (xs.set i (UInt8.ofNat ((xs[i]).toNat ^^^ t))) = crcL 4294967295 xs := by
    have h1 := crcL_lt (xs.set i (UInt8.ofNat ((xs[i]).toNat ^^^ t))) 4294967295 (by omega)
    have h2 := crcL_lt xs 4294967295 (by omega)
    unfold crcOf at h
    omega
  rw [crcL_V, crcL_V, V_set t ht xs i hi, List.length_set, ← Nat.xor_assoc, crcN_lin] at e
  have e2 : crcN (8 * xs.length) (t * 2 ^ (8 * i)) = 0 := by
    have := congrArg (fun x => crcN (8 * xs.length) (4294967295 ^^^ V xs) ^^^ x) e
    simpa [← Nat.xor_assoc] using this
  rw [show 8 * xs.length = 8 * i + (8 * xs.length - 8 * i) by omega, crcN_add, crcN_shift] at e2
  exact h0 (crcN_zero _ _ (by omega) e2)
theorem row_cell4 {w' : World} {id : Int} {n z K sm : Nat} {A : Option Addr} {c : Nat} {v : Value}
    (row : Row w' 36 5 v (K + 1) (frontC id n sm z A K ++ pcl id (K * z) n sm (.slice (adr A (K * z)) (n - K * z) (c - K * z)))) {k : Nat} (hk : k ≤ K) :
    ∃ b off c' lk ck, v = .slice (some ⟨b, off, none⟩) (K + 1) c' ∧ w'.cell? ⟨b, off + k * 5 + 4, none⟩ = some (.slice (adr A (k * z)) lk ck) ∧ ((k < K ∧ lk = z) ∨ (k = K ∧ lk = n - K * z)) := by
  obtain ⟨A', c', e, hl, hc, hA⟩ := row.form
  obtain ⟨b, off, rfl⟩ := hA (by omega)
  subst e
  by_cases h : k < K
  · refine ⟨b, off, c', z, z, rfl, ?_, .inl ⟨h, rfl⟩⟩
    rw [Nat.add_assoc]
    refine row.cell ?_
    rw [List.getElem?_append_left (by rw [frontC_len]; omega), frontC_at _ _ _ _ _ K k 4 h (by omega)]
    rfl
  · obtain rfl : k = K := by omega
    refine ⟨b, off, c', n - k * z, c - k * z, rfl, ?_, .inr ⟨rfl, rfl⟩⟩
    rw [Nat.add_assoc]
    refine row.cell ?_
    rw [List.getElem?_append_right (by rw [frontC_len]; omega), frontC_len, show k * 5 + 4 - k * 5 = 4 by omega]
    rfl

set_option maxRecDepth 100000 in
set_option maxHeartbeats 8000000 in
theorem sums_any (A : Option Addr) (n c FF : Nat) (xs : List UInt8) (z0 at0 t0 : Int) (w : World) (hG : Gl w) (hs0 : Sl8 w FF A n c xs) (ht0 : 0 ≤ t0 ∧ t0 ≤ 255) (hF : FF ≤ w.heap.size) :
    Calls Tryd.prog 6 #[.slice A n c, .int .i64 z0, .int .i64 at0, .int .u8 t0] w fun e w' => e = .returned (.bool true) ∧ Fr (fun _ => False) w w' := by
  have HN := Lib.hid hs0.1
  have HSX := Lib.hid hs0
  have HFF := Lib.hid hF
  have HG := Lib.hid hG
  have HT0 := Lib.hid ht0
  have CK := Lib.hid (known_any w hG)
  clear hs0 hF hG ht0
  by_cases h1 : n = 0
  · subst h1
    have e1a : ((0 : Nat) == 0) = true := rfl
    go_enter Tryd.func6, Tryd.ntmps6
    go_wp2_with fail
    refine CK.out.mono ?_; rintro e w1 ⟨rfl, hf1⟩
    have F1 := Lib.hid hf1
    clear hf1
    go_wp2
    go_ret
    exact ⟨rfl, F1.out⟩
  · have e1a : (n == 0) = false := by rw [beq_eq_false_iff_ne]; exact h1
    have e1b : ((n : Int) == 0) = false := by rw [beq_eq_false_iff_ne]; omega
    by_cases h2 : 2048 < n
    · have e2a : decide (2048 < n) = true := decide_eq_true (by omega)
      have e2b : decide ((2048 : Int) < (n : Int)) = true := decide_eq_true (by omega)
      clear h2
      go_enter Tryd.func6, Tryd.ntmps6
      go_wp2_with fail
      refine CK.out.mono ?_; rintro e w1 ⟨rfl, hf1⟩
      have F1 := Lib.hid hf1
      clear hf1
      go_wp2
      go_ret
      exact ⟨rfl, F1.out⟩
    · have e2a : decide (2048 < n) = false := decide_eq_false (by omega)
      have e2b : decide ((2048 : Int) < (n : Int)) = false := decide_eq_false (by omega)
      by_cases h3 : z0 < 1
      · have e3a : decide (z0 < 1) = true := decide_eq_true (by omega)
        clear h3
        go_enter Tryd.func6, Tryd.ntmps6
        go_wp2_with fail
        refine CK.out.mono ?_; rintro e w1 ⟨rfl, hf1⟩
        have F1 := Lib.hid hf1
        clear hf1
        go_wp2
        go_ret
        exact ⟨rfl, F1.out⟩
      · have e3a : decide (z0 < 1) = false := decide_eq_false (by omega)
        by_cases h4 : 4096 < z0
        · have e4a : decide (4096 < z0) = true := decide_eq_true (by omega)
          clear h4
          go_enter Tryd.func6, Tryd.ntmps6
          go_wp2_with fail
          refine CK.out.mono ?_; rintro e w1 ⟨rfl, hf1⟩
          have F1 := Lib.hid hf1
          clear hf1
          go_wp2
          go_ret
          exact ⟨rfl, F1.out⟩
        · have e4a : decide (4096 < z0) = false := decide_eq_false (by omega)
          by_cases h5 : t0 = 0
          · subst h5
            have e5a : ((0 : Int) == 0) = true := rfl
            clear HT0
            go_enter Tryd.func6, Tryd.ntmps6
            go_wp2_with fail
            refine CK.out.mono ?_; rintro e w1 ⟨rfl, hf1⟩
            have F1 := Lib.hid hf1
            clear hf1
            go_wp2
            go_ret
            exact ⟨rfl, F1.out⟩
          · have e5a : (t0 == 0) = false := by rw [beq_eq_false_iff_ne]; exact h5
            obtain ⟨z, rfl⟩ : ∃ z : Nat, z0 = (z : Int) := ⟨z0.toNat, by omega⟩
            obtain ⟨t, rfl⟩ : ∃ t : Nat, t0 = (t : Int) := ⟨t0.toNat, by have := HT0.out; omega⟩
            have e3' : decide (z < 1) = false := decide_eq_false (by omega)
            have e4' : decide (4096 < z) = false := decide_eq_false (by omega)
            have e5c : (t == 0) = false := by rw [beq_eq_false_iff_ne]; omega
            have HZ : Hid (1 ≤ z ∧ z ≤ 4096) := Lib.hid ⟨by omega, by omega⟩
            have HT : Hid (t < 256 ∧ t ≠ 0) := Lib.hid ⟨by have := HT0.out; omega, by omega⟩
            have HNB : Hid (n ≤ 1048576) := Lib.hid (by omega)
            have HNS : Hid (1 ≤ n ∧ n ≤ 2048) := Lib.hid (by omega)
            clear h1 h2 h3 h4 h5
            go_enter Tryd.func6, Tryd.ntmps6
            go_wp2_with fail
            refine CK.out.mono ?_; rintro e w1 ⟨rfl, hf1⟩
            have F1 := Lib.hid hf1
            have G1 := Lib.hid (HG.out.fr0 hf1)
            have CC1 := Lib.hid (Cut_ok 2 A n c xs z w1 G1.out.err G1.out.tab (HSX.out.2.2.2.1.fr hf1 (fun _ _ _ h => h)) HN.out (by omega) HNB.out HZ.out.1 (by have := HZ.out; omega))
            clear hf1
            go_wp2_with fail
            refine CC1.out.mono ?_; rintro e w2 ⟨K1, Ac, ac1, v1, rfl, hc1⟩
            have HC1 := Lib.hid hc1
            have F2 := Lib.hid (F1.out.trans hc1.fr (fun _ _ h => h))
            have G2 := Lib.hid (G1.out.fr0 hc1.fr)
            have CC2 := Lib.hid (Cut_ok 3 A n c xs z w2 G2.out.err G2.out.tab (HSX.out.2.2.2.1.fr F2.out (fun _ _ _ h => h)) HN.out (by omega) HNB.out HZ.out.1 (by have := HZ.out; omega))
            obtain ⟨m1, hm1⟩ : ∃ m1, K1 + 1 = m1 := ⟨_, rfl⟩
            have HM1 : Hid (K1 + 1 = m1 ∧ K1 * z ≤ n ∧ n ≤ K1 * z + z ∧ m1 ≤ 2049) := Lib.hid ⟨hm1, hc1.lo, hc1.hi, by
              have h1 : K1 ≤ K1 * z := Nat.le_mul_of_pos_right K1 HZ.out.1
              have h2 := hc1.lo; have h3 := HNS.out; omega⟩
            have HMID1 := Lib.hid hc1.mid
            obtain ⟨g0, hg0⟩ : ∃ g0, Ac = some ⟨g0, 0, none⟩ := by
              rcases hc1.own.form with ⟨_, e⟩ | ⟨g, cp, e, _⟩
              · have h1 := HNS.out; have h2 := HN.out; rw [e] at h2; simp at h2; omega
              · injection e with e; exact ⟨g, e⟩
            subst hg0
            have HG0 : Hid (w.heap.size ≤ g0) := Lib.hid (Nat.le_trans F1.out.size (hc1.newA g0 rfl))
            have HG0L : Hid (g0 < w2.heap.size) := Lib.hid (hc1.own.lt rfl)
            obtain ⟨u, hu⟩ : ∃ u, crcOf xs = u := ⟨_, rfl⟩
            have HU : Hid (u < 4294967296) := Lib.hid (by rw [← hu]; exact crcOf_lt _)
            have HUE := Lib.hid hu
            obtain ⟨L1, l1, e1, _⟩ := hc1.row.form
            rw [hm1] at e1
            subst e1
            have HV1B : Hid (∀ x, (Value.slice L1 m1 l1).ownBlock = some x → x < w2.heap.size) := Lib.hid (fun x hx => hc1.row.lt hx)
            have HROW1 := Lib.hid hc1.row
            have HOWN1 := Lib.hid hc1.own
            rw [hu] at HROW1
            have HROW1' := HROW1
            clear hm1 hc1 CC1 hu HROW1
            go_wp2_with fail
            refine CC2.out.mono ?_; rintro e w3 ⟨K2, Ad, ad1, v2, rfl, hc2⟩
            have FW3 := Lib.hid (F2.out.trans hc2.fr (fun _ _ h => h))
            have HG3 := Lib.hid (G2.out.fr0 hc2.fr)
            obtain ⟨m2, hm2⟩ : ∃ m2, K2 + 1 = m2 := ⟨_, rfl⟩
            have HM2 : Hid (K2 + 1 = m2 ∧ K2 * z ≤ n ∧ n ≤ K2 * z + z ∧ m2 ≤ 2049) := Lib.hid ⟨hm2, hc2.lo, hc2.hi, by
              have h1 : K2 ≤ K2 * z := Nat.le_mul_of_pos_right K2 HZ.out.1
              have h2 := hc2.lo; have h3 := HNS.out; omega⟩
            have HMID2 := Lib.hid hc2.mid
            obtain ⟨L2, l2, e2, _⟩ := hc2.row.form
            rw [hm2] at e2
            subst e2
            obtain ⟨B, hB⟩ : ∃ B, w3.heap.size = B := ⟨_, rfl⟩
            have HG0B : Hid (g0 < B) := Lib.hid (by have h1 := HG0L.out; have h2 := hc2.fr.size; omega)
            have HLB1 : Hid (∀ x, (Value.slice L1 m1 l1).ownBlock = some x → x < B) := Lib.hid (fun x hx => by have h1 := HV1B.out x hx; have h2 := hc2.fr.size; omega)
            have HLB2 : Hid (∀ x, (Value.slice L2 m2 l2).ownBlock = some x → x < B) := Lib.hid (fun x hx => by rw [← hB]; exact hc2.row.lt hx)
            have HLB3 : Hid (∀ x, (Value.slice Ad n ad1).ownBlock = some x → x < B) := Lib.hid (fun x hx => by rw [← hB]; exact hc2.own.lt hx)
            have HNX := Lib.hid hc2.newA
            have HROW2 := Lib.hid hc2.row
            rw [HUE.out] at HROW2
            have HROW2' := HROW2
            have HOWN2 := Lib.hid hc2.own
            have HFC2 := Lib.hid hc2.fr
            have HBE := Lib.hid hB
            clear hm2 hc2 CC2 hB HROW2
            go_wp2_with fail
            refine (newBuilder_any w3).mono ?_; rintro e w4 ⟨b, rfl, hb4, hf4, hbl⟩
            have HBD4 := Lib.hid hb4
            have HBL : Hid (B ≤ b) := Lib.hid (by rw [← HBE.out]; exact hbl)
            have HB4 : Hid (B ≤ w4.heap.size) := Lib.hid (by rw [← HBE.out]; exact hf4.size)
            have FW4 := Lib.hid (FW3.out.trans hf4 (fun _ _ h => h))
            have HG4 := Lib.hid (HG3.out.fr0 hf4)
            have HGB : Hid (3 ≤ B) := Lib.hid (by rw [← HBE.out]; exact HG3.out.sz)
            have HRW4 := Lib.hid ((HROW1'.out.fr0 HFC2.out).fr0 hf4)
            have HOW4 := Lib.hid ((HOWN1.out.fr HFC2.out (fun _ _ h => h)).fr hf4 (fun _ _ h => h))
            have HRX4 := Lib.hid (HROW2'.out.fr0 hf4)
            have HOX4 := Lib.hid (HOWN2.out.fr hf4 (fun _ _ h => h))
            have HOWB : Hid (∃ cb, Bk w4 g0 5 cb) := Lib.hid (by
              rcases HOW4.out.2 with ⟨e, _⟩ | ⟨g', cap, cur, e, _, hh, _⟩
              · cases e
              · injection e with e1 e2 e3
                injection e1 with e1
                injection e1 with e1
                subst e1
                exact ⟨cur, hh⟩)
            clear hb4 hf4 hbl
            obtain ⟨k, hk, hkk⟩ := tmod_small at0 m1 (by have := HM1.out; omega)
            obtain ⟨r, hr⟩ : ∃ r, at0.tmod (m1 : Int) = r := ⟨_, rfl⟩
            rw [hr] at hkk
            have g5 : ¬ (m1 : Int) = 0 := by have := HM1.out; omega
            have g6 : ((m1 : Int) == 0) = false := by rw [beq_eq_false_iff_ne]; exact g5
            have g7 : ((m1 : Int) == -1) = false := by rw [beq_eq_false_iff_ne]; omega
            have hk' : (k : Int) < (m1 : Int) := by omega
            have hk0 : (0 : Int) ≤ (k : Int) := by omega
            obtain ⟨rb, ro, rc, lk, ck, e9, hq4, hlk⟩ := row_cell4 HRW4.out (show k ≤ K1 by have := HM1.out; omega)
            injection e9 with e9a e9b e9c
            subst e9a e9c
            clear e9b
            obtain ⟨p0, hp0⟩ : ∃ p0, k * z = p0 := ⟨_, rfl⟩
            rw [hp0] at hq4
            simp only [adr, Option.map_some, Nat.zero_add] at hq4
            have hKm : k * z ≤ K1 * z := Nat.mul_le_mul_right z (by have := HM1.out; omega)
            have HP0 : Hid (p0 < xs.length) := Lib.hid (by
              have h1 := HM1.out; have h2 := HN.out; have h3 := HNS.out
              rcases HMID1.out with h | h
              · subst h
                obtain rfl : k = 0 := by omega
                omega
              · omega)
            have hlk0 : (0 : Int) < (lk : Int) := by
              have h1 := HM1.out; have h2 := HP0.out; have h3 := HN.out; have h4 := HZ.out
              rcases hlk with ⟨_, h⟩ | ⟨h5, h⟩
              · omega
              · subst h5; omega
            have hlk1 : 0 < lk := by omega
            have HQ4 : Hid (∀ w', Fr (fun _ => False) w4 w' → w'.cell? ⟨rb, ro + k * 5 + 4, none⟩ = some (.slice (some ⟨g0, p0, none⟩) lk ck)) := Lib.hid (fun w' hf => by
              rw [hf.cell (p := ⟨rb, ro + k * 5 + 4, none⟩) (World.block_lt_of_cell? w4 _ hq4) (fun h => h)]; exact hq4)
            obtain ⟨xv, hxv⟩ : ∃ xv : Nat, (xs[p0]'(HP0.out)).toNat = xv := ⟨_, rfl⟩
            have HQ5 : Hid (∀ w', Fr (fun _ => False) w4 w' → w'.cell? ⟨g0, p0, none⟩ = some (.int .u8 (xv : Int))) := Lib.hid (fun w' hf => by
              have h1 := (HOW4.out.fr hf (fun _ _ h => h)).cell p0 HP0.out
              rw [hxv] at h1; exact h1)
            obtain ⟨bt, hbt⟩ : ∃ bt : Nat, (UInt8.ofNat (xv ^^^ t)).toNat = bt := ⟨_, rfl⟩
            have hxb : xv < 256 := by rw [← hxv]; exact UInt8.toNat_lt _
            have hx9 : bits BinOp.xor IntKind.u8 (xv : Int) (t : Int) = (bt : Int) := by
              rw [u8_xor_nat _ _ (by omega) (by have := HT.out; omega), ← hbt, UInt8.toNat_ofNat', Nat.mod_eq_of_lt (Nat.xor_lt_two_pow (n := 8) hxb HT.out.1)]
            have HBT : Hid ((.int .u8 (bt : Int) : Value) = B8 (UInt8.ofNat ((xs[p0]'(HP0.out)).toNat ^^^ t))) := Lib.hid (by unfold B8; rw [hxv, hbt])
            obtain ⟨ys, hys⟩ : ∃ ys, xs.set p0 (UInt8.ofNat ((xs[p0]'(HP0.out)).toNat ^^^ t)) = ys := ⟨_, rfl⟩
            have HYS := Lib.hid hys
            have HYL : Hid (ys.length = n) := Lib.hid (by rw [← hys, List.length_set]; exact HN.out)
            have HYC : Hid (crcOf ys ≠ u) := Lib.hid (by rw [← hys, ← HUE.out]; exact crc_flip xs p0 t HP0.out HT.out.1 HT.out.2)
            have HFZ : Hid (w4.frozen? ⟨g0, p0, none⟩ = false) := Lib.hid (Own8.frozenAt HOW4.out HN.out p0)
            obtain ⟨hw4q, _⟩ : True ∧ True := ⟨trivial, trivial⟩
            clear hxv hbt hys hxb hp0 hq4 hKm hlk hk
            rcases hkk with ⟨hk1, hk2⟩ | ⟨hk1, hk2⟩
            · subst hk2
              have g8 : decide ((k : Int) < 0) = false := decide_eq_false (by omega)
              clear hk1
              go_wp2_with fail
              refine wp_region_Z [15] (fun w' => Fr (fun _ => False) w4 w') (by kernel_rfl) ((Fr.refl _ _).drew) (fun hHeld => ?_)
              refine anyZ_pure (i := 0) (v := ?_) (some 75) rfl rfl (by kernel_rfl) (by kernel_rfl) (by kernel_rfl) (by kernel_rfl) (fun _ _ _ h => h) (Or.inl ⟨by rfl, ?_⟩) (fun _ => hHeld) ?_
              rotate_left
              · intro w' _
                go_simp
                first | done | with_reducible rfl
              try simp only [Act.put, List.setIfInBounds_toArray, List.set_cons_zero, List.set_cons_succ]
              refine anyZ_pure (i := 1) (v := ?_) (some 76) rfl rfl (by kernel_rfl) (by kernel_rfl) (by kernel_rfl) (by kernel_rfl) (fun _ _ _ h => h) (Or.inl ⟨by rfl, ?_⟩) (fun _ => hHeld) ?_
              rotate_left
              · intro w' _
                go_simp
                first | done | with_reducible rfl
              try simp only [Act.put, List.setIfInBounds_toArray, List.set_cons_zero, List.set_cons_succ]
              refine anyZ_pure (i := 2) (v := ?_) (some 77) rfl rfl (by kernel_rfl) (by kernel_rfl) (by kernel_rfl) (by kernel_rfl) (fun _ _ _ h => h) (Or.inl ⟨by rfl, ?_⟩) (fun _ => hHeld) ?_
              rotate_left
              · intro w' _
                go_simp
                first | done | with_reducible rfl
              try simp only [Act.put, List.setIfInBounds_toArray, List.set_cons_zero, List.set_cons_succ]
              refine anyZ_pure (i := 3) (v := ?_) (some 78) rfl rfl (by kernel_rfl) (by kernel_rfl) (by kernel_rfl) (by kernel_rfl) (fun _ _ _ h => h) (Or.inl ⟨by rfl, ?_⟩) (fun _ => hHeld) ?_
              rotate_left
              · intro w' _
                go_simp
                first | done | with_reducible rfl
              try simp only [Act.put, List.setIfInBounds_toArray, List.set_cons_zero, List.set_cons_succ]
              refine anyZ_read (i := 4) (v := ?_) (some 79) [14, 15] rfl rfl (by kernel_rfl) (by kernel_rfl) (by kernel_rfl) (by kernel_rfl) (by kernel_rfl) (by kernel_rfl) (fun _ _ _ h => h) (Or.inl ⟨by rfl, ?_⟩) hHeld ?_
              rotate_left
              · intro w' hSw
                have q4 := HQ4.out w' hSw
                go_simp
                first | done | with_reducible rfl
              try simp only [Act.put, List.setIfInBounds_toArray, List.set_cons_zero, List.set_cons_succ]
              refine anyZ_pure (i := 5) (v := ?_) (some 80) rfl rfl (by kernel_rfl) (by kernel_rfl) (by kernel_rfl) (by kernel_rfl) (fun _ _ _ h => h) (Or.inl ⟨by rfl, ?_⟩) (fun _ => hHeld) ?_
              rotate_left
              · intro w' _
                go_simp
                first | done | with_reducible rfl
              try simp only [Act.put, List.setIfInBounds_toArray, List.set_cons_zero, List.set_cons_succ]
              refine anyZ_pure (i := 6) (v := ?_) (some 81) rfl rfl (by kernel_rfl) (by kernel_rfl) (by kernel_rfl) (by kernel_rfl) (fun _ _ _ h => h) (Or.inl ⟨by rfl, ?_⟩) (fun _ => hHeld) ?_
              rotate_left
              · intro w' _
                go_simp
                first | done | with_reducible rfl
              try simp only [Act.put, List.setIfInBounds_toArray, List.set_cons_zero, List.set_cons_succ]
              refine anyZ_pure (i := 7) (v := ?_) (some 82) rfl rfl (by kernel_rfl) (by kernel_rfl) (by kernel_rfl) (by kernel_rfl) (fun _ _ _ h => h) (Or.inl ⟨by rfl, ?_⟩) (fun _ => hHeld) ?_
              rotate_left
              · intro w' _
                go_simp
                first | done | with_reducible rfl
              try simp only [Act.put, List.setIfInBounds_toArray, List.set_cons_zero, List.set_cons_succ]
              refine anyZ_pure (i := 8) (v := ?_) (some 83) rfl rfl (by kernel_rfl) (by kernel_rfl) (by kernel_rfl) (by kernel_rfl) (fun _ _ _ h => h) (Or.inl ⟨by rfl, ?_⟩) (fun _ => hHeld) ?_
              rotate_left
              · intro w' _
                go_simp
                first | done | with_reducible rfl
              try simp only [Act.put, List.setIfInBounds_toArray, List.set_cons_zero, List.set_cons_succ]
              refine anyZ_read (i := 9) (v := ?_) (some 84) [10, 11, 13, 14, 15] rfl rfl (by kernel_rfl) (by kernel_rfl) (by kernel_rfl) (by kernel_rfl) (by kernel_rfl) (by kernel_rfl) (fun _ _ _ h => h) (Or.inl ⟨by rfl, ?_⟩) hHeld ?_
              rotate_left
              · intro w' hSw
                have q4 := HQ4.out w' hSw
                go_simp
                first | done | with_reducible rfl
              try simp only [Act.put, List.setIfInBounds_toArray, List.set_cons_zero, List.set_cons_succ]
              refine anyZ_pure (i := 10) (v := ?_) (some 85) rfl rfl (by kernel_rfl) (by kernel_rfl) (by kernel_rfl) (by kernel_rfl) (fun _ _ _ h => h) (Or.inl ⟨by rfl, ?_⟩) (fun _ => hHeld) ?_
              rotate_left
              · intro w' _
                go_simp
                first | done | with_reducible rfl
              try simp only [Act.put, List.setIfInBounds_toArray, List.set_cons_zero, List.set_cons_succ]
              refine anyZ_read (i := 11) (v := ?_) (some 86) [13, 14, 15] rfl rfl (by kernel_rfl) (by kernel_rfl) (by kernel_rfl) (by kernel_rfl) (by kernel_rfl) (by kernel_rfl) (fun _ _ _ h => h) (Or.inl ⟨by rfl, ?_⟩) hHeld ?_
              rotate_left
              · intro w' hSw
                have q5 := HQ5.out w' hSw
                go_simp
                first | done | with_reducible rfl
              try simp only [Act.put, List.setIfInBounds_toArray, List.set_cons_zero, List.set_cons_succ]
              refine anyZ_pure (i := 12) (v := ?_) (some 87) rfl rfl (by kernel_rfl) (by kernel_rfl) (by kernel_rfl) (by kernel_rfl) (fun _ _ _ h => h) (Or.inl ⟨by rfl, ?_⟩) (fun _ => hHeld) ?_
              rotate_left
              · intro w' _
                go_simp
                first | done | with_reducible rfl
              try simp only [Act.put, List.setIfInBounds_toArray, List.set_cons_zero, List.set_cons_succ]
              refine anyZ_pure (i := 13) (v := ?_) (some 88) rfl rfl (by kernel_rfl) (by kernel_rfl) (by kernel_rfl) (by kernel_rfl) (fun _ _ _ h => h) (Or.inl ⟨by rfl, ?_⟩) (fun _ => hHeld) ?_
              rotate_left
              · intro w' _
                go_simp
                first | done | with_reducible rfl
              try simp only [Act.put, List.setIfInBounds_toArray, List.set_cons_zero, List.set_cons_succ]
              refine anyZ_pure (i := 14) (v := ?_) (some 89) rfl rfl (by kernel_rfl) (by kernel_rfl) (by kernel_rfl) (by kernel_rfl) (fun _ _ _ h => h) (Or.inl ⟨by rfl, ?_⟩) (fun _ => hHeld) ?_
              rotate_left
              · intro w' _
                go_simp
                first | done | with_reducible rfl
              try simp only [Act.put, List.setIfInBounds_toArray, List.set_cons_zero, List.set_cons_succ]
              refine anyZ_ready (rs := [15]) (by kernel_rfl) (by simp) ?_
              refine AllZ.last rfl (by kernel_rfl) (fun K hK => ?_) AllZ.nil
              have x5 := HQ5.out _ (Fr.refl (fun _ => False) w4).drew
              have xf : w4.drew.frozen? ⟨g0, p0, none⟩ = false := HFZ.out
              obtain ⟨w5, hw5⟩ : ∃ w5, w4.drew.setCell ⟨g0, p0, none⟩ (.int .u8 (bt : Int)) = w5 := ⟨_, rfl⟩
              go_simp
              refine hK.out _ _ ?_
              clear hK K
              try change anyZ _ _ _ _ _ _ _ _ (Act.put _ none _) _
              try simp only [Act.put, List.setIfInBounds_toArray, List.set_cons_zero, List.set_cons_succ]
              refine anyZ_done (by kernel_rfl) ?_ _
              clear hHeld x5 xf
              have FS : Hid (Fr (fun x => x = g0) w4 w5) := Lib.hid (by rw [← hw5]; exact Fr.setCell (Fr.refl (fun x => x = g0) w4).drew (p := ⟨g0, p0, none⟩) (fun _ => rfl) _)
              have HOW5 : Hid (Own8 w5 5 (.slice (some ⟨g0, 0, none⟩) n ac1) ys) := Lib.hid (by
                rw [← hw5, ← HYS.out]
                have h9 := Own8.put (w := w4.drew) (e := 5) HOW4.out HN.out p0 (UInt8.ofNat ((xs[p0]'(HP0.out)).toNat ^^^ t))
                rw [← HBT.out] at h9
                exact h9)
              clear hw5
              have HG5 : Hid (Gl w5) := Lib.hid (HG4.out.fr FS.out (fun x hx e => by have h1 := HG0.out; have h2 := HG.out.sz; have e' : x = g0 := e; omega))
              have HRW5 := Lib.hid (HRW4.out.fr FS.out (fun x hx e => by
                obtain ⟨cb, hcb⟩ := HRW4.out.bk hx
                have e' : x = g0 := e
                subst e'
                obtain ⟨cb2, hcb2⟩ := HOWB.out
                exact Bk.ne hcb hcb2 (by decide) rfl))
              have HRX5 := Lib.hid (HRX4.out.fr FS.out (fun x hx e => by
                obtain ⟨cb, hcb⟩ := HRX4.out.bk hx
                have e' : x = g0 := e
                subst e'
                obtain ⟨cb2, hcb2⟩ := HOWB.out
                exact Bk.ne hcb hcb2 (by decide) rfl))
              have HOX5 := Lib.hid (HOX4.out.fr FS.out (fun x hx e => by have h1 := HNX.out x hx; have h2 := HG0L.out; have e' : x = g0 := e; omega))
              have HSZ5 : Hid (B ≤ w5.heap.size) := Lib.hid (Nat.le_trans HB4.out FS.out.size)
              have HPL : Hid (Pcs w5 B _ m1 (gPc 2 n u ys z)) := Lib.hid (by
                have h9 := pcs_of HM1.out.2.1 HM1.out.2.2.1 HOW5.out HRW5.out HYL.out HNB.out HZ.out.1 HSZ5.out HLB1.out (fun x hx => by
                  have : g0 = x := by injection hx
                  have h1 := HG0B.out; omega)
                rw [HM1.out.1] at h9
                exact h9)
              have HPM : Hid (Pcs w5 B _ m2 (gPc 3 n u xs z)) := Lib.hid (by
                have h9 := pcs_of HM2.out.2.1 HM2.out.2.2.1 HOX5.out HRX5.out HN.out HNB.out HZ.out.1 HSZ5.out HLB2.out HLB3.out
                rw [HM2.out.1] at h9
                exact h9)
              have HB5 : Hid (BI B w5 w5 b BSt.none (.slice none 0 0)) := Lib.hid ⟨HBD4.out.fr FS.out (fun e => by have h1 := HG0B.out; have h2 := HBL.out; have e' : b = g0 := e; omega) (fun x hx => by simp [Value.ownBlock] at hx) (fun x hx hl => by
                have e' : x = g0 := hx
                subst e'
                obtain ⟨cb2, hcb2⟩ := HOWB.out
                exact ⟨_, cb2, hcb2, by decide⟩), Fr.refl _ _, HBL.out, fun x hx => by simp [Value.ownBlock] at hx, HGB.out, HSZ5.out⟩
              have FW5 : Hid (Fr (fun _ => False) w w5) := Lib.hid (FW4.out.trans FS.out (fun x hx e => by have h1 := HG0.out; have e' : x = g0 := e; omega))
              have HWB : Hid (w.heap.size ≤ B) := Lib.hid (by have h1 := HG0.out; have h2 := HG0B.out; omega)
              have HSD : Hid (∀ w', Fr (fun x => B ≤ x) w5 w' → Sl8 w' FF A n c xs) := Lib.hid (fun w' hf => (HSX.out.fr FW5.out (fun _ _ h => h)).fr hf (fun k hk => by show ¬ B ≤ k; have h2 := HWB.out; have h3 := HFF.out; omega))
              clear hw4q
              go_wp2_with fail
              go_loopw [15] (fun a wr => ∃ (j : Nat) (s : BSt) (v : Value) (L : Nat), a = .int .i64 (j : Int) ∧ j ≤ m1 ∧ Hid (BI B w5 wr b s v) ∧ Hid (Fed 2 n u ys s L) ∧ Hid ((0 < j → ¬ s.id < 2) ∧ min (j * z) n ≤ L)) (fun a _ => m1 - (intOf a).toNat)
              case atStart => exact ⟨0, BSt.none, .slice none 0 0, 0, rfl, Nat.zero_le _, HB5, Lib.hid (Fed.begin (by simp [BSt.none]) BSt.none_ok), Lib.hid ⟨fun h => by omega, by simp⟩⟩
              case round =>
                obtain ⟨j, s, v, L, rfl, hj, HBI, HFD, HST⟩ := hrel
                by_cases hlt : j < m1
                · have g1 : decide (j < m1) = true := decide_eq_true hlt
                  have g1' : decide ((j : Int) < (m1 : Int)) = true := decide_eq_true (by omega)
                  have g3' : (j : Int) < (m1 : Int) := by omega
                  have hj0 : (0 : Int) ≤ (j : Int) := by omega
                  obtain ⟨_, A9, c9, e9, hp9⟩ := HBI.out.pcs HPL.out
                  injection e9 with e9a e9b e9c
                  subst e9a e9c
                  obtain ⟨pb, po, e8, D, dm, dk, p0, p1, p2, p3, p4, hsl, _, _⟩ := hp9 j hlt
                  have HDM : Hid ((dm : Int) ≤ 140737488355328) := Lib.hid (by have h1 := hsl.1; have h2 := gPc_len 2 n u ys z j; have h3 := HZ.out; omega)
                  have CA := Lib.hid (HBI.out.add HG5.out (gPc 2 n u ys z j) D dm dk _ hsl HDM.out HU.out)
                  obtain ⟨p, hpp⟩ : ∃ p, gPc 2 n u ys z j = p := ⟨_, rfl⟩
                  injection e8 with e8
                  injection e8 with e8a e8b
                  subst e8a e8b
                  have hKz : j * z ≤ n := by
                    have h1 := HM1.out
                    have h2 := Nat.mul_le_mul_right z (show j ≤ K1 by omega)
                    omega
                  have hon := HFD.out.on (z := z) (j := j) (K := K1) (by omega) HYL.out HNB.out HZ.out.1 (by have := HM1.out; omega) HMID1.out (by have := HST.out.2; omega) (fun h => by have h1 := HST.out.1; by_cases h2 : 0 < j; exact absurd h (h1 h2); omega)
                  rw [hpp] at CA hon p0 p1 p2 p3
                  obtain ⟨hE0, L', hF', hI', hL', hB'⟩ := hon
                  rw [hE0, hB'] at CA
                  obtain ⟨s', hs'⟩ : ∃ s', s.add p = s' := ⟨_, rfl⟩
                  rw [hs'] at CA hF' hI'
                  unfold Pc.v at CA
                  have HL' : Hid (min ((j + 1) * z) n ≤ L') := Lib.hid (by rw [Nat.succ_mul]; exact hL')
                  have HF' := Lib.hid hF'
                  have HI' := Lib.hid hI'
                  have HLT := Lib.hid hlt
                  clear hp9 hsl hpp hE0 hF' hI' hL' hB' hs' hKz
                  go_wp2_with fail
                  refine CA.out.mono ?_; rintro e w9 ⟨xv, v', rfl, hbv, hbi⟩
                  obtain rfl : xv = .nilIface := by unfold BrkV at hbv; rw [if_pos rfl] at hbv; exact hbv
                  have HBI' := Lib.hid hbi
                  have hb9 : (m1 : Int) ≤ 2049 := by have := HM1.out; omega
                  clear hbv hbi CA p0 p1 p2 p3 p4
                  go_wp2
                  refine ⟨⟨j + 1, s', v', L', by simp, by have := HLT.out; omega, HBI', HF', Lib.hid ⟨fun _ => by have := HI'.out; omega, HL'.out⟩⟩, ?_⟩
                  have h9 := HLT.out
                  first | omega | (show _ < _; simp [intOf]; omega)
                · obtain rfl : j = m1 := by omega
                  have g1 : decide (j < j) = false := decide_eq_false (by omega)
                  have g1' : decide ((j : Int) < (j : Int)) = false := decide_eq_false (by omega)
                  have hnL : n ≤ L := by
                    have h1 := HST.out.2
                    have h2 := HM1.out
                    have h3 : j * z = K1 * z + z := by rw [← h2.1, Nat.succ_mul]
                    omega
                  have hs : s = ⟨2, n, u, ys⟩ := by
                    rcases HFD.out with ⟨h, _⟩ | ⟨h1, h2⟩
                    · exact absurd h (HST.out.1 (by have := HM1.out; omega))
                    · rw [h2, List.take_of_length_le (by rw [HYL.out]; exact hnL)]
                  subst hs
                  have CD := Lib.hid (HBI.out.done HG5.out)
                  have hdE : BSt.doneE ⟨2, n, u, ys⟩ = 9 := by unfold BSt.doneE; rw [if_neg (by simp [BSt.whole, HYL.out]), if_pos (HYC.out)]
                  have hdn : BSt.done ⟨2, n, u, ys⟩ = BSt.none := by unfold BSt.done; rw [hdE]; rfl
                  rw [hdE, hdn] at CD
                  simp only [show ¬ ((9 : Int) = 0) by decide, show ¬ ((9 : Int) = 6) by decide, if_false] at CD
                  obtain ⟨m1c, hm1c⟩ : ∃ m1c, m1c = j := ⟨j, rfl⟩
                  subst hm1c
                  clear HFD HST hlt hj hnL hdE hdn
                  go_wp2_with fail
                  refine CD.out.mono ?_; rintro e w9 ⟨xv, rfl, hbv, hbi, ho⟩
                  have HV := Lib.hid hbv
                  unfold BrkV at hbv
                  rw [if_neg (by decide)] at hbv
                  obtain ⟨gx, rfl, _, _⟩ := hbv
                  have HBN := Lib.hid hbi
                  have CN := Lib.hid (next_any hbi.bd)
                  simp only [BSt.none, List.length_nil] at CN
                  clear hbi ho CD HBI
                  go_wp2_with fail
                  refine CN.out.mono ?_; rintro e w10 ⟨rfl, hf10⟩
                  have HBN2 := Lib.hid (HBN.out.fr0 hf10)
                  have CL := Lib.hid (lawBroken_any 2 9 _ w10 _ (HV.out.fr0 hf10) (.inr (.inr (.inr (.inr (.inl rfl))))) (by omega) (by omega) (HBN2.out.gl HG5.out).pow (HBN2.out.gl HG5.out).err)
                  clear hf10 CN
                  go_wp2_with fail
                  refine CL.out.mono ?_; rintro e w11 ⟨rfl, hf11⟩
                  have HBJ : Hid (BI B w5 w11 b BSt.none (.slice none 0 0)) := Lib.hid (HBN2.out.fr0 hf11)
                  clear hf11 CL
                  go_wp2_with fail
                  go_loopw [21] (fun a wr => ∃ (j : Nat) (s : BSt) (v : Value) (L : Nat), a = .int .i64 (j : Int) ∧ j ≤ m2 ∧ Hid (BI B w5 wr b s v) ∧ Hid (Fed 3 n u xs s L) ∧ Hid ((0 < j → ¬ s.id < 3) ∧ min (j * z) n ≤ L)) (fun a _ => m2 - (intOf a).toNat)
                  case atStart => exact ⟨0, BSt.none, .slice none 0 0, 0, rfl, Nat.zero_le _, HBJ, Lib.hid (Fed.begin (by simp [BSt.none]) BSt.none_ok), Lib.hid ⟨fun h => by omega, by simp⟩⟩
                  case round =>
                    obtain ⟨j, s, v, L, rfl, hj, HBI, HFD, HST⟩ := hrel
                    by_cases hlt : j < m2
                    · have g1 : decide (j < m2) = true := decide_eq_true hlt
                      have g1' : decide ((j : Int) < (m2 : Int)) = true := decide_eq_true (by omega)
                      have g3' : (j : Int) < (m2 : Int) := by omega
                      have hj0 : (0 : Int) ≤ (j : Int) := by omega
                      obtain ⟨_, A9, c9, e9, hp9⟩ := HBI.out.pcs HPM.out
                      injection e9 with e9a e9b e9c
                      subst e9a e9c
                      obtain ⟨pb, po, e8, D, dm, dk, p0, p1, p2, p3, p4, hsl, _, _⟩ := hp9 j hlt
                      have HDM : Hid ((dm : Int) ≤ 140737488355328) := Lib.hid (by have h1 := hsl.1; have h2 := gPc_len 3 n u xs z j; have h3 := HZ.out; omega)
                      have CA := Lib.hid (HBI.out.add HG5.out (gPc 3 n u xs z j) D dm dk _ hsl HDM.out HU.out)
                      obtain ⟨p, hpp⟩ : ∃ p, gPc 3 n u xs z j = p := ⟨_, rfl⟩
                      subst e8
                      have hKz : j * z ≤ n := by
                        have h1 := HM2.out
                        have h2 := Nat.mul_le_mul_right z (show j ≤ K2 by omega)
                        omega
                      have hon := HFD.out.on (z := z) (j := j) (K := K2) (by omega) HN.out HNB.out HZ.out.1 (by have := HM2.out; omega) HMID2.out (by have := HST.out.2; omega) (fun h => by have h1 := HST.out.1; by_cases h2 : 0 < j; exact absurd h (h1 h2); omega)
                      rw [hpp] at CA hon p0 p1 p2 p3
                      obtain ⟨hE0, L', hF', hI', hL', hB'⟩ := hon
                      rw [hE0, hB'] at CA
                      obtain ⟨s', hs'⟩ : ∃ s', s.add p = s' := ⟨_, rfl⟩
                      rw [hs'] at CA hF' hI'
                      unfold Pc.v at CA
                      have HL' : Hid (min ((j + 1) * z) n ≤ L') := Lib.hid (by rw [Nat.succ_mul]; exact hL')
                      have HF' := Lib.hid hF'
                      have HI' := Lib.hid hI'
                      have HLT := Lib.hid hlt
                      clear hp9 hsl hpp hE0 hF' hI' hL' hB' hs' hKz
                      go_wp2_with fail
                      refine CA.out.mono ?_; rintro e w9 ⟨xv, v', rfl, hbv, hbi⟩
                      obtain rfl : xv = .nilIface := by unfold BrkV at hbv; rw [if_pos rfl] at hbv; exact hbv
                      have HBI' := Lib.hid hbi
                      have hb9 : (m2 : Int) ≤ 2049 := by have := HM2.out; omega
                      clear hbv hbi CA p0 p1 p2 p3 p4
                      go_wp2
                      refine ⟨⟨j + 1, s', v', L', by simp, by have := HLT.out; omega, HBI', HF', Lib.hid ⟨fun _ => by have := HI'.out; omega, HL'.out⟩⟩, ?_⟩
                      have h9 := HLT.out
                      first | omega | (show _ < _; simp [intOf]; omega)
                    · obtain rfl : j = m2 := by omega
                      have g1 : decide (j < j) = false := decide_eq_false (by omega)
                      have g1' : decide ((j : Int) < (j : Int)) = false := decide_eq_false (by omega)
                      have hnL : n ≤ L := by
                        have h1 := HST.out.2
                        have h2 := HM2.out
                        have h3 : j * z = K2 * z + z := by rw [← h2.1, Nat.succ_mul]
                        omega
                      have hs : s = ⟨3, n, u, xs⟩ := by
                        rcases HFD.out with ⟨h, _⟩ | ⟨h1, h2⟩
                        · exact absurd h (HST.out.1 (by have := HM2.out; omega))
                        · rw [h2, List.take_of_length_le (by rw [HN.out]; exact hnL)]
                      subst hs
                      have CD := Lib.hid (HBI.out.done HG5.out)
                      have hdE : BSt.doneE ⟨3, n, u, xs⟩ = 0 := by unfold BSt.doneE; rw [if_neg (by simp [BSt.whole, HN.out]), if_neg (by simp [HUE.out])]
                      rw [hdE] at CD
                      simp only at CD
                      obtain ⟨A7, c7, rfl, _, _⟩ := HBI.out.bd.own.slice
                      clear HFD HST hlt hj hnL hdE
                      go_wp2_with fail
                      refine CD.out.mono ?_; rintro e w9 ⟨xv, rfl, hbv, hbi, ho⟩
                      obtain rfl : xv = .nilIface := by unfold BrkV at hbv; rw [if_pos rfl] at hbv; exact hbv
                      have HFR := Lib.hid hbi.fr
                      have t1 := run_str8 Tryd.t8 Tryd.underlying5 Tryd.underlying9 c7 ho.rd rfl
                      have t2 := run_str8 Tryd.t8 Tryd.underlying5 Tryd.underlying9 c (HSD.out w9 hbi.fr).2.2.2.1 HN.out
                      obtain ⟨st, hst⟩ : ∃ st, strOf xs = st := ⟨_, rfl⟩
                      rw [hst] at t1 t2
                      have t3 : (st.toList == st.toList) = true := by simp
                      clear hbv hbi ho CD HBI
                      go_wp2
                      go_ret
                      exact ⟨rfl, FW5.out.trans HFR.out (fun x hx h => by have h1 := HWB.out; have h' : B ≤ x := h; omega)⟩
            · have g8 : decide (r < 0) = true := decide_eq_true hk1
              have g9 : IntKind.i64.wrap (-r) = (k : Int) := by rw [hk2]; exact IntWalk.i64_in _ (by have := HM1.out; omega)
              clear hk1 hk2
              go_wp2_with fail
              refine wp_region_Z [15] (fun w' => Fr (fun _ => False) w4 w') (by kernel_rfl) ((Fr.refl _ _).drew) (fun hHeld => ?_)
              refine anyZ_pure (i := 0) (v := ?_) (some 75) rfl rfl (by kernel_rfl) (by kernel_rfl) (by kernel_rfl) (by kernel_rfl) (fun _ _ _ h => h) (Or.inl ⟨by rfl, ?_⟩) (fun _ => hHeld) ?_
              rotate_left
              · intro w' _
                go_simp
                first | done | with_reducible rfl
              try simp only [Act.put, List.setIfInBounds_toArray, List.set_cons_zero, List.set_cons_succ]
              refine anyZ_pure (i := 1) (v := ?_) (some 76) rfl rfl (by kernel_rfl) (by kernel_rfl) (by kernel_rfl) (by kernel_rfl) (fun _ _ _ h => h) (Or.inl ⟨by rfl, ?_⟩) (fun _ => hHeld) ?_
              rotate_left
              · intro w' _
                go_simp
                first | done | with_reducible rfl
              try simp only [Act.put, List.setIfInBounds_toArray, List.set_cons_zero, List.set_cons_succ]
              refine anyZ_pure (i := 2) (v := ?_) (some 77) rfl rfl (by kernel_rfl) (by kernel_rfl) (by kernel_rfl) (by kernel_rfl) (fun _ _ _ h => h) (Or.inl ⟨by rfl, ?_⟩) (fun _ => hHeld) ?_
              rotate_left
              · intro w' _
                go_simp
                first | done | with_reducible rfl
              try simp only [Act.put, List.setIfInBounds_toArray, List.set_cons_zero, List.set_cons_succ]
              refine anyZ_pure (i := 3) (v := ?_) (some 78) rfl rfl (by kernel_rfl) (by kernel_rfl) (by kernel_rfl) (by kernel_rfl) (fun _ _ _ h => h) (Or.inl ⟨by rfl, ?_⟩) (fun _ => hHeld) ?_
              rotate_left
              · intro w' _
                go_simp
                first | done | with_reducible rfl
              try simp only [Act.put, List.setIfInBounds_toArray, List.set_cons_zero, List.set_cons_succ]
              refine anyZ_read (i := 4) (v := ?_) (some 79) [14, 15] rfl rfl (by kernel_rfl) (by kernel_rfl) (by kernel_rfl) (by kernel_rfl) (by kernel_rfl) (by kernel_rfl) (fun _ _ _ h => h) (Or.inl ⟨by rfl, ?_⟩) hHeld ?_
              rotate_left
              · intro w' hSw
                have q4 := HQ4.out w' hSw
                go_simp
                first | done | with_reducible rfl
              try simp only [Act.put, List.setIfInBounds_toArray, List.set_cons_zero, List.set_cons_succ]
              refine anyZ_pure (i := 5) (v := ?_) (some 80) rfl rfl (by kernel_rfl) (by kernel_rfl) (by kernel_rfl) (by kernel_rfl) (fun _ _ _ h => h) (Or.inl ⟨by rfl, ?_⟩) (fun _ => hHeld) ?_
              rotate_left
              · intro w' _
                go_simp
                first | done | with_reducible rfl
              try simp only [Act.put, List.setIfInBounds_toArray, List.set_cons_zero, List.set_cons_succ]
              refine anyZ_pure (i := 6) (v := ?_) (some 81) rfl rfl (by kernel_rfl) (by kernel_rfl) (by kernel_rfl) (by kernel_rfl) (fun _ _ _ h => h) (Or.inl ⟨by rfl, ?_⟩) (fun _ => hHeld) ?_
              rotate_left
              · intro w' _
                go_simp
                first | done | with_reducible rfl
              try simp only [Act.put, List.setIfInBounds_toArray, List.set_cons_zero, List.set_cons_succ]
              refine anyZ_pure (i := 7) (v := ?_) (some 82) rfl rfl (by kernel_rfl) (by kernel_rfl) (by kernel_rfl) (by kernel_rfl) (fun _ _ _ h => h) (Or.inl ⟨by rfl, ?_⟩) (fun _ => hHeld) ?_
              rotate_left
              · intro w' _
                go_simp
                first | done | with_reducible rfl
              try simp only [Act.put, List.setIfInBounds_toArray, List.set_cons_zero, List.set_cons_succ]
              refine anyZ_pure (i := 8) (v := ?_) (some 83) rfl rfl (by kernel_rfl) (by kernel_rfl) (by kernel_rfl) (by kernel_rfl) (fun _ _ _ h => h) (Or.inl ⟨by rfl, ?_⟩) (fun _ => hHeld) ?_
              rotate_left
              · intro w' _
                go_simp
                first | done | with_reducible rfl
              try simp only [Act.put, List.setIfInBounds_toArray, List.set_cons_zero, List.set_cons_succ]
              refine anyZ_read (i := 9) (v := ?_) (some 84) [10, 11, 13, 14, 15] rfl rfl (by kernel_rfl) (by kernel_rfl) (by kernel_rfl) (by kernel_rfl) (by kernel_rfl) (by kernel_rfl) (fun _ _ _ h => h) (Or.inl ⟨by rfl, ?_⟩) hHeld ?_
              rotate_left
              · intro w' hSw
                have q4 := HQ4.out w' hSw
                go_simp
                first | done | with_reducible rfl
              try simp only [Act.put, List.setIfInBounds_toArray, List.set_cons_zero, List.set_cons_succ]
              refine anyZ_pure (i := 10) (v := ?_) (some 85) rfl rfl (by kernel_rfl) (by kernel_rfl) (by kernel_rfl) (by kernel_rfl) (fun _ _ _ h => h) (Or.inl ⟨by rfl, ?_⟩) (fun _ => hHeld) ?_
              rotate_left
              · intro w' _
                go_simp
                first | done | with_reducible rfl
              try simp only [Act.put, List.setIfInBounds_toArray, List.set_cons_zero, List.set_cons_succ]
              refine anyZ_read (i := 11) (v := ?_) (some 86) [13, 14, 15] rfl rfl (by kernel_rfl) (by kernel_rfl) (by kernel_rfl) (by kernel_rfl) (by kernel_rfl) (by kernel_rfl) (fun _ _ _ h => h) (Or.inl ⟨by rfl, ?_⟩) hHeld ?_
              rotate_left
              · intro w' hSw
                have q5 := HQ5.out w' hSw
                go_simp
                first | done | with_reducible rfl
              try simp only [Act.put, List.setIfInBounds_toArray, List.set_cons_zero, List.set_cons_succ]
              refine anyZ_pure (i := 12) (v := ?_) (some 87) rfl rfl (by kernel_rfl) (by kernel_rfl) (by kernel_rfl) (by kernel_rfl) (fun _ _ _ h => h) (Or.inl ⟨by rfl, ?_⟩) (fun _ => hHeld) ?_
              rotate_left
              · intro w' _
                go_simp
                first | done | with_reducible rfl
              try simp only [Act.put, List.setIfInBounds_toArray, List.set_cons_zero, List.set_cons_succ]
              refine anyZ_pure (i := 13) (v := ?_) (some 88) rfl rfl (by kernel_rfl) (by kernel_rfl) (by kernel_rfl) (by kernel_rfl) (fun _ _ _ h => h) (Or.inl ⟨by rfl, ?_⟩) (fun _ => hHeld) ?_
              rotate_left
              · intro w' _
                go_simp
                first | done | with_reducible rfl
              try simp only [Act.put, List.setIfInBounds_toArray, List.set_cons_zero, List.set_cons_succ]
              refine anyZ_pure (i := 14) (v := ?_) (some 89) rfl rfl (by kernel_rfl) (by kernel_rfl) (by kernel_rfl) (by kernel_rfl) (fun _ _ _ h => h) (Or.inl ⟨by rfl, ?_⟩) (fun _ => hHeld) ?_
              rotate_left
              · intro w' _
                go_simp
                first | done | with_reducible rfl
              try simp only [Act.put, List.setIfInBounds_toArray, List.set_cons_zero, List.set_cons_succ]
              refine anyZ_ready (rs := [15]) (by kernel_rfl) (by simp) ?_
              refine AllZ.last rfl (by kernel_rfl) (fun K hK => ?_) AllZ.nil
              have x5 := HQ5.out _ (Fr.refl (fun _ => False) w4).drew
              have xf : w4.drew.frozen? ⟨g0, p0, none⟩ = false := HFZ.out
              obtain ⟨w5, hw5⟩ : ∃ w5, w4.drew.setCell ⟨g0, p0, none⟩ (.int .u8 (bt : Int)) = w5 := ⟨_, rfl⟩
              go_simp
              refine hK.out _ _ ?_
              clear hK K
              try change anyZ _ _ _ _ _ _ _ _ (Act.put _ none _) _
              try simp only [Act.put, List.setIfInBounds_toArray, List.set_cons_zero, List.set_cons_succ]
              refine anyZ_done (by kernel_rfl) ?_ _
              clear hHeld x5 xf
              have FS : Hid (Fr (fun x => x = g0) w4 w5) := Lib.hid (by rw [← hw5]; exact Fr.setCell (Fr.refl (fun x => x = g0) w4).drew (p := ⟨g0, p0, none⟩) (fun _ => rfl) _)
              have HOW5 : Hid (Own8 w5 5 (.slice (some ⟨g0, 0, none⟩) n ac1) ys) := Lib.hid (by
                rw [← hw5, ← HYS.out]
                have h9 := Own8.put (w := w4.drew) (e := 5) HOW4.out HN.out p0 (UInt8.ofNat ((xs[p0]'(HP0.out)).toNat ^^^ t))
                rw [← HBT.out] at h9
                exact h9)
              clear hw5
              have HG5 : Hid (Gl w5) := Lib.hid (HG4.out.fr FS.out (fun x hx e => by have h1 := HG0.out; have h2 := HG.out.sz; have e' : x = g0 := e; omega))
              have HRW5 := Lib.hid (HRW4.out.fr FS.out (fun x hx e => by
                obtain ⟨cb, hcb⟩ := HRW4.out.bk hx
                have e' : x = g0 := e
                subst e'
                obtain ⟨cb2, hcb2⟩ := HOWB.out
                exact Bk.ne hcb hcb2 (by decide) rfl))
              have HRX5 := Lib.hid (HRX4.out.fr FS.out (fun x hx e => by
                obtain ⟨cb, hcb⟩ := HRX4.out.bk hx
                have e' : x = g0 := e
                subst e'
                obtain ⟨cb2, hcb2⟩ := HOWB.out
                exact Bk.ne hcb hcb2 (by decide) rfl))
              have HOX5 := Lib.hid (HOX4.out.fr FS.out (fun x hx e => by have h1 := HNX.out x hx; have h2 := HG0L.out; have e' : x = g0 := e; omega))
              have HSZ5 : Hid (B ≤ w5.heap.size) := Lib.hid (Nat.le_trans HB4.out FS.out.size)
              have HPL : Hid (Pcs w5 B _ m1 (gPc 2 n u ys z)) := Lib.hid (by
                have h9 := pcs_of HM1.out.2.1 HM1.out.2.2.1 HOW5.out HRW5.out HYL.out HNB.out HZ.out.1 HSZ5.out HLB1.out (fun x hx => by
                  have : g0 = x := by injection hx
                  have h1 := HG0B.out; omega)
                rw [HM1.out.1] at h9
                exact h9)
              have HPM : Hid (Pcs w5 B _ m2 (gPc 3 n u xs z)) := Lib.hid (by
                have h9 := pcs_of HM2.out.2.1 HM2.out.2.2.1 HOX5.out HRX5.out HN.out HNB.out HZ.out.1 HSZ5.out HLB2.out HLB3.out
                rw [HM2.out.1] at h9
                exact h9)
              have HB5 : Hid (BI B w5 w5 b BSt.none (.slice none 0 0)) := Lib.hid ⟨HBD4.out.fr FS.out (fun e => by have h1 := HG0B.out; have h2 := HBL.out; have e' : b = g0 := e; omega) (fun x hx => by simp [Value.ownBlock] at hx) (fun x hx hl => by
                have e' : x = g0 := hx
                subst e'
                obtain ⟨cb2, hcb2⟩ := HOWB.out
                exact ⟨_, cb2, hcb2, by decide⟩), Fr.refl _ _, HBL.out, fun x hx => by simp [Value.ownBlock] at hx, HGB.out, HSZ5.out⟩
              have FW5 : Hid (Fr (fun _ => False) w w5) := Lib.hid (FW4.out.trans FS.out (fun x hx e => by have h1 := HG0.out; have e' : x = g0 := e; omega))
              have HWB : Hid (w.heap.size ≤ B) := Lib.hid (by have h1 := HG0.out; have h2 := HG0B.out; omega)
              have HSD : Hid (∀ w', Fr (fun x => B ≤ x) w5 w' → Sl8 w' FF A n c xs) := Lib.hid (fun w' hf => (HSX.out.fr FW5.out (fun _ _ h => h)).fr hf (fun k hk => by show ¬ B ≤ k; have h2 := HWB.out; have h3 := HFF.out; omega))
              clear hw4q
              go_wp2_with fail
              go_loopw [15] (fun a wr => ∃ (j : Nat) (s : BSt) (v : Value) (L : Nat), a = .int .i64 (j : Int) ∧ j ≤ m1 ∧ Hid (BI B w5 wr b s v) ∧ Hid (Fed 2 n u ys s L) ∧ Hid ((0 < j → ¬ s.id < 2) ∧ min (j * z) n ≤ L)) (fun a _ => m1 - (intOf a).toNat)
              case atStart => exact ⟨0, BSt.none, .slice none 0 0, 0, rfl, Nat.zero_le _, HB5, Lib.hid (Fed.begin (by simp [BSt.none]) BSt.none_ok), Lib.hid ⟨fun h => by omega, by simp⟩⟩
              case round =>
                obtain ⟨j, s, v, L, rfl, hj, HBI, HFD, HST⟩ := hrel
                by_cases hlt : j < m1
                · have g1 : decide (j < m1) = true := decide_eq_true hlt
                  have g1' : decide ((j : Int) < (m1 : Int)) = true := decide_eq_true (by omega)
                  have g3' : (j : Int) < (m1 : Int) := by omega
                  have hj0 : (0 : Int) ≤ (j : Int) := by omega
                  obtain ⟨_, A9, c9, e9, hp9⟩ := HBI.out.pcs HPL.out
                  injection e9 with e9a e9b e9c
                  subst e9a e9c
                  obtain ⟨pb, po, e8, D, dm, dk, p0, p1, p2, p3, p4, hsl, _, _⟩ := hp9 j hlt
                  have HDM : Hid ((dm : Int) ≤ 140737488355328) := Lib.hid (by have h1 := hsl.1; have h2 := gPc_len 2 n u ys z j; have h3 := HZ.out; omega)
                  have CA := Lib.hid (HBI.out.add HG5.out (gPc 2 n u ys z j) D dm dk _ hsl HDM.out HU.out)
                  obtain ⟨p, hpp⟩ : ∃ p, gPc 2 n u ys z j = p := ⟨_, rfl⟩
                  injection e8 with e8
                  injection e8 with e8a e8b
                  subst e8a e8b
                  have hKz : j * z ≤ n := by
                    have h1 := HM1.out
                    have h2 := Nat.mul_le_mul_right z (show j ≤ K1 by omega)
                    omega
                  have hon := HFD.out.on (z := z) (j := j) (K := K1) (by omega) HYL.out HNB.out HZ.out.1 (by have := HM1.out; omega) HMID1.out (by have := HST.out.2; omega) (fun h => by have h1 := HST.out.1; by_cases h2 : 0 < j; exact absurd h (h1 h2); omega)
                  rw [hpp] at CA hon p0 p1 p2 p3
                  obtain ⟨hE0, L', hF', hI', hL', hB'⟩ := hon
                  rw [hE0, hB'] at CA
                  obtain ⟨s', hs'⟩ : ∃ s', s.add p = s' := ⟨_, rfl⟩
                  rw [hs'] at CA hF' hI'
                  unfold Pc.v at CA
                  have HL' : Hid (min ((j + 1) * z) n ≤ L') := Lib.hid (by rw [Nat.succ_mul]; exact hL')
                  have HF' := Lib.hid hF'
                  have HI' := Lib.hid hI'
                  have HLT := Lib.hid hlt
                  clear hp9 hsl hpp hE0 hF' hI' hL' hB' hs' hKz
                  go_wp2_with fail
                  refine CA.out.mono ?_; rintro e w9 ⟨xv, v', rfl, hbv, hbi⟩
                  obtain rfl : xv = .nilIface := by unfold BrkV at hbv; rw [if_pos rfl] at hbv; exact hbv
                  have HBI' := Lib.hid hbi
                  have hb9 : (m1 : Int) ≤ 2049 := by have := HM1.out; omega
                  clear hbv hbi CA p0 p1 p2 p3 p4
                  go_wp2
                  refine ⟨⟨j + 1, s', v', L', by simp, by have := HLT.out; omega, HBI', HF', Lib.hid ⟨fun _ => by have := HI'.out; omega, HL'.out⟩⟩, ?_⟩
                  have h9 := HLT.out
                  first | omega | (show _ < _; simp [intOf]; omega)
                · obtain rfl : j = m1 := by omega
                  have g1 : decide (j < j) = false := decide_eq_false (by omega)
                  have g1' : decide ((j : Int) < (j : Int)) = false := decide_eq_false (by omega)
                  have hnL : n ≤ L := by
                    have h1 := HST.out.2
                    have h2 := HM1.out
                    have h3 : j * z = K1 * z + z := by rw [← h2.1, Nat.succ_mul]
                    omega
                  have hs : s = ⟨2, n, u, ys⟩ := by
                    rcases HFD.out with ⟨h, _⟩ | ⟨h1, h2⟩
                    · exact absurd h (HST.out.1 (by have := HM1.out; omega))
                    · rw [h2, List.take_of_length_le (by rw [HYL.out]; exact hnL)]
                  subst hs
                  have CD := Lib.hid (HBI.out.done HG5.out)
                  have hdE : BSt.doneE ⟨2, n, u, ys⟩ = 9 := by unfold BSt.doneE; rw [if_neg (by simp [BSt.whole, HYL.out]), if_pos (HYC.out)]
                  have hdn : BSt.done ⟨2, n, u, ys⟩ = BSt.none := by unfold BSt.done; rw [hdE]; rfl
                  rw [hdE, hdn] at CD
                  simp only [show ¬ ((9 : Int) = 0) by decide, show ¬ ((9 : Int) = 6) by decide, if_false] at CD
                  obtain ⟨m1c, hm1c⟩ : ∃ m1c, m1c = j := ⟨j, rfl⟩
                  subst hm1c
                  clear HFD HST hlt hj hnL hdE hdn
                  go_wp2_with fail
                  refine CD.out.mono ?_; rintro e w9 ⟨xv, rfl, hbv, hbi, ho⟩
                  have HV := Lib.hid hbv
                  unfold BrkV at hbv
                  rw [if_neg (by decide)] at hbv
                  obtain ⟨gx, rfl, _, _⟩ := hbv
                  have HBN := Lib.hid hbi
                  have CN := Lib.hid (next_any hbi.bd)
                  simp only [BSt.none, List.length_nil] at CN
                  clear hbi ho CD HBI
                  go_wp2_with fail
                  refine CN.out.mono ?_; rintro e w10 ⟨rfl, hf10⟩
                  have HBN2 := Lib.hid (HBN.out.fr0 hf10)
                  have CL := Lib.hid (lawBroken_any 2 9 _ w10 _ (HV.out.fr0 hf10) (.inr (.inr (.inr (.inr (.inl rfl))))) (by omega) (by omega) (HBN2.out.gl HG5.out).pow (HBN2.out.gl HG5.out).err)
                  clear hf10 CN
                  go_wp2_with fail
                  refine CL.out.mono ?_; rintro e w11 ⟨rfl, hf11⟩
                  have HBJ : Hid (BI B w5 w11 b BSt.none (.slice none 0 0)) := Lib.hid (HBN2.out.fr0 hf11)
                  clear hf11 CL
                  go_wp2_with fail
                  go_loopw [21] (fun a wr => ∃ (j : Nat) (s : BSt) (v : Value) (L : Nat), a = .int .i64 (j : Int) ∧ j ≤ m2 ∧ Hid (BI B w5 wr b s v) ∧ Hid (Fed 3 n u xs s L) ∧ Hid ((0 < j → ¬ s.id < 3) ∧ min (j * z) n ≤ L)) (fun a _ => m2 - (intOf a).toNat)
                  case atStart => exact ⟨0, BSt.none, .slice none 0 0, 0, rfl, Nat.zero_le _, HBJ, Lib.hid (Fed.begin (by simp [BSt.none]) BSt.none_ok), Lib.hid ⟨fun h => by omega, by simp⟩⟩
                  case round =>
                    obtain ⟨j, s, v, L, rfl, hj, HBI, HFD, HST⟩ := hrel
                    by_cases hlt : j < m2
                    · have g1 : decide (j < m2) = true := decide_eq_true hlt
                      have g1' : decide ((j : Int) < (m2 : Int)) = true := decide_eq_true (by omega)
                      have g3' : (j : Int) < (m2 : Int) := by omega
                      have hj0 : (0 : Int) ≤ (j : Int) := by omega
                      obtain ⟨_, A9, c9, e9, hp9⟩ := HBI.out.pcs HPM.out
                      injection e9 with e9a e9b e9c
                      subst e9a e9c
                      obtain ⟨pb, po, e8, D, dm, dk, p0, p1, p2, p3, p4, hsl, _, _⟩ := hp9 j hlt
                      have HDM : Hid ((dm : Int) ≤ 140737488355328) := Lib.hid (by have h1 := hsl.1; have h2 := gPc_len 3 n u xs z j; have h3 := HZ.out; omega)
                      have CA := Lib.hid (HBI.out.add HG5.out (gPc 3 n u xs z j) D dm dk _ hsl HDM.out HU.out)
                      obtain ⟨p, hpp⟩ : ∃ p, gPc 3 n u xs z j = p := ⟨_, rfl⟩
                      subst e8
                      have hKz : j * z ≤ n := by
                        have h1 := HM2.out
                        have h2 := Nat.mul_le_mul_right z (show j ≤ K2 by omega)
                        omega
                      have hon := HFD.out.on (z := z) (j := j) (K := K2) (by omega) HN.out HNB.out HZ.out.1 (by have := HM2.out; omega) HMID2.out (by have := HST.out.2; omega) (fun h => by have h1 := HST.out.1; by_cases h2 : 0 < j; exact absurd h (h1 h2); omega)
                      rw [hpp] at CA hon p0 p1 p2 p3
                      obtain ⟨hE0, L', hF', hI', hL', hB'⟩ := hon
                      rw [hE0, hB'] at CA
                      obtain ⟨s', hs'⟩ : ∃ s', s.add p = s' := ⟨_, rfl⟩
                      rw [hs'] at CA hF' hI'
                      unfold Pc.v at CA
                      have HL' : Hid (min ((j + 1) * z) n ≤ L') := Lib.hid (by rw [Nat.succ_mul]; exact hL')
                      have HF' := Lib.hid hF'
                      have HI' := Lib.hid hI'
                      have HLT := Lib.hid hlt
                      clear hp9 hsl hpp hE0 hF' hI' hL' hB' hs' hKz
                      go_wp2_with fail
                      refine CA.out.mono ?_; rintro e w9 ⟨xv, v', rfl, hbv, hbi⟩
                      obtain rfl : xv = .nilIface := by unfold BrkV at hbv; rw [if_pos rfl] at hbv; exact hbv
                      have HBI' := Lib.hid hbi
                      have hb9 : (m2 : Int) ≤ 2049 := by have := HM2.out; omega
                      clear hbv hbi CA p0 p1 p2 p3 p4
                      go_wp2
                      refine ⟨⟨j + 1, s', v', L', by simp, by have := HLT.out; omega, HBI', HF', Lib.hid ⟨fun _ => by have := HI'.out; omega, HL'.out⟩⟩, ?_⟩
                      have h9 := HLT.out
                      first | omega | (show _ < _; simp [intOf]; omega)
                    · obtain rfl : j = m2 := by omega
                      have g1 : decide (j < j) = false := decide_eq_false (by omega)
                      have g1' : decide ((j : Int) < (j : Int)) = false := decide_eq_false (by omega)
                      have hnL : n ≤ L := by
                        have h1 := HST.out.2
                        have h2 := HM2.out
                        have h3 : j * z = K2 * z + z := by rw [← h2.1, Nat.succ_mul]
                        omega
                      have hs : s = ⟨3, n, u, xs⟩ := by
                        rcases HFD.out with ⟨h, _⟩ | ⟨h1, h2⟩
                        · exact absurd h (HST.out.1 (by have := HM2.out; omega))
                        · rw [h2, List.take_of_length_le (by rw [HN.out]; exact hnL)]
                      subst hs
                      have CD := Lib.hid (HBI.out.done HG5.out)
                      have hdE : BSt.doneE ⟨3, n, u, xs⟩ = 0 := by unfold BSt.doneE; rw [if_neg (by simp [BSt.whole, HN.out]), if_neg (by simp [HUE.out])]
                      rw [hdE] at CD
                      simp only at CD
                      obtain ⟨A7, c7, rfl, _, _⟩ := HBI.out.bd.own.slice
                      clear HFD HST hlt hj hnL hdE
                      go_wp2_with fail
                      refine CD.out.mono ?_; rintro e w9 ⟨xv, rfl, hbv, hbi, ho⟩
                      obtain rfl : xv = .nilIface := by unfold BrkV at hbv; rw [if_pos rfl] at hbv; exact hbv
                      have HFR := Lib.hid hbi.fr
                      have t1 := run_str8 Tryd.t8 Tryd.underlying5 Tryd.underlying9 c7 ho.rd rfl
                      have t2 := run_str8 Tryd.t8 Tryd.underlying5 Tryd.underlying9 c (HSD.out w9 hbi.fr).2.2.2.1 HN.out
                      obtain ⟨st, hst⟩ : ∃ st, strOf xs = st := ⟨_, rfl⟩
                      rw [hst] at t1 t2
                      have t3 : (st.toList == st.toList) = true := by simp
                      clear hbv hbi ho CD HBI
                      go_wp2
                      go_ret
                      exact ⟨rfl, FW5.out.trans HFR.out (fun x hx h => by have h1 := HWB.out; have h' : B ≤ x := h; omega)⟩
end Go.Proofs.YtacafjbbdklleaaDoor
