/- The reference's Name, Closes, in, Right; the law's Few. -/
import Derived.Test.YtbopmboigcdjpaaDoorMm
namespace Go.Proofs.YtbopmboigcdjpaaDoor
open Go.RowKit Go.Maps

set_option maxRecDepth 100000 in
set_option maxHeartbeats 4000000 in
theorem rname_any (k : Int) (w : World) : Calls Tryd.prog 22 #[.int .i64 k] w fun e w' => e = .returned (.string (nameOf k)) ∧ Fr (fun _ => False) w w' := by
  obtain ⟨g0, hg0⟩ : ∃ g0, w.heap.size = g0 := ⟨_, rfl⟩
  obtain ⟨W, hW⟩ : ∃ W, w.alloc (.cells #[.string ⟨#[]⟩, .string ⟨#[115, 116, 97, 114, 116, 101, 100]⟩, .string ⟨#[115, 99, 104, 101, 100, 117, 108, 101, 100]⟩, .string ⟨#[100, 101, 99, 105, 100, 101, 115]⟩, .string ⟨#[100, 101, 99, 105, 100, 101, 100]⟩, .string ⟨#[109, 105, 115, 115, 101, 100]⟩, .string ⟨#[102, 97, 117, 108, 116, 121]⟩, .string ⟨#[97, 99, 116, 105, 118, 105, 116, 121]⟩, .string ⟨#[119, 111, 114, 107, 115]⟩, .string ⟨#[119, 111, 114, 107, 101, 100]⟩, .string ⟨#[98, 114, 111, 107, 101]⟩, .string ⟨#[108, 97, 112, 115, 101, 100]⟩, .string ⟨#[116, 105, 109, 101, 114]⟩, .string ⟨#[102, 105, 114, 101, 100]⟩, .string ⟨#[117, 110, 115, 101, 116]⟩, .string ⟨#[115, 105, 103, 110, 97, 108]⟩, .string ⟨#[99, 97, 110, 99, 101, 108]⟩, .string ⟨#[99, 104, 105, 108, 100]⟩, .string ⟨#[99, 104, 105, 108, 100, 101, 110, 100, 115]⟩, .string ⟨#[99, 111, 110, 116, 105, 110, 117, 101, 100]⟩, .string ⟨#[99, 111, 109, 112, 108, 101, 116, 101, 100]⟩, .string ⟨#[102, 97, 105, 108, 101, 100]⟩, .string ⟨#[99, 97, 110, 99, 101, 108, 101, 100]⟩, .string ⟨#[116, 101, 114, 109, 105, 110, 97, 116, 101, 100]⟩] 9) = W := ⟨_, rfl⟩
  have HFW : Hid (Fr (fun _ => False) w W) := Lib.hid (by rw [← hW]; exact (Fr.refl _ _).alloc _)
  have KW : Hid (Bk W g0 9 #[.string ⟨#[]⟩, .string ⟨#[115, 116, 97, 114, 116, 101, 100]⟩, .string ⟨#[115, 99, 104, 101, 100, 117, 108, 101, 100]⟩, .string ⟨#[100, 101, 99, 105, 100, 101, 115]⟩, .string ⟨#[100, 101, 99, 105, 100, 101, 100]⟩, .string ⟨#[109, 105, 115, 115, 101, 100]⟩, .string ⟨#[102, 97, 117, 108, 116, 121]⟩, .string ⟨#[97, 99, 116, 105, 118, 105, 116, 121]⟩, .string ⟨#[119, 111, 114, 107, 115]⟩, .string ⟨#[119, 111, 114, 107, 101, 100]⟩, .string ⟨#[98, 114, 111, 107, 101]⟩, .string ⟨#[108, 97, 112, 115, 101, 100]⟩, .string ⟨#[116, 105, 109, 101, 114]⟩, .string ⟨#[102, 105, 114, 101, 100]⟩, .string ⟨#[117, 110, 115, 101, 116]⟩, .string ⟨#[115, 105, 103, 110, 97, 108]⟩, .string ⟨#[99, 97, 110, 99, 101, 108]⟩, .string ⟨#[99, 104, 105, 108, 100]⟩, .string ⟨#[99, 104, 105, 108, 100, 101, 110, 100, 115]⟩, .string ⟨#[99, 111, 110, 116, 105, 110, 117, 101, 100]⟩, .string ⟨#[99, 111, 109, 112, 108, 101, 116, 101, 100]⟩, .string ⟨#[102, 97, 105, 108, 101, 100]⟩, .string ⟨#[99, 97, 110, 99, 101, 108, 101, 100]⟩, .string ⟨#[116, 101, 114, 109, 105, 110, 97, 116, 101, 100]⟩]) := Lib.hid (by rw [← hW, ← hg0]; exact Bk.new _ _ _)
  have HC : Hid (∀ j : Nat, j < 24 → W.cell? ⟨g0, j, none⟩ = some (.string (nameTab.getD j ⟨#[]⟩))) := Lib.hid (fun j hj => by
    rw [KW.out.cell]
    have : ∀ j : Nat, j < 24 → (#[.string ⟨#[]⟩, .string ⟨#[115, 116, 97, 114, 116, 101, 100]⟩, .string ⟨#[115, 99, 104, 101, 100, 117, 108, 101, 100]⟩, .string ⟨#[100, 101, 99, 105, 100, 101, 115]⟩, .string ⟨#[100, 101, 99, 105, 100, 101, 100]⟩, .string ⟨#[109, 105, 115, 115, 101, 100]⟩, .string ⟨#[102, 97, 117, 108, 116, 121]⟩, .string ⟨#[97, 99, 116, 105, 118, 105, 116, 121]⟩, .string ⟨#[119, 111, 114, 107, 115]⟩, .string ⟨#[119, 111, 114, 107, 101, 100]⟩, .string ⟨#[98, 114, 111, 107, 101]⟩, .string ⟨#[108, 97, 112, 115, 101, 100]⟩, .string ⟨#[116, 105, 109, 101, 114]⟩, .string ⟨#[102, 105, 114, 101, 100]⟩, .string ⟨#[117, 110, 115, 101, 116]⟩, .string ⟨#[115, 105, 103, 110, 97, 108]⟩, .string ⟨#[99, 97, 110, 99, 101, 108]⟩, .string ⟨#[99, 104, 105, 108, 100]⟩, .string ⟨#[99, 104, 105, 108, 100, 101, 110, 100, 115]⟩, .string ⟨#[99, 111, 110, 116, 105, 110, 117, 101, 100]⟩, .string ⟨#[99, 111, 109, 112, 108, 101, 116, 101, 100]⟩, .string ⟨#[102, 97, 105, 108, 101, 100]⟩, .string ⟨#[99, 97, 110, 99, 101, 108, 101, 100]⟩, .string ⟨#[116, 101, 114, 109, 105, 110, 97, 116, 101, 100]⟩] : Array Value)[j]? = some (.string (nameTab.getD j ⟨#[]⟩)) := by
      intro j hj
      match j, hj with
      | 0, _ => rfl
      | 1, _ => rfl
      | 2, _ => rfl
      | 3, _ => rfl
      | 4, _ => rfl
      | 5, _ => rfl
      | 6, _ => rfl
      | 7, _ => rfl
      | 8, _ => rfl
      | 9, _ => rfl
      | 10, _ => rfl
      | 11, _ => rfl
      | 12, _ => rfl
      | 13, _ => rfl
      | 14, _ => rfl
      | 15, _ => rfl
      | 16, _ => rfl
      | 17, _ => rfl
      | 18, _ => rfl
      | 19, _ => rfl
      | 20, _ => rfl
      | 21, _ => rfl
      | 22, _ => rfl
      | 23, _ => rfl
      | n + 24, h => exact absurd h (by omega)
    exact this j hj)
  unfold nameOf isKindB
  by_cases h1 : 1 ≤ k
  · by_cases h2 : k ≤ 23
    · obtain ⟨j, rfl⟩ : ∃ j : Nat, k = (j : Int) := ⟨k.toNat, by omega⟩
      have c0 := HC.out j (by omega)
      have hj0 : (0 : Int) ≤ (j : Int) := by omega
      have hj1 : (j : Int) < 24 := by omega
      have d1 : decide ((j : Int) < 1) = false := decide_eq_false (by omega)
      have d1' : decide (j < 1) = false := decide_eq_false (by omega)
      have d2 : decide ((24 : Int) ≤ (j : Int)) = false := decide_eq_false (by omega)
      have d2' : decide (24 ≤ j) = false := decide_eq_false (by omega)
      have hres : (if (decide (1 ≤ (j : Int)) && decide ((j : Int) ≤ 23)) = true then nameTab.getD (j : Int).toNat ⟨#[]⟩ else ⟨#[]⟩) = nameTab.getD j ⟨#[]⟩ := by
        rw [if_pos (by simp; omega), Int.toNat_natCast]
      rw [hres]
      generalize nameTab.getD j ⟨#[]⟩ = s at *
      clear HC KW hres
      go_enter Tryd.func22, Tryd.ntmps22
      go_wp2
      go_ret
      exact ⟨rfl, HFW.out⟩
    · have d1 : decide (k < 1) = false := decide_eq_false (by omega)
      have d2 : decide ((24 : Int) ≤ k) = true := decide_eq_true (by omega)
      have hres : (if (decide (1 ≤ k) && decide (k ≤ 23)) = true then nameTab.getD k.toNat ⟨#[]⟩ else ⟨#[]⟩) = ⟨#[]⟩ := if_neg (by simp; omega)
      rw [hres]
      clear HC KW hres h1 h2
      go_enter Tryd.func22, Tryd.ntmps22
      go_wp2
      go_ret
      exact ⟨rfl, HFW.out⟩
  · have d1 : decide (k < 1) = true := decide_eq_true (by omega)
    have hres : (if (decide (1 ≤ k) && decide (k ≤ 23)) = true then nameTab.getD k.toNat ⟨#[]⟩ else ⟨#[]⟩) = ⟨#[]⟩ := if_neg (by simp; omega)
    rw [hres]
    clear HC KW hres h1
    go_enter Tryd.func22, Tryd.ntmps22
    go_wp2
    go_ret
    exact ⟨rfl, HFW.out⟩

set_option maxRecDepth 100000 in
theorem rcloses_any (k : Int) (w : World) : Calls Tryd.prog 24 #[.int .i64 k] w fun e w' => e = .returned (.bool (closesK k)) ∧ w = w' := by
  unfold closesK
  obtain ⟨p, hp⟩ : ∃ p, decide (19 ≤ k) = p := ⟨_, rfl⟩
  obtain ⟨q, hq⟩ : ∃ q, decide (k ≤ 23) = q := ⟨_, rfl⟩
  rw [hp, hq]
  cases p <;> cases q <;>
  · go_enter Tryd.func24, Tryd.ntmps24
    go_wp2
    go_ret
    exact ⟨rfl, rfl⟩
set_option maxRecDepth 100000 in
theorem rin_any (v : Int) (w : World) : Calls Tryd.prog 43 #[.int .i64 v] w fun e w' => e = .returned (.bool (inE v)) ∧ w = w' := by
  unfold inE
  obtain ⟨p, hp⟩ : ∃ p, decide (0 ≤ v) = p := ⟨_, rfl⟩
  obtain ⟨q, hq⟩ : ∃ q, decide (v ≤ 1099511627776) = q := ⟨_, rfl⟩
  rw [hp, hq]
  cases p <;> cases q <;>
  · go_enter Tryd.func43, Tryd.ntmps43
    go_wp2
    go_ret
    exact ⟨rfl, rfl⟩
theorem nameOf_ne {k : Int} (h : isKindB k = true) : (!(nameOf k).toList.isEmpty) = true := by
  have hr : 1 ≤ k ∧ k ≤ 23 := by unfold isKindB at h; simp at h; exact h
  unfold nameOf
  rw [if_pos h]
  have : ∀ j : Nat, j < 24 → 1 ≤ j → (!(nameTab.getD j ⟨#[]⟩).toList.isEmpty) = true := by decide +kernel
  exact this k.toNat (by omega) (by omega)
theorem nameOf_no {k : Int} (h : isKindB k = false) : nameOf k = ⟨#[]⟩ := by
  unfold nameOf; rw [if_neg (by simp [h])]

set_option maxRecDepth 100000 in
set_option maxHeartbeats 8000000 in
theorem rright_any (p : VL) (w : World) : Calls Tryd.prog 20 #[p.val] w fun e w' => e = .returned (.bool p.e.right) ∧ Fr (fun _ => False) w w' := by
  obtain ⟨g0, hg0⟩ : ∃ g0, w.heap.size = g0 := ⟨_, rfl⟩
  obtain ⟨W, hW⟩ : ∃ W, w.alloc (.cells p.cells.toArray 47) = W := ⟨_, rfl⟩
  have HFW : Hid (Fr (fun _ => False) w W) := Lib.hid (by rw [← hW]; exact (Fr.refl _ _).alloc _)
  have KW : Hid (Bk W g0 47 p.cells.toArray) := Lib.hid (by rw [← hW, ← hg0]; exact Bk.new _ _ _)
  obtain ⟨⟨k, a, r, i, l, n, d⟩, A, c⟩ := p
  unfold VL.val VL.cells VL.bv at *
  have HR : Hid ((⟨k, a, r, i, l, n, d⟩ : Ev).right = (isKindB k && inE a && inE r && inE i && inE l && inE n && decide (d.length ≤ 4096))) := Lib.hid rfl
  simp only
  generalize (⟨k, a, r, i, l, n, d⟩ : Ev).right = RR at *
  have CN := Lib.hid (rname_any k W)
  have k0 : W.cell? ⟨g0, 0, none⟩ = some (.int .i64 k) := KW.out.cell 0
  obtain ⟨q, hq⟩ : ∃ q, decide (d.length ≤ 4096) = q := ⟨_, rfl⟩
  have hq2 : decide ((d.length : Int) ≤ 4096) = q := by rw [← hq]; exact decide_eq_decide.2 (by omega)
  rw [hq] at HR
  clear hq
  obtain ⟨s, hs⟩ : ∃ s, nameOf k = s := ⟨_, rfl⟩
  rw [hs] at CN
  cases hx : isKindB k with
  | false =>
    have hs0 : s = ⟨#[]⟩ := by rw [← hs]; exact nameOf_no hx
    subst hs0
    have hres : RR = false := by rw [HR.out, hx]; simp
    clear hs hx HR KW
    go_enter Tryd.func20, Tryd.ntmps20
    go_wp2_with fail
    clear hW hg0
    refine CN.out.mono ?_; rintro e w1 ⟨rfl, hf1⟩
    go_wp2
    go_ret
    exact ⟨by rw [hres]; rfl, HFW.out.trans hf1 (fun _ _ h => h)⟩
  | true =>
    have hs1 : (!s.toList.isEmpty) = true := by rw [← hs]; exact nameOf_ne hx
    have HR2 : Hid (RR = (inE a && inE r && inE i && inE l && inE n && q)) := Lib.hid (by rw [HR.out, hx]; simp)
    clear hs hx HR
    have Ca := Lib.hid (rin_any a)
    have Cr := Lib.hid (rin_any r)
    have Ci := Lib.hid (rin_any i)
    have Cl := Lib.hid (rin_any l)
    have Cn := Lib.hid (rin_any n)
    obtain ⟨ya, ha⟩ : ∃ y, inE a = y := ⟨_, rfl⟩
    obtain ⟨yr, hr⟩ : ∃ y, inE r = y := ⟨_, rfl⟩
    obtain ⟨yi, hi⟩ : ∃ y, inE i = y := ⟨_, rfl⟩
    obtain ⟨yl, hl⟩ : ∃ y, inE l = y := ⟨_, rfl⟩
    obtain ⟨yn, hn⟩ : ∃ y, inE n = y := ⟨_, rfl⟩
    rw [ha, hr, hi, hl, hn] at HR2
    rw [ha] at Ca
    rw [hr] at Cr
    rw [hi] at Ci
    rw [hl] at Cl
    rw [hn] at Cn
    clear ha hr hi hl hn
    go_enter Tryd.func20, Tryd.ntmps20
    go_wp2_with fail
    clear hW hg0 k0
    refine CN.out.mono ?_; rintro e w1 ⟨rfl, hf1⟩
    have K1 := KW.out.fr hf1 (fun h => h)
    have k1 : w1.cell? ⟨g0, 1, none⟩ = some (.int .i64 a) := K1.cell 1
    have k2 : w1.cell? ⟨g0, 2, none⟩ = some (.int .i64 r) := K1.cell 2
    have k3 : w1.cell? ⟨g0, 3, none⟩ = some (.int .i64 i) := K1.cell 3
    have k4 : w1.cell? ⟨g0, 4, none⟩ = some (.int .i64 l) := K1.cell 4
    have k5 : w1.cell? ⟨g0, 5, none⟩ = some (.int .i64 n) := K1.cell 5
    have k6 : w1.cell? ⟨g0, 6, none⟩ = some (.slice A d.length c) := K1.cell 6
    have HF1 := Lib.hid (HFW.out.trans hf1 (fun _ _ h => h))
    clear CN KW K1 hf1
    go_wp2_with fail
    refine (Ca.out _).mono ?_; rintro e w2 ⟨rfl, rfl⟩
    cases ya with
    | false =>
      go_wp2
      go_ret
      exact ⟨by rw [HR2.out]; simp, HF1.out⟩
    | true =>
      go_wp2_with fail
      refine (Cr.out _).mono ?_; rintro e w2 ⟨rfl, rfl⟩
      cases yr with
      | false =>
        go_wp2
        go_ret
        exact ⟨by rw [HR2.out]; simp, HF1.out⟩
      | true =>
        go_wp2_with fail
        refine (Ci.out _).mono ?_; rintro e w2 ⟨rfl, rfl⟩
        cases yi with
        | false =>
          go_wp2
          go_ret
          exact ⟨by rw [HR2.out]; simp, HF1.out⟩
        | true =>
          go_wp2_with fail
          refine (Cl.out _).mono ?_; rintro e w2 ⟨rfl, rfl⟩
          cases yl with
          | false =>
            go_wp2
            go_ret
            exact ⟨by rw [HR2.out]; simp, HF1.out⟩
          | true =>
            go_wp2_with fail
            refine (Cn.out _).mono ?_; rintro e w2 ⟨rfl, rfl⟩
            cases yn with
            | false =>
              go_wp2
              go_ret
              exact ⟨by rw [HR2.out]; simp, HF1.out⟩
            | true =>
              cases q <;>
              · go_wp2
                go_ret
                exact ⟨by rw [HR2.out]; rfl, HF1.out⟩

set_option maxRecDepth 100000 in
set_option maxHeartbeats 4000000 in
theorem few_any (A : Option Addr) (n c : Nat) (ps : List VL) (G : Nat → Prop) (w : World) (h : Vs w A n ps G) (hn : n ≤ 5000000000000) :
    Calls Tryd.prog 9 #[.slice A n c] w fun e w' => ∃ q, e = .returned (.bool q) ∧ (q = true → n ≤ 120) ∧ w = w' := by
  have HES := Lib.hid h
  have hnI : (n : Int) ≤ 5000000000000 := by omega
  clear h hn
  go_enter Tryd.func9, Tryd.ntmps9
  go_wp2_with fail
  go_loopw [3, 4] (fun v u wr => ∃ (k : Nat) (z : Int), u = .int .i64 (k : Int) ∧ v = .int .i64 z ∧ k ≤ n ∧ w = wr) (fun _ u _ => n - (intOf u).toNat)
  case atStart => exact ⟨0, _, rfl, rfl, Nat.zero_le _, rfl⟩
  case round =>
    obtain ⟨k, z, rfl, rfl, hk, rfl⟩ := hrel
    have hk0 : (0 : Int) ≤ (k : Int) := by omega
    by_cases hlt : k < n
    · have hlt' : (k : Int) < n := by omega
      obtain ⟨b, off, rfl, -, hcs, he⟩ := HES.out.at hlt
      have e1 : w.cell? ⟨b, off + k * 7 + 6, none⟩ = some (.slice (ps.getD k default).A (ps.getD k default).e.d.length (ps.getD k default).c) := hcs 6 _ rfl
      generalize (ps.getD k default).e.d.length = m at *
      generalize (ps.getD k default).A = A2 at *
      generalize (ps.getD k default).c = c2 at *
      clear he hcs
      go_wp2
      refine ⟨⟨k + 1, _, by simp, rfl, by omega, trivial⟩, ?_⟩
      first | omega | (show _ < _; simp [intOf]; omega)
    · obtain rfl : k = n := by omega
      by_cases hn120 : k ≤ 120
      · have d1 : decide ((k : Int) ≤ 120) = true := decide_eq_true (by omega)
        have d1' : decide (k ≤ 120) = true := decide_eq_true (by omega)
        by_cases hz : z ≤ 16384
        · have d0 : decide (z ≤ 16384) = true := decide_eq_true hz
          go_wp2
          go_ret
          exact ⟨_, rfl, fun _ => hn120, rfl⟩
        · have d0 : decide (z ≤ 16384) = false := decide_eq_false hz
          clear hz
          go_wp2
          go_ret
          exact ⟨_, rfl, fun _ => hn120, rfl⟩
      · have d1 : decide ((k : Int) ≤ 120) = false := decide_eq_false (by omega)
        have d1' : decide (k ≤ 120) = false := decide_eq_false (by omega)
        have HN := Lib.hid hn120
        clear hn120
        go_wp2
        go_ret
        exact ⟨false, rfl, fun h => (by cases h), rfl⟩
end Go.Proofs.YtbopmboigcdjpaaDoor
