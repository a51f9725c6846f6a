/- QuorumVotes, walked. -/
import Derived.Test.YtiinkjplhihdaaaOt
import Derived.Test.YtiinkjplhihdaaaOn
import Derived.Test.YtiinkjplhihdaaaPa
import Derived.Test.YtiinkjplhihdaaaOx
namespace Go.Proofs.Ytiinkjplhihdaaa
open Go.RowKit

theorem won_not_lost {m : Nat → Int} {N : Nat} {y : Nat → Bool} (hw : wonB m N y = true) : lostB m N y = false := by
  have h1 : mst m ≤ ay N y (hav m 1 9) := of_decide_eq_true hw
  have h2 : pc m (fun k => decide (k < N) && y k) 9 + pc m (fun k => decide (k < N) && !y k) 9 ≤ (hav m 1 9).length := pc_sum 9 (fun _ _ h => h) (fun _ _ h => h) (fun k _ ⟨_, _, a, b⟩ => by
    simp at a b
    rw [a.2] at b
    simp at b)
  have e1 : ay N y (hav m 1 9) = pc m (fun k => decide (k < N) && y k) 9 := rfl
  have e2 : ny N y (hav m 1 9) = pc m (fun k => decide (k < N) && !y k) 9 := rfl
  have e3 : (hav m 1 9).length = cnt m 1 := rfl
  unfold lostB
  refine decide_eq_false (fun h => ?_)
  omega
theorem won_mono {m : Nat → Int} {N N2 : Nat} {y y2 : Nat → Bool} (h : ∀ k, k < N → y k = true → k < N2 ∧ y2 k = true) (hw : wonB m N y = true) : wonB m N2 y2 = true := by
  have h1 : mst m ≤ ay N y (hav m 1 9) := of_decide_eq_true hw
  refine decide_eq_true (Nat.le_trans h1 ?_)
  unfold ay
  exact filter_len (fun x _ hx => by simp at hx; have := h x hx.1 hx.2; simp [this])
theorem lost_mono {m : Nat → Int} {N N2 : Nat} {y y2 : Nat → Bool} (h : ∀ k, k < N → y k = false → k < N2 ∧ y2 k = false) (hw : lostB m N y = true) : lostB m N2 y2 = true := by
  have h1 : ((cnt m 1 : Int) - (ny N y (hav m 1 9) : Int)) < (mst m : Int) := of_decide_eq_true hw
  have h2 : ny N y (hav m 1 9) ≤ ny N2 y2 (hav m 1 9) := by
    unfold ny
    exact filter_len (fun x _ hx => by simp at hx; have := h x hx.1 hx.2; simp [this])
  exact decide_eq_true (by omega)
theorem OB.set {w : World} {e : TypeId} {q n c : Nat} {f : Nat → Bool} (h : OB w e q n c f) {k : Nat} (hk : k < n) (z : Bool) : RdF (w.setCell ⟨q, k, none⟩ (.bool z)) (some ⟨q, 0, none⟩) n (fun j => .bool (if j = k then z else f j)) := fun _ => by
  obtain ⟨cur, hb, hc⟩ := h.bk
  refine ⟨q, 0, rfl, fun j hj => ?_⟩
  rw [Nat.zero_add, (hb.set k (.bool z)).cell j, Array.getElem?_setIfInBounds]
  by_cases e : k = j
  · subst e
    have := (Array.getElem?_eq_some_iff.1 (hc k hk)).1
    simp [this]
  · rw [if_neg e]
    show cur[j]? = some (.bool (if j = k then z else f j))
    rw [if_neg (fun h => e h.symm)]
    exact hc j hj
theorem OB.fr {S : Nat → Prop} {w w' : World} {e : TypeId} {q n c : Nat} {f : Nat → Bool} (h : OB w e q n c f) (hf : Fr S w w') (hs : ¬ S q) : OB w' e q n c f := by
  refine ⟨h.row.1, ?_⟩
  rcases h.row.2 with hn | ⟨g, cap, cur, hv, hb0, hg, rest⟩
  · exact .inl hn
  · refine .inr ⟨g, cap, cur, hv, hb0, ?_, rest⟩
    have : q = g := by injection hv with ha _ _; injection ha with ha; injection ha
    subst this
    rw [hf.block q (Array.getElem?_eq_some_iff.1 hg).1 hs]
    exact hg
theorem app0 (f y : Nat → Bool) (j : Nat) : app f 0 y j = y j := by simp [app]
theorem OB.frozen {w : World} {e : TypeId} {q n c : Nat} {f : Nat → Bool} (h : OB w e q n c f) (k : Nat) : w.frozen? ⟨q, k, none⟩ = false := by
  obtain ⟨cur, hb, _⟩ := h.bk
  exact hb.frozen k
theorem OB.cell {w : World} {e : TypeId} {q n c : Nat} {f : Nat → Bool} (h : OB w e q n c f) {k : Nat} (hk : k < n) : w.cell? ⟨q, k, none⟩ = some (.bool (f k)) := by
  obtain ⟨cur, hb, hc⟩ := h.bk
  exact (hb.cell k).trans (hc k hk)

set_option maxRecDepth 100000 in
set_option maxHeartbeats 8000000 in
theorem lawVotes_any (m : Nat → Int) (A : Option Addr) (N c : Nat) (y : Nat → Bool) (kk : Int) (more : Bool) (w : World) (hm : ∀ k, 0 ≤ m k ∧ m k < 256) (hrd : RdF w A N (fun j => .bool (y j))) (hN : (N : Int) ≤ 9223372036854775807) :
    Calls Try.prog 7 #[mv m, .slice A N c, .int .i64 kk, .bool more] w fun e w' => e = .returned (.bool true) ∧ Fr (fun _ => False) w w' := by
  obtain ⟨w1, hw1⟩ : ∃ w1, w.alloc (.cells (mcs m) 23) = w1 := ⟨_, rfl⟩
  have hbx1 : Bx w1 w.heap.size 0 m := by rw [← hw1]; exact Bx.new w 23 m
  have hf1 : Fr (fun _ => False) w w1 := by rw [← hw1]; exact (Fr.refl _ _).alloc _
  have CK := Lib.hid (known_any w1)
  have CR := Lib.hid (right_any m hm)
  have CV := Lib.hid (fun A N c y w' h => votes_any m hm A N c y w' h)
  have HRD := Lib.hid hrd
  clear hrd
  unfold mcs at hw1
  unfold mv at CR CV ⊢
  go_enter Try.func7, Try.ntmps7
  go_wp2_with fail
  refine CK.out.mono ?_; rintro e w2 ⟨rfl, hf2⟩
  have hbx2 := hbx1.fr hf2 (fun h => h)
  have hF2 := hf1.trans hf2 (fun _ _ h => h)
  have hb2 : ∀ k, k < 9 → w2.cell? ⟨w.heap.size, k, none⟩ = some (.int .u8 (m k)) := fun k hk => hbx2.at0 hk
  clear hw1
  go_wp2_with fail
  refine (CR.out _).mono ?_; rintro e w3 ⟨rfl, hf3⟩
  have HB3 := Lib.hid (hbx2.fr hf3 (fun h => h))
  have HF3 := Lib.hid (hF2.trans hf3 (fun _ _ h => h))
  clear hb2 hf1 hf2 hf3 hF2 hbx1 hbx2 CK
  by_cases hR : rightP m
  · rw [rightB_yes hR]
    by_cases h9 : N ≤ 9
    · have d1 : decide ((9 : Int) < (N : Int)) = false := decide_eq_false (by omega)
      have d1n : decide (9 < N) = false := decide_eq_false (by omega)
      by_cases hk0 : kk < 0
      · have d2 : decide (kk < 0) = true := decide_eq_true hk0
        go_wp2
        go_ret
        exact ⟨rfl, HF3.out⟩
      · have d2 : decide (kk < 0) = false := decide_eq_false hk0
        obtain ⟨k, rfl⟩ := Int.eq_ofNat_of_zero_le (show 0 ≤ kk by omega)
        by_cases hkN : k < N
        · have d3 : decide ((N : Int) ≤ (k : Int)) = false := decide_eq_false (by omega)
          have d3n : decide (N ≤ k) = false := decide_eq_false (by omega)
          obtain ⟨bb, oo, rfl, hcc⟩ := (HRD.out.fr0 HF3.out) (by omega)
          have C3 := Lib.hid (CV.out _ N c y w3 (HRD.out.fr0 HF3.out))
          have hb3 : ∀ k, k < 9 → w3.cell? ⟨w.heap.size, k, none⟩ = some (.int .u8 (m k)) := fun k hk => HB3.out.at0 hk
          have HKN := Lib.hid hkN
          have H9 := Lib.hid h9
          have hkI : (k : Int) < N := by omega
          clear hR h9 hk0 hkN hcc CR
          go_wp2_with fail
          refine C3.out.mono ?_; rintro e w4 ⟨rfl, hf4⟩
          have HF4 := Lib.hid (HF3.out.trans hf4 (fun _ _ h => h))
          have HB4 := Lib.hid (HB3.out.fr hf4 (fun h => h))
          clear hb3 hf4 C3 d1 d1n d2 d3 d3n
          have HWL := Lib.hid (fun (h : wonB m N y = true) => won_not_lost h)
          have hrd4 := HRD.out.fr0 HF4.out
          obtain ⟨b1, o1, e1, hcc⟩ := hrd4 (by have := HKN.out; omega)
          injection e1 with e1
          injection e1 with e1 e2
          subst e1 e2
          have HC4 := Lib.hid hcc
          clear hcc hrd4
          have HO := Lib.hid (OB.new w4 4 (fun _ => false))
          have HFA : Hid (Fr (fun _ => False) w4 (w4.alloc (.cells #[] 4))) := Lib.hid ((Fr.refl _ _).alloc _)
          have hcA : ∀ j, j < N → (w4.alloc (.cells #[] 4)).cell? ⟨bb, oo + j, none⟩ = some (.bool (y j)) := fun j hj => by
            rw [← HC4.out j hj]; exact HFA.out.cell (p := ⟨bb, oo + j, none⟩) (World.block_lt_of_cell? w4 _ (HC4.out j hj)) (fun h => h)
          have HCA := Lib.hid hcA
          clear hcA
          cases hwv : wonB m N y with
          | true =>
            have hlv := HWL.out hwv
            rw [hlv]
            clear HWL
            have HWW := Lib.hid (won_mono (m := m) (N := N) (N2 := N) (y := y) (y2 := (fun j => if j = k then true else app (fun _ => false) 0 y j)) (fun j hj h => ⟨hj, by rw [app0, h]; simp⟩))
            have HLL := Lib.hid (lost_mono (m := m) (N := N) (N2 := N) (y := (fun j => if j = k then true else app (fun _ => false) 0 y j)) (y2 := y) (fun j hj h => ⟨hj, by
              rw [app0] at h
              by_cases e : j = k
              · rw [if_pos e] at h; cases h
              · rw [if_neg e] at h; exact h⟩))
            have HW3 := Lib.hid (won_mono (m := m) (N := N) (N2 := N + 1) (y := y) (y2 := (app (app (fun _ => false) 0 y) N (fun _ => more))) (fun j hj h => ⟨by omega, by show (if j < N then app (fun _ => false) 0 y j else more) = true; rw [if_pos hj, app0, h]⟩))
            have HL3 := Lib.hid (lost_mono (m := m) (N := N) (N2 := N + 1) (y := y) (y2 := (app (app (fun _ => false) 0 y) N (fun _ => more))) (fun j hj h => ⟨by omega, by show (if j < N then app (fun _ => false) 0 y j else more) = false; rw [if_pos hj, app0, h]⟩))
            rw [hwv] at HWW HW3
            rw [hlv] at HLL HL3
            clear hwv hlv
            go_wp2_with (at_builtin; (refine wpList_appB _ rfl (.tmp 47) (.tmp 48) Try.underlying24 Try.infoB rfl rfl HO.out bb oo N c y rfl HCA.out (by have := HKN.out; omega) (by have := H9.out; omega) ?_; intro q c1 w5 ho5 hf5 hq5; rw [Nat.zero_add] at ho5; have hck := ho5.cell HKN.out; have hfk := ho5.frozen k; have hqs : w4.heap.size ≤ q := (by rcases hq5 with e | e; omega; rw [e, World.size_alloc]; omega); have HF5 : Hid (Fr (fun _ => False) w4 w5) := Lib.hid (HFA.out.trans hf5 (fun x hx e => by omega)); have HFS : Hid (Fr (fun _ => False) w4 (w5.setCell ⟨q, k, none⟩ (.bool true))) := Lib.hid (HF5.out.setCell (p := ⟨q, k, none⟩) (fun h => absurd (show q < w4.heap.size from h) (by omega)) _); have hbS : ∀ k2, k2 < 9 → (w5.setCell ⟨q, k, none⟩ (.bool true)).cell? ⟨w.heap.size, k2, none⟩ = some (.int .u8 (m k2)) := (fun k2 hk2 => (HB4.out.fr HFS.out (fun h => h)).at0 hk2); have HRS := Lib.hid (ho5.set HKN.out true); clear hf5 ho5 hq5))
            refine (CV.out _ N c1 (fun j => if j = k then true else app (fun _ => false) 0 y j) _ HRS.out).mono ?_; rintro e w6 ⟨rfl, hf6⟩
            have HF46 := Lib.hid (HFS.out.trans hf6 (fun _ _ h => h))
            have HF6 := Lib.hid (HF4.out.trans HF46.out (fun _ _ h => h))
            have HB6 := Lib.hid (HB4.out.fr HF46.out (fun h => h))
            have HO6 := Lib.hid (OB.new w6 4 (fun _ => false))
            have HFA6 : Hid (Fr (fun _ => False) w6 (w6.alloc (.cells #[] 4))) := Lib.hid ((Fr.refl _ _).alloc _)
            have HC6 : Hid (∀ j, j < N → (w6.alloc (.cells #[] 4)).cell? ⟨bb, oo + j, none⟩ = some (.bool (y j))) := Lib.hid (fun j hj => by
              rw [← HC4.out j hj]; exact (HF46.out.trans HFA6.out (fun _ _ h => h)).cell (p := ⟨bb, oo + j, none⟩) (World.block_lt_of_cell? w4 _ (HC4.out j hj)) (fun h => h))
            clear hf6 hbS hck hfk HRS HO HFA HCA HFS HF5
            obtain ⟨wv2, hwv2⟩ : ∃ b, wonB m N (fun j => if j = k then true else app (fun _ => false) 0 y j) = b := ⟨_, rfl⟩
            obtain ⟨lv2, hlv2⟩ : ∃ b, lostB m N (fun j => if j = k then true else app (fun _ => false) 0 y j) = b := ⟨_, rfl⟩
            rw [hwv2] at HWW
            rw [hlv2] at HLL
            have hwt := HWW.out trivial
            subst hwt
            have hlf : lv2 = false := by cases lv2; rfl; exact absurd (HLL.out rfl) (by decide)
            subst hlf
            rw [hwv2, hlv2]
            clear hwv2 hlv2 HWW HLL
            go_wp2_with (first | (at_builtin; (refine wpList_appB _ rfl (.tmp 71) (.tmp 72) Try.underlying24 Try.infoB rfl rfl HO6.out bb oo N c y rfl HC6.out (by have := HKN.out; omega) (by have := H9.out; omega) ?_; intro q7 c7 w7 ho7 hf7 hq7; rw [Nat.zero_add] at ho7; have hqs7 : w6.heap.size ≤ q7 := (by rcases hq7 with e | e; omega; rw [e, World.size_alloc]; omega); have HF67 : Hid (Fr (fun _ => False) w6 w7) := Lib.hid (HFA6.out.trans hf7 (fun x hx e => by omega)); have HO7 := Lib.hid (ho7.fr ((Fr.refl (fun _ => False) w7).alloc (.cells #[.bool more] 4)) (fun h => h)); have hlt7 : q7 < w7.heap.size := (by obtain ⟨cur, hb, _⟩ := ho7.bk; exact hb.lt); clear ho7 hf7 hq7)) | (at_builtin; (refine wpList_appB _ rfl (.tmp 73) (.tmp 75) Try.underlying24 Try.infoB rfl rfl HO7.out w7.heap.size 0 1 1 (fun _ => more) rfl (fun j hj => by have : j = 0 := (by omega); subst this; exact (Bk.new w7 4 #[.bool more]).cell 0) (by omega) (by have := H9.out; omega) ?_; intro q8 c8 w8 ho8 hf8 hq8; have hqs8 : w6.heap.size ≤ q8 := (by have := HF67.out.size; rcases hq8 with e | e; omega; rw [e, World.size_alloc]; omega); have HF68 : Hid (Fr (fun _ => False) w6 w8) := Lib.hid ((HF67.out.alloc _).trans hf8 (fun x hx e => by omega)); have hb8 : ∀ k2, k2 < 9 → w8.cell? ⟨w.heap.size, k2, none⟩ = some (.int .u8 (m k2)) := (fun k2 hk2 => (HB6.out.fr HF68.out (fun h => h)).at0 hk2); have HR8 := Lib.hid ho8.rd; clear ho8 hf8 hq8)))
            refine (CV.out _ (N + 1) c8 (app (app (fun _ => false) 0 y) N (fun _ => more)) _ HR8.out).mono ?_; rintro e w9 ⟨rfl, hf9⟩
            have HF9 := Lib.hid ((HF6.out.trans HF68.out (fun _ _ h => h)).trans hf9 (fun _ _ h => h))
            clear hb8 hf9
            obtain ⟨wv3, hwv3⟩ : ∃ b, wonB m (N + 1) (app (app (fun _ => false) 0 y) N (fun _ => more)) = b := ⟨_, rfl⟩
            obtain ⟨lv3, hlv3⟩ : ∃ b, lostB m (N + 1) (app (app (fun _ => false) 0 y) N (fun _ => more)) = b := ⟨_, rfl⟩
            rw [hwv3] at HW3
            rw [hlv3] at HL3
            have hwt3 := HW3.out trivial
            subst hwt3
            rw [hwv3, hlv3]
            clear hwv3 hlv3 HW3 HL3
            go_wp2
            go_ret
            exact ⟨rfl, HF9.out⟩
          | false =>
            clear HWL
            cases hlv : lostB m N y with
            | true =>
              have HWW := Lib.hid (won_mono (m := m) (N := N) (N2 := N) (y := y) (y2 := (fun j => if j = k then true else app (fun _ => false) 0 y j)) (fun j hj h => ⟨hj, by rw [app0, h]; simp⟩))
              have HLL := Lib.hid (lost_mono (m := m) (N := N) (N2 := N) (y := (fun j => if j = k then true else app (fun _ => false) 0 y j)) (y2 := y) (fun j hj h => ⟨hj, by
                rw [app0] at h
                by_cases e : j = k
                · rw [if_pos e] at h; cases h
                · rw [if_neg e] at h; exact h⟩))
              have HW3 := Lib.hid (won_mono (m := m) (N := N) (N2 := N + 1) (y := y) (y2 := (app (app (fun _ => false) 0 y) N (fun _ => more))) (fun j hj h => ⟨by omega, by show (if j < N then app (fun _ => false) 0 y j else more) = true; rw [if_pos hj, app0, h]⟩))
              have HL3 := Lib.hid (lost_mono (m := m) (N := N) (N2 := N + 1) (y := y) (y2 := (app (app (fun _ => false) 0 y) N (fun _ => more))) (fun j hj h => ⟨by omega, by show (if j < N then app (fun _ => false) 0 y j else more) = false; rw [if_pos hj, app0, h]⟩))
              rw [hwv] at HWW HW3
              rw [hlv] at HLL HL3
              clear hwv hlv
              go_wp2_with (at_builtin; (refine wpList_appB _ rfl (.tmp 47) (.tmp 48) Try.underlying24 Try.infoB rfl rfl HO.out bb oo N c y rfl HCA.out (by have := HKN.out; omega) (by have := H9.out; omega) ?_; intro q c1 w5 ho5 hf5 hq5; rw [Nat.zero_add] at ho5; have hck := ho5.cell HKN.out; have hfk := ho5.frozen k; have hqs : w4.heap.size ≤ q := (by rcases hq5 with e | e; omega; rw [e, World.size_alloc]; omega); have HF5 : Hid (Fr (fun _ => False) w4 w5) := Lib.hid (HFA.out.trans hf5 (fun x hx e => by omega)); have HFS : Hid (Fr (fun _ => False) w4 (w5.setCell ⟨q, k, none⟩ (.bool true))) := Lib.hid (HF5.out.setCell (p := ⟨q, k, none⟩) (fun h => absurd (show q < w4.heap.size from h) (by omega)) _); have hbS : ∀ k2, k2 < 9 → (w5.setCell ⟨q, k, none⟩ (.bool true)).cell? ⟨w.heap.size, k2, none⟩ = some (.int .u8 (m k2)) := (fun k2 hk2 => (HB4.out.fr HFS.out (fun h => h)).at0 hk2); have HRS := Lib.hid (ho5.set HKN.out true); clear hf5 ho5 hq5))
              refine (CV.out _ N c1 (fun j => if j = k then true else app (fun _ => false) 0 y j) _ HRS.out).mono ?_; rintro e w6 ⟨rfl, hf6⟩
              have HF46 := Lib.hid (HFS.out.trans hf6 (fun _ _ h => h))
              have HF6 := Lib.hid (HF4.out.trans HF46.out (fun _ _ h => h))
              have HB6 := Lib.hid (HB4.out.fr HF46.out (fun h => h))
              have HO6 := Lib.hid (OB.new w6 4 (fun _ => false))
              have HFA6 : Hid (Fr (fun _ => False) w6 (w6.alloc (.cells #[] 4))) := Lib.hid ((Fr.refl _ _).alloc _)
              have HC6 : Hid (∀ j, j < N → (w6.alloc (.cells #[] 4)).cell? ⟨bb, oo + j, none⟩ = some (.bool (y j))) := Lib.hid (fun j hj => by
                rw [← HC4.out j hj]; exact (HF46.out.trans HFA6.out (fun _ _ h => h)).cell (p := ⟨bb, oo + j, none⟩) (World.block_lt_of_cell? w4 _ (HC4.out j hj)) (fun h => h))
              clear hf6 hbS hck hfk HRS HO HFA HCA HFS HF5
              obtain ⟨wv2, hwv2⟩ : ∃ b, wonB m N (fun j => if j = k then true else app (fun _ => false) 0 y j) = b := ⟨_, rfl⟩
              obtain ⟨lv2, hlv2⟩ : ∃ b, lostB m N (fun j => if j = k then true else app (fun _ => false) 0 y j) = b := ⟨_, rfl⟩
              rw [hwv2] at HWW
              rw [hlv2] at HLL
              rw [hwv2, hlv2]
              clear hwv2 hlv2 HWW HLL
              cases lv2 with
              | true =>
                go_wp2_with (first | (at_builtin; (refine wpList_appB _ rfl (.tmp 71) (.tmp 72) Try.underlying24 Try.infoB rfl rfl HO6.out bb oo N c y rfl HC6.out (by have := HKN.out; omega) (by have := H9.out; omega) ?_; intro q7 c7 w7 ho7 hf7 hq7; rw [Nat.zero_add] at ho7; have hqs7 : w6.heap.size ≤ q7 := (by rcases hq7 with e | e; omega; rw [e, World.size_alloc]; omega); have HF67 : Hid (Fr (fun _ => False) w6 w7) := Lib.hid (HFA6.out.trans hf7 (fun x hx e => by omega)); have HO7 := Lib.hid (ho7.fr ((Fr.refl (fun _ => False) w7).alloc (.cells #[.bool more] 4)) (fun h => h)); have hlt7 : q7 < w7.heap.size := (by obtain ⟨cur, hb, _⟩ := ho7.bk; exact hb.lt); clear ho7 hf7 hq7)) | (at_builtin; (refine wpList_appB _ rfl (.tmp 73) (.tmp 75) Try.underlying24 Try.infoB rfl rfl HO7.out w7.heap.size 0 1 1 (fun _ => more) rfl (fun j hj => by have : j = 0 := (by omega); subst this; exact (Bk.new w7 4 #[.bool more]).cell 0) (by omega) (by have := H9.out; omega) ?_; intro q8 c8 w8 ho8 hf8 hq8; have hqs8 : w6.heap.size ≤ q8 := (by have := HF67.out.size; rcases hq8 with e | e; omega; rw [e, World.size_alloc]; omega); have HF68 : Hid (Fr (fun _ => False) w6 w8) := Lib.hid ((HF67.out.alloc _).trans hf8 (fun x hx e => by omega)); have hb8 : ∀ k2, k2 < 9 → w8.cell? ⟨w.heap.size, k2, none⟩ = some (.int .u8 (m k2)) := (fun k2 hk2 => (HB6.out.fr HF68.out (fun h => h)).at0 hk2); have HR8 := Lib.hid ho8.rd; clear ho8 hf8 hq8)))
                refine (CV.out _ (N + 1) c8 (app (app (fun _ => false) 0 y) N (fun _ => more)) _ HR8.out).mono ?_; rintro e w9 ⟨rfl, hf9⟩
                have HF9 := Lib.hid ((HF6.out.trans HF68.out (fun _ _ h => h)).trans hf9 (fun _ _ h => h))
                clear hb8 hf9
                obtain ⟨wv3, hwv3⟩ : ∃ b, wonB m (N + 1) (app (app (fun _ => false) 0 y) N (fun _ => more)) = b := ⟨_, rfl⟩
                obtain ⟨lv3, hlv3⟩ : ∃ b, lostB m (N + 1) (app (app (fun _ => false) 0 y) N (fun _ => more)) = b := ⟨_, rfl⟩
                rw [hwv3] at HW3
                rw [hlv3] at HL3
                have hlt3 := HL3.out trivial
                subst hlt3
                rw [hwv3, hlv3]
                clear hwv3 hlv3 HW3 HL3
                go_wp2
                go_ret
                exact ⟨rfl, HF9.out⟩
              | false =>
                go_wp2_with (first | (at_builtin; (refine wpList_appB _ rfl (.tmp 71) (.tmp 72) Try.underlying24 Try.infoB rfl rfl HO6.out bb oo N c y rfl HC6.out (by have := HKN.out; omega) (by have := H9.out; omega) ?_; intro q7 c7 w7 ho7 hf7 hq7; rw [Nat.zero_add] at ho7; have hqs7 : w6.heap.size ≤ q7 := (by rcases hq7 with e | e; omega; rw [e, World.size_alloc]; omega); have HF67 : Hid (Fr (fun _ => False) w6 w7) := Lib.hid (HFA6.out.trans hf7 (fun x hx e => by omega)); have HO7 := Lib.hid (ho7.fr ((Fr.refl (fun _ => False) w7).alloc (.cells #[.bool more] 4)) (fun h => h)); have hlt7 : q7 < w7.heap.size := (by obtain ⟨cur, hb, _⟩ := ho7.bk; exact hb.lt); clear ho7 hf7 hq7)) | (at_builtin; (refine wpList_appB _ rfl (.tmp 73) (.tmp 75) Try.underlying24 Try.infoB rfl rfl HO7.out w7.heap.size 0 1 1 (fun _ => more) rfl (fun j hj => by have : j = 0 := (by omega); subst this; exact (Bk.new w7 4 #[.bool more]).cell 0) (by omega) (by have := H9.out; omega) ?_; intro q8 c8 w8 ho8 hf8 hq8; have hqs8 : w6.heap.size ≤ q8 := (by have := HF67.out.size; rcases hq8 with e | e; omega; rw [e, World.size_alloc]; omega); have HF68 : Hid (Fr (fun _ => False) w6 w8) := Lib.hid ((HF67.out.alloc _).trans hf8 (fun x hx e => by omega)); have hb8 : ∀ k2, k2 < 9 → w8.cell? ⟨w.heap.size, k2, none⟩ = some (.int .u8 (m k2)) := (fun k2 hk2 => (HB6.out.fr HF68.out (fun h => h)).at0 hk2); have HR8 := Lib.hid ho8.rd; clear ho8 hf8 hq8)))
                refine (CV.out _ (N + 1) c8 (app (app (fun _ => false) 0 y) N (fun _ => more)) _ HR8.out).mono ?_; rintro e w9 ⟨rfl, hf9⟩
                have HF9 := Lib.hid ((HF6.out.trans HF68.out (fun _ _ h => h)).trans hf9 (fun _ _ h => h))
                clear hb8 hf9
                obtain ⟨wv3, hwv3⟩ : ∃ b, wonB m (N + 1) (app (app (fun _ => false) 0 y) N (fun _ => more)) = b := ⟨_, rfl⟩
                obtain ⟨lv3, hlv3⟩ : ∃ b, lostB m (N + 1) (app (app (fun _ => false) 0 y) N (fun _ => more)) = b := ⟨_, rfl⟩
                rw [hwv3] at HW3
                rw [hlv3] at HL3
                have hlt3 := HL3.out trivial
                subst hlt3
                rw [hwv3, hlv3]
                clear hwv3 hlv3 HW3 HL3
                go_wp2
                go_ret
                exact ⟨rfl, HF9.out⟩
            | false =>
              have HWW := Lib.hid (won_mono (m := m) (N := N) (N2 := N) (y := y) (y2 := (fun j => if j = k then true else app (fun _ => false) 0 y j)) (fun j hj h => ⟨hj, by rw [app0, h]; simp⟩))
              have HLL := Lib.hid (lost_mono (m := m) (N := N) (N2 := N) (y := (fun j => if j = k then true else app (fun _ => false) 0 y j)) (y2 := y) (fun j hj h => ⟨hj, by
                rw [app0] at h
                by_cases e : j = k
                · rw [if_pos e] at h; cases h
                · rw [if_neg e] at h; exact h⟩))
              have HW3 := Lib.hid (won_mono (m := m) (N := N) (N2 := N + 1) (y := y) (y2 := (app (app (fun _ => false) 0 y) N (fun _ => more))) (fun j hj h => ⟨by omega, by show (if j < N then app (fun _ => false) 0 y j else more) = true; rw [if_pos hj, app0, h]⟩))
              have HL3 := Lib.hid (lost_mono (m := m) (N := N) (N2 := N + 1) (y := y) (y2 := (app (app (fun _ => false) 0 y) N (fun _ => more))) (fun j hj h => ⟨by omega, by show (if j < N then app (fun _ => false) 0 y j else more) = false; rw [if_pos hj, app0, h]⟩))
              rw [hwv] at HWW HW3
              rw [hlv] at HLL HL3
              clear hwv hlv
              go_wp2_with (at_builtin; (refine wpList_appB _ rfl (.tmp 47) (.tmp 48) Try.underlying24 Try.infoB rfl rfl HO.out bb oo N c y rfl HCA.out (by have := HKN.out; omega) (by have := H9.out; omega) ?_; intro q c1 w5 ho5 hf5 hq5; rw [Nat.zero_add] at ho5; have hck := ho5.cell HKN.out; have hfk := ho5.frozen k; have hqs : w4.heap.size ≤ q := (by rcases hq5 with e | e; omega; rw [e, World.size_alloc]; omega); have HF5 : Hid (Fr (fun _ => False) w4 w5) := Lib.hid (HFA.out.trans hf5 (fun x hx e => by omega)); have HFS : Hid (Fr (fun _ => False) w4 (w5.setCell ⟨q, k, none⟩ (.bool true))) := Lib.hid (HF5.out.setCell (p := ⟨q, k, none⟩) (fun h => absurd (show q < w4.heap.size from h) (by omega)) _); have hbS : ∀ k2, k2 < 9 → (w5.setCell ⟨q, k, none⟩ (.bool true)).cell? ⟨w.heap.size, k2, none⟩ = some (.int .u8 (m k2)) := (fun k2 hk2 => (HB4.out.fr HFS.out (fun h => h)).at0 hk2); have HRS := Lib.hid (ho5.set HKN.out true); clear hf5 ho5 hq5))
              refine (CV.out _ N c1 (fun j => if j = k then true else app (fun _ => false) 0 y j) _ HRS.out).mono ?_; rintro e w6 ⟨rfl, hf6⟩
              have HF46 := Lib.hid (HFS.out.trans hf6 (fun _ _ h => h))
              have HF6 := Lib.hid (HF4.out.trans HF46.out (fun _ _ h => h))
              have HB6 := Lib.hid (HB4.out.fr HF46.out (fun h => h))
              have HO6 := Lib.hid (OB.new w6 4 (fun _ => false))
              have HFA6 : Hid (Fr (fun _ => False) w6 (w6.alloc (.cells #[] 4))) := Lib.hid ((Fr.refl _ _).alloc _)
              have HC6 : Hid (∀ j, j < N → (w6.alloc (.cells #[] 4)).cell? ⟨bb, oo + j, none⟩ = some (.bool (y j))) := Lib.hid (fun j hj => by
                rw [← HC4.out j hj]; exact (HF46.out.trans HFA6.out (fun _ _ h => h)).cell (p := ⟨bb, oo + j, none⟩) (World.block_lt_of_cell? w4 _ (HC4.out j hj)) (fun h => h))
              clear hf6 hbS hck hfk HRS HO HFA HCA HFS HF5
              obtain ⟨wv2, hwv2⟩ : ∃ b, wonB m N (fun j => if j = k then true else app (fun _ => false) 0 y j) = b := ⟨_, rfl⟩
              obtain ⟨lv2, hlv2⟩ : ∃ b, lostB m N (fun j => if j = k then true else app (fun _ => false) 0 y j) = b := ⟨_, rfl⟩
              rw [hwv2] at HWW
              rw [hlv2] at HLL
              have hlf : lv2 = false := by cases lv2; rfl; exact absurd (HLL.out rfl) (by decide)
              subst hlf
              rw [hwv2, hlv2]
              clear hwv2 hlv2 HWW HLL
              cases wv2 with
              | true =>
                go_wp2_with (first | (at_builtin; (refine wpList_appB _ rfl (.tmp 71) (.tmp 72) Try.underlying24 Try.infoB rfl rfl HO6.out bb oo N c y rfl HC6.out (by have := HKN.out; omega) (by have := H9.out; omega) ?_; intro q7 c7 w7 ho7 hf7 hq7; rw [Nat.zero_add] at ho7; have hqs7 : w6.heap.size ≤ q7 := (by rcases hq7 with e | e; omega; rw [e, World.size_alloc]; omega); have HF67 : Hid (Fr (fun _ => False) w6 w7) := Lib.hid (HFA6.out.trans hf7 (fun x hx e => by omega)); have HO7 := Lib.hid (ho7.fr ((Fr.refl (fun _ => False) w7).alloc (.cells #[.bool more] 4)) (fun h => h)); have hlt7 : q7 < w7.heap.size := (by obtain ⟨cur, hb, _⟩ := ho7.bk; exact hb.lt); clear ho7 hf7 hq7)) | (at_builtin; (refine wpList_appB _ rfl (.tmp 73) (.tmp 75) Try.underlying24 Try.infoB rfl rfl HO7.out w7.heap.size 0 1 1 (fun _ => more) rfl (fun j hj => by have : j = 0 := (by omega); subst this; exact (Bk.new w7 4 #[.bool more]).cell 0) (by omega) (by have := H9.out; omega) ?_; intro q8 c8 w8 ho8 hf8 hq8; have hqs8 : w6.heap.size ≤ q8 := (by have := HF67.out.size; rcases hq8 with e | e; omega; rw [e, World.size_alloc]; omega); have HF68 : Hid (Fr (fun _ => False) w6 w8) := Lib.hid ((HF67.out.alloc _).trans hf8 (fun x hx e => by omega)); have hb8 : ∀ k2, k2 < 9 → w8.cell? ⟨w.heap.size, k2, none⟩ = some (.int .u8 (m k2)) := (fun k2 hk2 => (HB6.out.fr HF68.out (fun h => h)).at0 hk2); have HR8 := Lib.hid ho8.rd; clear ho8 hf8 hq8)))
                refine (CV.out _ (N + 1) c8 (app (app (fun _ => false) 0 y) N (fun _ => more)) _ HR8.out).mono ?_; rintro e w9 ⟨rfl, hf9⟩
                have HF9 := Lib.hid ((HF6.out.trans HF68.out (fun _ _ h => h)).trans hf9 (fun _ _ h => h))
                clear hb8 hf9
                obtain ⟨wv3, hwv3⟩ : ∃ b, wonB m (N + 1) (app (app (fun _ => false) 0 y) N (fun _ => more)) = b := ⟨_, rfl⟩
                obtain ⟨lv3, hlv3⟩ : ∃ b, lostB m (N + 1) (app (app (fun _ => false) 0 y) N (fun _ => more)) = b := ⟨_, rfl⟩
                rw [hwv3] at HW3
                rw [hlv3] at HL3
                rw [hwv3, hlv3]
                clear hwv3 hlv3 HW3 HL3
                go_wp2
                go_ret
                exact ⟨rfl, HF9.out⟩
              | false =>
                go_wp2_with (first | (at_builtin; (refine wpList_appB _ rfl (.tmp 71) (.tmp 72) Try.underlying24 Try.infoB rfl rfl HO6.out bb oo N c y rfl HC6.out (by have := HKN.out; omega) (by have := H9.out; omega) ?_; intro q7 c7 w7 ho7 hf7 hq7; rw [Nat.zero_add] at ho7; have hqs7 : w6.heap.size ≤ q7 := (by rcases hq7 with e | e; omega; rw [e, World.size_alloc]; omega); have HF67 : Hid (Fr (fun _ => False) w6 w7) := Lib.hid (HFA6.out.trans hf7 (fun x hx e => by omega)); have HO7 := Lib.hid (ho7.fr ((Fr.refl (fun _ => False) w7).alloc (.cells #[.bool more] 4)) (fun h => h)); have hlt7 : q7 < w7.heap.size := (by obtain ⟨cur, hb, _⟩ := ho7.bk; exact hb.lt); clear ho7 hf7 hq7)) | (at_builtin; (refine wpList_appB _ rfl (.tmp 73) (.tmp 75) Try.underlying24 Try.infoB rfl rfl HO7.out w7.heap.size 0 1 1 (fun _ => more) rfl (fun j hj => by have : j = 0 := (by omega); subst this; exact (Bk.new w7 4 #[.bool more]).cell 0) (by omega) (by have := H9.out; omega) ?_; intro q8 c8 w8 ho8 hf8 hq8; have hqs8 : w6.heap.size ≤ q8 := (by have := HF67.out.size; rcases hq8 with e | e; omega; rw [e, World.size_alloc]; omega); have HF68 : Hid (Fr (fun _ => False) w6 w8) := Lib.hid ((HF67.out.alloc _).trans hf8 (fun x hx e => by omega)); have hb8 : ∀ k2, k2 < 9 → w8.cell? ⟨w.heap.size, k2, none⟩ = some (.int .u8 (m k2)) := (fun k2 hk2 => (HB6.out.fr HF68.out (fun h => h)).at0 hk2); have HR8 := Lib.hid ho8.rd; clear ho8 hf8 hq8)))
                refine (CV.out _ (N + 1) c8 (app (app (fun _ => false) 0 y) N (fun _ => more)) _ HR8.out).mono ?_; rintro e w9 ⟨rfl, hf9⟩
                have HF9 := Lib.hid ((HF6.out.trans HF68.out (fun _ _ h => h)).trans hf9 (fun _ _ h => h))
                clear hb8 hf9
                obtain ⟨wv3, hwv3⟩ : ∃ b, wonB m (N + 1) (app (app (fun _ => false) 0 y) N (fun _ => more)) = b := ⟨_, rfl⟩
                obtain ⟨lv3, hlv3⟩ : ∃ b, lostB m (N + 1) (app (app (fun _ => false) 0 y) N (fun _ => more)) = b := ⟨_, rfl⟩
                rw [hwv3] at HW3
                rw [hlv3] at HL3
                rw [hwv3, hlv3]
                clear hwv3 hlv3 HW3 HL3
                go_wp2
                go_ret
                exact ⟨rfl, HF9.out⟩
        · have d3 : decide ((N : Int) ≤ (k : Int)) = true := decide_eq_true (by omega)
          have d3n : decide (N ≤ k) = true := decide_eq_true (by omega)
          go_wp2
          go_ret
          exact ⟨rfl, HF3.out⟩
    · have d1 : decide ((9 : Int) < (N : Int)) = true := decide_eq_true (by omega)
      have d1n : decide (9 < N) = true := decide_eq_true (by omega)
      go_wp2
      go_ret
      exact ⟨rfl, HF3.out⟩
  · rw [rightB_no hR]
    go_wp2
    go_ret
    exact ⟨rfl, HF3.out⟩
end Go.Proofs.Ytiinkjplhihdaaa
