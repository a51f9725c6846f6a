/- QuorumMembers, walked. -/
import Derived.Test.YtiinkjplhihdaaaPb
import Derived.Test.YtiinkjplhihdaaaPc
import Derived.Test.YtiinkjplhihdaaaPd
import Derived.Test.YtiinkjplhihdaaaPe
import Derived.Test.YtiinkjplhihdaaaPf
import Derived.Test.YtiinkjplhihdaaaOn
import Derived.Deep.DeepCutAuto
namespace Go.Proofs.Ytiinkjplhihdaaa
open Go.RowKit Go.Shelf

attribute [local go_sem] Oper.semAt_some

set_option maxRecDepth 100000 in
set_option maxHeartbeats 16000000 in
theorem lawMembers_any (m : Nat → Int) (A1 : Option Addr) (N1 c1 : Nat) (y : Nat → Bool) (A2 : Option Addr) (N2 c2 : Nat) (t : Nat → Int) (node role : Int) (A3 : Option Addr) (N3 c3 : Nat) (x : Nat → Int) (w : World)
    (hm : ∀ k, 0 ≤ m k ∧ m k < 256) (h1 : RdF w A1 N1 (fun j => .bool (y j))) (h2 : RdF w A2 N2 (fun j => .int .i64 (t j))) (h3 : RdF w A3 N3 (fun j => .int .u8 (x j)))
    (hN1 : (N1 : Int) ≤ 9223372036854775807) (hN2 : (N2 : Int) ≤ 9223372036854775807) (hx : ∀ k, 0 ≤ x k ∧ x k < 256) (hN3 : (N3 : Int) ≤ 9223372036854775807) :
    Calls Try.prog 3 #[mv m, .slice A1 N1 c1, .slice A2 N2 c2, .int .i64 node, .int .i64 role, .slice A3 N3 c3] w fun e w' => e = .returned (.bool true) ∧ Fr (fun _ => False) w w' := by
  obtain ⟨w1, hw1⟩ : ∃ w1, (w.alloc (.cells (mcs m) 23)).alloc (.cells #[.bool false] 4) = w1 := ⟨_, rfl⟩
  have HF1 : Hid (Fr (fun _ => False) w w1) := Lib.hid (by rw [← hw1]; exact ((Fr.refl _ _).alloc _).alloc _)
  have HM1 : Hid (Bx w1 w.heap.size 0 m) := Lib.hid (by rw [← hw1]; exact (Bx.new w 23 m).fr ((Fr.refl (fun _ => False) _).alloc _) (fun h => h))
  have HR1 : Hid (Bk w1 (w.heap.size + 1) 4 #[.bool false]) := Lib.hid (by rw [← hw1]; have := Bk.new (w.alloc (.cells (mcs m) 23)) 4 #[.bool false]; simpa using this)
  have H1 := Lib.hid (fun w' (hf : Fr (fun _ => False) w w') => h1.fr0 hf)
  have H2 := Lib.hid (fun w' (hf : Fr (fun _ => False) w w') => h2.fr0 hf)
  have H3 := Lib.hid (fun w' (hf : Fr (fun _ => False) w w') => h3.fr0 hf)
  have HMM := Lib.hid hm
  have HXX := Lib.hid hx
  clear h1 h2 h3 hm hx
  unfold mcs at hw1
  unfold mv
  refine (callsIn_wide (n := 30)).1 (callsIn_of_wp_marks Try.func3 rfl trivial (wpIn_wide.2 (noPanic_wp ?_)) rfl)
  simp only [Try.ntmps3, List.size_toArray, List.length_cons, List.length_nil, Nat.reduceAdd, Nat.reduceSub, Array.replicate_succ, Array.replicate_zero, List.push_toArray, List.append_toArray, List.nil_append, List.cons_append]
  have CK := Lib.hid (known_any w1)
  go_wp2_with fail
  refine CK.out.mono ?_; rintro e w2 ⟨rfl, hf2⟩
  have HF2 := Lib.hid (HF1.out.trans hf2 (fun _ _ h => h))
  have HM2 := Lib.hid (HM1.out.fr hf2 (fun h => h))
  have HR2 := Lib.hid (HR1.out.fr hf2 (fun h => h))
  have hc2 := HR2.out.cell 0
  have hf0 := HR2.out.frozen 0
  simp only [List.getElem?_toArray, List.getElem?_cons_zero] at hc2
  clear hw1 hf2
  by_cases h100 : N3 ≤ 100
  · have e1 : decide ((100 : Int) < (N3 : Int)) = false := decide_eq_false (by omega)
    have e1n : decide (100 < N3) = false := decide_eq_false (by omega)
    by_cases h200 : N1 ≤ 100
    · have e2 : decide ((100 : Int) < (N1 : Int)) = false := decide_eq_false (by omega)
      have e2n : decide (100 < N1) = false := decide_eq_false (by omega)
      by_cases h300 : N2 ≤ 100
      · have e3 : decide ((100 : Int) < (N2 : Int)) = false := decide_eq_false (by omega)
        have e3n : decide (100 < N2) = false := decide_eq_false (by omega)
        have C1 := Lib.hid (decode_any A3 N3 c3 x w2 HXX.out (H3.out w2 HF2.out))
        have CD := Lib.hid (fun w' (hf : Fr (fun _ => False) w w') => rDecode_any A3 N3 c3 x w' HXX.out (H3.out w' hf))
        obtain ⟨⟨q, zq⟩, hqz⟩ : ∃ p, decQ N3 x = p := ⟨_, rfl⟩
        rw [hqz] at C1
        simp only [hqz] at CD
        dsimp only at C1 CD
        unfold mv at C1 CD
        clear h100 h200 h300 hc2 hf0
        go_wp2_with fail
        refine C1.out.mono ?_; rintro e w3 ⟨rfl, hf3⟩
        have HF3 := Lib.hid (HF2.out.trans hf3 (fun _ _ h => h))
        have HM3 := Lib.hid (HM2.out.fr hf3 (fun h => h))
        have HR3 := Lib.hid (HR2.out.fr hf3 (fun h => h))
        obtain ⟨w4, hw4⟩ : ∃ w4, w3.alloc (.cells (mcs q) 23) = w4 := ⟨_, rfl⟩
        have ha4 : Fr (fun _ => False) w3 w4 := by rw [← hw4]; exact (Fr.refl _ _).alloc _
        have HF4 := Lib.hid (HF3.out.trans ha4 (fun _ _ h => h))
        have HM4 := Lib.hid (HM3.out.fr ha4 (fun h => h))
        have HR4 := Lib.hid (HR3.out.fr ha4 (fun h => h))
        have HQ4 : Hid (Bx w4 w3.heap.size 0 q) := Lib.hid (by rw [← hw4]; exact Bx.new w3 _ q)
        have C2 := Lib.hid (CD.out w4 HF4.out)
        unfold mcs at hw4
        clear C1 hf3 ha4 hqz e1 e1n e2 e2n e3 e3n
        go_wp2_with fail
        clear hw4
        refine C2.out.mono ?_; rintro e w5 ⟨rfl, hf5⟩
        have HF5 := Lib.hid (HF4.out.trans hf5 (fun _ _ h => h))
        have HM5 := Lib.hid (HM4.out.fr hf5 (fun h => h))
        have HR5 := Lib.hid (HR4.out.fr hf5 (fun h => h))
        have HQ5 := Lib.hid (HQ4.out.fr hf5 (fun h => h))
        obtain ⟨w6, hw6⟩ : ∃ w6, w5.alloc (.cells (mcs q) 22) = w6 := ⟨_, rfl⟩
        have ha6 : Fr (fun _ => False) w5 w6 := by rw [← hw6]; exact (Fr.refl _ _).alloc _
        have HF6 := Lib.hid (HF5.out.trans ha6 (fun _ _ h => h))
        have HM6 := Lib.hid (HM5.out.fr ha6 (fun h => h))
        have HR6 := Lib.hid (HR5.out.fr ha6 (fun h => h))
        have HQ6 := Lib.hid (HQ5.out.fr ha6 (fun h => h))
        have HP6 : Hid (Bx w6 w5.heap.size 0 q) := Lib.hid (by rw [← hw6]; exact Bx.new w5 _ q)
        have cR : ∀ d os, Calls Try.prog 11 #[mv m] (Sort.grow (redrawn w6 d) os) fun e w'' => e = .returned (.bool (rightB m)) ∧ ∃ p : Regrown, w'' = Sort.grow (redrawn w6 p.d) p.os := fun d os =>
          Calls.regrown_of ((right_any m HMM.out _).mono fun _ _ ⟨h, k⟩ => ⟨h, k.bel⟩)
        have cS : ∀ d os, Calls Try.prog 12 #[mv m] (Sort.grow (redrawn w6 d) os) fun e w'' => e = .returned (.bool (rightB m)) ∧ ∃ p : Regrown, w'' = Sort.grow (redrawn w6 p.d) p.os := fun d os =>
          Calls.regrown_of ((rRight_any m HMM.out _).mono fun _ _ ⟨h, k⟩ => ⟨h, k.bel⟩)
        have k0 : ∀ k, k < 9 → ∀ d os, (Sort.grow (redrawn w6 d) os).cell? ⟨w.heap.size, k, none⟩ = some (.int .u8 (m k)) := fun k hk d os => cell_regrown (HM6.out.at0 hk) d os
        have k1 : ∀ k, k < 9 → ∀ d os, (Sort.grow (redrawn w6 d) os).cell? ⟨w3.heap.size, k, none⟩ = some (.int .u8 (q k)) := fun k hk d os => cell_regrown (HQ6.out.at0 hk) d os
        have k2 : ∀ k, k < 9 → ∀ d os, (Sort.grow (redrawn w6 d) os).cell? ⟨w5.heap.size, k, none⟩ = some (.int .u8 (q k)) := fun k hk d os => cell_regrown (HP6.out.at0 hk) d os
        have heq : ∀ w', (Op.equalIn 10000 22 (mv q) (mv q)).run Try.prog w' = .ok true w' := fun w' => by rw [run_eq22, same9_yes (fun _ _ => rfl)]
        have HCR := Lib.hid (rRight_any m HMM.out)
        unfold mcs at hw6
        unfold mv at cR cS heq HCR
        have HHEQ := Lib.hid heq
        generalize hrb : rightB m = rb at cR cS HCR
        clear hf5 ha6 C2
        go_wp2_with fail
        clear hw6
        refine wp_region_quiet_below (by kernel_rfl) (by kernel_rfl) ?_
        repeat (quiet_step (first | exact cR _ _ | exact cS _ _))
        refine wpQuiet_nil ?_
        intro _ hw'
        obtain ⟨⟨dq, osq⟩, hw''⟩ := hw'
        subst hw''
        have hfq : Fr (fun _ => False) w6 (Sort.grow (redrawn w6 dq) osq) := Fr.of_regrown w6 dq osq
        have HF7 := Lib.hid (HF6.out.trans hfq (fun _ _ h => h))
        have HM7 := Lib.hid (HM6.out.fr hfq (fun h => h))
        have HR7 := Lib.hid (HR6.out.fr hfq (fun h => h))
        clear k0 k1 k2 cR cS heq hfq
        generalize Sort.grow (redrawn w6 dq) osq = w7 at *
        have hb7 : ∀ k, k < 9 → w7.cell? ⟨w.heap.size, k, none⟩ = some (.int .u8 (m k)) := fun k hk => HM7.out.at0 hk
        go_wp2_with fail
        refine (HCR.out _).mono ?_; rintro e w8 ⟨rfl, hf8⟩
        have HF8 := Lib.hid (HF7.out.trans hf8 (fun _ _ h => h))
        have HM8 := Lib.hid (HM7.out.fr hf8 (fun h => h))
        have HR8 := Lib.hid (HR7.out.fr hf8 (fun h => h))
        clear hb7 hf8
        by_cases hR : rightP m
        · rw [rightB_yes hR] at hrb
          subst hrb
          have CV := Lib.hid (votes_any m HMM.out A1 N1 c1 y w8 (H1.out w8 HF8.out))
          have CW := Lib.hid (fun w' (hf : Fr (fun _ => False) w w') => rVotes_any m HMM.out A1 N1 c1 y w' (H1.out w' hf))
          have CC := Lib.hid (change_any m HMM.out node role)
          have CG := Lib.hid (rChange_any m HMM.out hR node role)
          have CM := Lib.hid (most_any m HMM.out)
          have CN := Lib.hid (rMost_any m HMM.out)
          have CI := Lib.hid (fun w' (hf : Fr (fun _ => False) w w') => index_any m HMM.out A2 N2 c2 t w' (H2.out w' hf))
          have CJ := Lib.hid (fun w' (hf : Fr (fun _ => False) w w') => rIndex_any m HMM.out A2 N2 c2 t w' (H2.out w' hf))
          have CT := Lib.hid (count_any m HMM.out role)
          have CU := Lib.hid (rCount_any m HMM.out role)
          have CE2 := Lib.hid (encode_str m)
          obtain ⟨⟨g, zg⟩, hg⟩ : ∃ p, chg m node role = p := ⟨_, rfl⟩
          simp only [hg] at CC CG
          unfold mv at CV CW CC CG CM CN CI CJ CT CU CE2
          have hb8 : ∀ k, k < 9 → w8.cell? ⟨w.heap.size, k, none⟩ = some (.int .u8 (m k)) := fun k hk => HM8.out.at0 hk
          generalize wonB m N1 y = WB at *
          generalize lostB m N1 y = LB at *
          generalize mst m = MS at *
          generalize bst m N2 t (hav m 1 9) = BS at *
          generalize cnt m role = CT0 at *
          clear hg hR HCR HHEQ
          go_wp2_with fail
          refine CV.out.mono ?_; rintro e w9 ⟨rfl, hf9⟩
          have HF9 := Lib.hid (HF8.out.trans hf9 (fun _ _ h => h))
          have HM9 := Lib.hid (HM8.out.fr hf9 (fun h => h))
          have HR9 := Lib.hid (HR8.out.fr hf9 (fun h => h))
          have hb9 : ∀ k, k < 9 → w9.cell? ⟨w.heap.size, k, none⟩ = some (.int .u8 (m k)) := fun k hk => HM9.out.at0 hk
          clear hb8 hf9
          go_wp2_with fail
          refine (CW.out _ HF9.out).mono ?_; rintro e w10 ⟨rfl, hf10⟩
          have HF10 := Lib.hid (HF9.out.trans hf10 (fun _ _ h => h))
          have HM10 := Lib.hid (HM9.out.fr hf10 (fun h => h))
          have HR10 := Lib.hid (HR9.out.fr hf10 (fun h => h))
          have hb10 : ∀ k, k < 9 → w10.cell? ⟨w.heap.size, k, none⟩ = some (.int .u8 (m k)) := fun k hk => HM10.out.at0 hk
          clear hb9 hf10
          go_wp2_with fail
          refine (CC.out _).mono ?_; rintro e w11 ⟨rfl, hf11⟩
          have HF11 := Lib.hid (HF10.out.trans hf11 (fun _ _ h => h))
          have HM11 := Lib.hid (HM10.out.fr hf11 (fun h => h))
          have HR11 := Lib.hid (HR10.out.fr hf11 (fun h => h))
          obtain ⟨w12, hw12⟩ : ∃ w12, w11.alloc (.cells (mcs g) 23) = w12 := ⟨_, rfl⟩
          have ha12 : Fr (fun _ => False) w11 w12 := by rw [← hw12]; exact (Fr.refl _ _).alloc _
          have HF12 := Lib.hid (HF11.out.trans ha12 (fun _ _ h => h))
          have HM12 := Lib.hid (HM11.out.fr ha12 (fun h => h))
          have HR12 := Lib.hid (HR11.out.fr ha12 (fun h => h))
          have HK12 : Hid (Bx w12 w11.heap.size 0 g) := Lib.hid (by rw [← hw12]; exact Bx.new w11 _ g)
          have hb12 : ∀ k, k < 9 → w12.cell? ⟨w.heap.size, k, none⟩ = some (.int .u8 (m k)) := fun k hk => HM12.out.at0 hk
          unfold mcs at hw12
          clear hb10 hf11 ha12
          go_wp2_with fail
          clear hw12
          refine (CG.out _).mono ?_; rintro e w13 ⟨rfl, hf13⟩
          have HF13 := Lib.hid (HF12.out.trans hf13 (fun _ _ h => h))
          have HM13 := Lib.hid (HM12.out.fr hf13 (fun h => h))
          have HR13 := Lib.hid (HR12.out.fr hf13 (fun h => h))
          have HK13 := Lib.hid (HK12.out.fr hf13 (fun h => h))
          obtain ⟨w14, hw14⟩ : ∃ w14, w13.alloc (.cells (mcs g) 22) = w14 := ⟨_, rfl⟩
          have ha14 : Fr (fun _ => False) w13 w14 := by rw [← hw14]; exact (Fr.refl _ _).alloc _
          have HF14 := Lib.hid (HF13.out.trans ha14 (fun _ _ h => h))
          have HM14 := Lib.hid (HM13.out.fr ha14 (fun h => h))
          have HR14 := Lib.hid (HR13.out.fr ha14 (fun h => h))
          have HKS : Hid (∀ w', Fr (fun _ => False) w14 w' → ∀ k, k < 9 → w'.cell? ⟨w11.heap.size, k, none⟩ = some (.int .u8 (g k))) := Lib.hid (fun w' hf k hk => ((HK13.out.fr ha14 (fun h => h)).fr hf (fun h => h)).at0 hk)
          have HLS : Hid (∀ w', Fr (fun _ => False) w14 w' → ∀ k, k < 9 → w'.cell? ⟨w13.heap.size, k, none⟩ = some (.int .u8 (g k))) := Lib.hid (fun w' hf k hk => ((show Bx w14 w13.heap.size 0 g by rw [← hw14]; exact Bx.new w13 _ g).fr hf (fun h => h)).at0 hk)
          have HMS : Hid (∀ w', Fr (fun _ => False) w14 w' → ∀ k, k < 9 → w'.cell? ⟨w.heap.size, k, none⟩ = some (.int .u8 (m k))) := Lib.hid (fun w' hf k hk => (HM14.out.fr hf (fun h => h)).at0 hk)
          have HSM : Hid (∀ w', Fr (fun _ => False) w14 w' → (convert 26 9 (.slice (some ⟨w.heap.size, 0, none⟩) 9 9)).run Try.prog w' = .ok (.string (sm m)) w') := Lib.hid (fun w' hf => run_sm w' _ m (HM14.out.fr hf (fun h => h)))
          have heq2 : ∀ w', (Op.equalIn 10000 22 (mv g) (mv g)).run Try.prog w' = .ok true w' := fun w' => by rw [run_eq22, same9_yes (fun _ _ => rfl)]
          unfold mv at heq2
          have HHEQ2 := Lib.hid heq2
          unfold mcs at hw14
          generalize sm m = SM at *
          clear hb12 hf13 ha14 heq2
          go_upto_region 15 with (fail)
          try rw [hw14]
          clear hw14
          refine wp_region_held_drew (S := fun w' => Fr (fun _ => False) w14 w') (by kernel_rfl) ((Fr.refl _ _).drew) (fun hHeld => ?_)
          refine wpAnyH_takeD (i := 0) (v := ?_) (some 96) rfl rfl (by kernel_rfl) (by kernel_rfl) (by kernel_rfl) (fun _ _ _ h => h) (Or.inl ⟨by rfl, ?_⟩) (by assumption) ?_
          rotate_left
          · intro w' hSw
            go_simp
            first | done | with_reducible rfl
          try simp only [Go.Act.put, List.setIfInBounds_toArray, List.set_cons_zero, List.set_cons_succ]
          refine wpAnyH_takeD (i := 1) (v := ?_) (some 97) rfl rfl (by kernel_rfl) (by kernel_rfl) (by kernel_rfl) (fun _ _ _ h => h) (Or.inl ⟨by rfl, ?_⟩) (by assumption) ?_
          rotate_left
          · intro w' hSw
            go_simp
            first | done | with_reducible rfl
          try simp only [Go.Act.put, List.setIfInBounds_toArray, List.set_cons_zero, List.set_cons_succ]
          refine wpAnyH_takeD (i := 2) (v := ?_) (some 98) rfl rfl (by kernel_rfl) (by kernel_rfl) (by kernel_rfl) (fun _ _ _ h => h) (Or.inl ⟨by rfl, ?_⟩) (by assumption) ?_
          rotate_left
          · intro w' hSw
            go_simp
            first | done | with_reducible rfl
          try simp only [Go.Act.put, List.setIfInBounds_toArray, List.set_cons_zero, List.set_cons_succ]
          refine wpAnyH_takeD (i := 3) (v := ?_) (some 99) rfl rfl (by kernel_rfl) (by kernel_rfl) (by kernel_rfl) (fun _ _ _ h => h) (Or.inl ⟨by rfl, ?_⟩) (by assumption) ?_
          rotate_left
          · intro w' hSw
            go_simp
            first | done | with_reducible rfl
          try simp only [Go.Act.put, List.setIfInBounds_toArray, List.set_cons_zero, List.set_cons_succ]
          refine wpAnyH_takeD (i := 4) (v := ?_) (some 100) rfl rfl (by kernel_rfl) (by kernel_rfl) (by kernel_rfl) (fun _ _ _ h => h) (Or.inl ⟨by rfl, ?_⟩) (by assumption) ?_
          rotate_left
          · intro w' hSw
            go_simp
            first | done | with_reducible rfl
          try simp only [Go.Act.put, List.setIfInBounds_toArray, List.set_cons_zero, List.set_cons_succ]
          refine wpAnyH_takeD (i := 5) (v := ?_) (some 101) rfl rfl (by kernel_rfl) (by kernel_rfl) (by kernel_rfl) (fun _ _ _ h => h) (Or.inl ⟨by rfl, ?_⟩) (by assumption) ?_
          rotate_left
          · intro w' hSw
            go_simp
            first | done | with_reducible rfl
          try simp only [Go.Act.put, List.setIfInBounds_toArray, List.set_cons_zero, List.set_cons_succ]
          refine wpAnyH_takeD (i := 6) (v := ?_) (some 102) rfl rfl (by kernel_rfl) (by kernel_rfl) (by kernel_rfl) (fun _ _ _ h => h) (Or.inl ⟨by rfl, ?_⟩) (by assumption) ?_
          rotate_left
          · intro w' hSw
            go_simp
            first | done | with_reducible rfl
          try simp only [Go.Act.put, List.setIfInBounds_toArray, List.set_cons_zero, List.set_cons_succ]
          refine wpAnyH_takeD (i := 7) (v := ?_) (some 103) rfl rfl (by kernel_rfl) (by kernel_rfl) (by kernel_rfl) (fun _ _ _ h => h) (Or.inl ⟨by rfl, ?_⟩) (by assumption) ?_
          rotate_left
          · intro w' hSw
            go_simp
            first | done | with_reducible rfl
          try simp only [Go.Act.put, List.setIfInBounds_toArray, List.set_cons_zero, List.set_cons_succ]
          refine wpAnyH_takeD (i := 8) (v := ?_) (some 104) rfl rfl (by kernel_rfl) (by kernel_rfl) (by kernel_rfl) (fun _ _ _ h => h) (Or.inl ⟨by rfl, ?_⟩) (by assumption) ?_
          rotate_left
          · intro w' hSw
            go_simp
            first | done | with_reducible rfl
          try simp only [Go.Act.put, List.setIfInBounds_toArray, List.set_cons_zero, List.set_cons_succ]
          refine wpAnyH_takeD (i := 9) (v := ?_) (some 105) rfl rfl (by kernel_rfl) (by kernel_rfl) (by kernel_rfl) (fun _ _ _ h => h) (Or.inl ⟨by rfl, ?_⟩) (by assumption) ?_
          rotate_left
          · intro w' hSw
            have q0 := HKS.out w' hSw
            go_simp
            first | done | with_reducible rfl
          try simp only [Go.Act.put, List.setIfInBounds_toArray, List.set_cons_zero, List.set_cons_succ]
          refine wpAnyH_takeD (i := 10) (v := ?_) (some 106) rfl rfl (by kernel_rfl) (by kernel_rfl) (by kernel_rfl) (fun _ _ _ h => h) (Or.inl ⟨by rfl, ?_⟩) (by assumption) ?_
          rotate_left
          · intro w' hSw
            have q0 := HLS.out w' hSw
            go_simp
            first | done | with_reducible rfl
          try simp only [Go.Act.put, List.setIfInBounds_toArray, List.set_cons_zero, List.set_cons_succ]
          refine wpAnyH_takeD (i := 11) (v := ?_) (some 107) rfl rfl (by kernel_rfl) (by kernel_rfl) (by kernel_rfl) (fun _ _ _ h => h) (Or.inl ⟨by rfl, ?_⟩) (by assumption) ?_
          rotate_left
          · intro w' hSw
            have q1 := HHEQ2.out w'
            go_simp
            first | done | with_reducible rfl
          try simp only [Go.Act.put, List.setIfInBounds_toArray, List.set_cons_zero, List.set_cons_succ]
          refine wpAnyH_takeD (i := 12) (v := ?_) (some 108) rfl rfl (by kernel_rfl) (by kernel_rfl) (by kernel_rfl) (fun _ _ _ h => h) (Or.inl ⟨by rfl, ?_⟩) (by assumption) ?_
          rotate_left
          · intro w' hSw
            go_simp
            first | done | with_reducible rfl
          try simp only [Go.Act.put, List.setIfInBounds_toArray, List.set_cons_zero, List.set_cons_succ]
          refine wpAnyH_takeD (i := 13) (v := ?_) (some 109) rfl rfl (by kernel_rfl) (by kernel_rfl) (by kernel_rfl) (fun _ _ _ h => h) (Or.inl ⟨by rfl, ?_⟩) (by assumption) ?_
          rotate_left
          · intro w' hSw
            go_simp
            first | done | with_reducible rfl
          try simp only [Go.Act.put, List.setIfInBounds_toArray, List.set_cons_zero, List.set_cons_succ]
          refine wpAnyH_takeD (i := 14) (v := ?_) (some 110) rfl rfl (by kernel_rfl) (by kernel_rfl) (by kernel_rfl) (fun _ _ _ h => h) (Or.inl ⟨by rfl, ?_⟩) (by assumption) ?_
          rotate_left
          · intro w' hSw
            go_simp
            first | done | with_reducible rfl
          try simp only [Go.Act.put, List.setIfInBounds_toArray, List.set_cons_zero, List.set_cons_succ]
          refine wpAnyH_takeD (i := 15) (v := ?_) (some 111) rfl rfl (by kernel_rfl) (by kernel_rfl) (by kernel_rfl) (fun _ _ _ h => h) (Or.inl ⟨by rfl, ?_⟩) (by assumption) ?_
          rotate_left
          · intro w' hSw
            go_simp
            first | done | with_reducible rfl
          try simp only [Go.Act.put, List.setIfInBounds_toArray, List.set_cons_zero, List.set_cons_succ]
          refine wpAnyH_takeD (i := 16) (v := ?_) (some 112) rfl rfl (by kernel_rfl) (by kernel_rfl) (by kernel_rfl) (fun _ _ _ h => h) (Or.inl ⟨by rfl, ?_⟩) (by assumption) ?_
          rotate_left
          · intro w' hSw
            go_simp
            first | done | with_reducible rfl
          try simp only [Go.Act.put, List.setIfInBounds_toArray, List.set_cons_zero, List.set_cons_succ]
          refine wpAnyH_takeD (i := 17) (v := ?_) (some 113) rfl rfl (by kernel_rfl) (by kernel_rfl) (by kernel_rfl) (fun _ _ _ h => h) (Or.inl ⟨by rfl, ?_⟩) (by assumption) ?_
          rotate_left
          · intro w' hSw
            go_simp
            first | done | with_reducible rfl
          try simp only [Go.Act.put, List.setIfInBounds_toArray, List.set_cons_zero, List.set_cons_succ]
          refine wpAnyH_takeD (i := 18) (v := ?_) (some 114) rfl rfl (by kernel_rfl) (by kernel_rfl) (by kernel_rfl) (fun _ _ _ h => h) (Or.inl ⟨by rfl, ?_⟩) (by assumption) ?_
          rotate_left
          · intro w' hSw
            go_simp
            first | done | with_reducible rfl
          try simp only [Go.Act.put, List.setIfInBounds_toArray, List.set_cons_zero, List.set_cons_succ]
          refine wpAnyH_takeD (i := 19) (v := ?_) (some 115) rfl rfl (by kernel_rfl) (by kernel_rfl) (by kernel_rfl) (fun _ _ _ h => h) (Or.inl ⟨by rfl, ?_⟩) (by assumption) ?_
          rotate_left
          · intro w' hSw
            have q0 := HMS.out w' hSw
            go_simp
            first | done | with_reducible rfl
          try simp only [Go.Act.put, List.setIfInBounds_toArray, List.set_cons_zero, List.set_cons_succ]
          refine wpAnyH_takeD (i := 21) (v := ?_) (some 117) rfl rfl (by kernel_rfl) (by kernel_rfl) (by kernel_rfl) (fun _ _ _ h => h) (Or.inl ⟨by rfl, ?_⟩) (by assumption) ?_
          rotate_left
          · intro w' hSw
            have q0 := HMS.out w' hSw
            go_simp
            first | done | with_reducible rfl
          try simp only [Go.Act.put, List.setIfInBounds_toArray, List.set_cons_zero, List.set_cons_succ]
          refine wpAnyH_ready (rs := [20]) (by kernel_rfl) (by simp) ?_
          refine AllReadyH.cons rfl (fun K hK => ?_) AllReadyH.nil
          go_simp
          refine (CM.out _).mono ?_; rintro e v20 ⟨rfl, h9⟩
          refine hK.out _ _ (hHeld.trans h9 (fun _ _ h => h)) (fun hHeld => ?_)
          clear hK K
          try change wpAnyH _ _ _ _ _ _ _ (Go.Act.put _ (some 116) _) _
          try simp only [Go.Act.put, List.setIfInBounds_toArray, List.set_cons_zero, List.set_cons_succ]
          refine wpAnyH_ready (rs := [22]) (by kernel_rfl) (by simp) ?_
          refine AllReadyH.cons rfl (fun K hK => ?_) AllReadyH.nil
          go_simp
          refine (CN.out _).mono ?_; rintro e v22 ⟨rfl, h9⟩
          refine hK.out _ _ (hHeld.trans h9 (fun _ _ h => h)) (fun hHeld => ?_)
          clear hK K
          try change wpAnyH _ _ _ _ _ _ _ (Go.Act.put _ (some 118) _) _
          try simp only [Go.Act.put, List.setIfInBounds_toArray, List.set_cons_zero, List.set_cons_succ]
          refine wpAnyH_takeD (i := 23) (v := ?_) (some 119) rfl rfl (by kernel_rfl) (by kernel_rfl) (by kernel_rfl) (fun _ _ _ h => h) (Or.inl ⟨by rfl, ?_⟩) (by assumption) ?_
          rotate_left
          · intro w' hSw
            go_simp
            first | done | with_reducible rfl
          try simp only [Go.Act.put, List.setIfInBounds_toArray, List.set_cons_zero, List.set_cons_succ]
          refine wpAnyH_takeD (i := 24) (v := ?_) (some 120) rfl rfl (by kernel_rfl) (by kernel_rfl) (by kernel_rfl) (fun _ _ _ h => h) (Or.inl ⟨by rfl, ?_⟩) (by assumption) ?_
          rotate_left
          · intro w' hSw
            go_simp
            first | done | with_reducible rfl
          try simp only [Go.Act.put, List.setIfInBounds_toArray, List.set_cons_zero, List.set_cons_succ]
          refine wpAnyH_takeD (i := 25) (v := ?_) (some 121) rfl rfl (by kernel_rfl) (by kernel_rfl) (by kernel_rfl) (fun _ _ _ h => h) (Or.inl ⟨by rfl, ?_⟩) (by assumption) ?_
          rotate_left
          · intro w' hSw
            go_simp
            first | done | with_reducible rfl
          try simp only [Go.Act.put, List.setIfInBounds_toArray, List.set_cons_zero, List.set_cons_succ]
          refine wpAnyH_takeD (i := 26) (v := ?_) (some 122) rfl rfl (by kernel_rfl) (by kernel_rfl) (by kernel_rfl) (fun _ _ _ h => h) (Or.inl ⟨by rfl, ?_⟩) (by assumption) ?_
          rotate_left
          · intro w' hSw
            have q0 := HMS.out w' hSw
            go_simp
            first | done | with_reducible rfl
          try simp only [Go.Act.put, List.setIfInBounds_toArray, List.set_cons_zero, List.set_cons_succ]
          refine wpAnyH_takeD (i := 27) (v := ?_) (some 123) rfl rfl (by kernel_rfl) (by kernel_rfl) (by kernel_rfl) (fun _ _ _ h => h) (Or.inl ⟨by rfl, ?_⟩) (by assumption) ?_
          rotate_left
          · intro w' hSw
            go_simp
            first | done | with_reducible rfl
          try simp only [Go.Act.put, List.setIfInBounds_toArray, List.set_cons_zero, List.set_cons_succ]
          refine wpAnyH_takeD (i := 29) (v := ?_) (some 125) rfl rfl (by kernel_rfl) (by kernel_rfl) (by kernel_rfl) (fun _ _ _ h => h) (Or.inl ⟨by rfl, ?_⟩) (by assumption) ?_
          rotate_left
          · intro w' hSw
            have q0 := HMS.out w' hSw
            go_simp
            first | done | with_reducible rfl
          try simp only [Go.Act.put, List.setIfInBounds_toArray, List.set_cons_zero, List.set_cons_succ]
          refine wpAnyH_takeD (i := 30) (v := ?_) (some 126) rfl rfl (by kernel_rfl) (by kernel_rfl) (by kernel_rfl) (fun _ _ _ h => h) (Or.inl ⟨by rfl, ?_⟩) (by assumption) ?_
          rotate_left
          · intro w' hSw
            go_simp
            first | done | with_reducible rfl
          try simp only [Go.Act.put, List.setIfInBounds_toArray, List.set_cons_zero, List.set_cons_succ]
          refine wpAnyH_ready (rs := [28]) (by kernel_rfl) (by simp) ?_
          refine AllReadyH.cons rfl (fun K hK => ?_) AllReadyH.nil
          go_simp
          refine (CI.out _ (HF14.out.trans hHeld (fun _ _ h => h))).mono ?_; rintro e v28 ⟨rfl, h9⟩
          refine hK.out _ _ (hHeld.trans h9 (fun _ _ h => h)) (fun hHeld => ?_)
          clear hK K
          try change wpAnyH _ _ _ _ _ _ _ (Go.Act.put _ (some 124) _) _
          try simp only [Go.Act.put, List.setIfInBounds_toArray, List.set_cons_zero, List.set_cons_succ]
          refine wpAnyH_ready (rs := [31]) (by kernel_rfl) (by simp) ?_
          refine AllReadyH.cons rfl (fun K hK => ?_) AllReadyH.nil
          go_simp
          refine (CJ.out _ (HF14.out.trans hHeld (fun _ _ h => h))).mono ?_; rintro e v31 ⟨rfl, h9⟩
          refine hK.out _ _ (hHeld.trans h9 (fun _ _ h => h)) (fun hHeld => ?_)
          clear hK K
          try change wpAnyH _ _ _ _ _ _ _ (Go.Act.put _ (some 127) _) _
          try simp only [Go.Act.put, List.setIfInBounds_toArray, List.set_cons_zero, List.set_cons_succ]
          refine wpAnyH_takeD (i := 32) (v := ?_) (some 128) rfl rfl (by kernel_rfl) (by kernel_rfl) (by kernel_rfl) (fun _ _ _ h => h) (Or.inl ⟨by rfl, ?_⟩) (by assumption) ?_
          rotate_left
          · intro w' hSw
            go_simp
            first | done | with_reducible rfl
          try simp only [Go.Act.put, List.setIfInBounds_toArray, List.set_cons_zero, List.set_cons_succ]
          refine wpAnyH_takeD (i := 33) (v := ?_) (some 129) rfl rfl (by kernel_rfl) (by kernel_rfl) (by kernel_rfl) (fun _ _ _ h => h) (Or.inl ⟨by rfl, ?_⟩) (by assumption) ?_
          rotate_left
          · intro w' hSw
            go_simp
            first | done | with_reducible rfl
          try simp only [Go.Act.put, List.setIfInBounds_toArray, List.set_cons_zero, List.set_cons_succ]
          refine wpAnyH_takeD (i := 34) (v := ?_) (some 130) rfl rfl (by kernel_rfl) (by kernel_rfl) (by kernel_rfl) (fun _ _ _ h => h) (Or.inl ⟨by rfl, ?_⟩) (by assumption) ?_
          rotate_left
          · intro w' hSw
            go_simp
            first | done | with_reducible rfl
          try simp only [Go.Act.put, List.setIfInBounds_toArray, List.set_cons_zero, List.set_cons_succ]
          refine wpAnyH_takeD (i := 35) (v := ?_) (some 131) rfl rfl (by kernel_rfl) (by kernel_rfl) (by kernel_rfl) (fun _ _ _ h => h) (Or.inl ⟨by rfl, ?_⟩) (by assumption) ?_
          rotate_left
          · intro w' hSw
            have q0 := HMS.out w' hSw
            go_simp
            first | done | with_reducible rfl
          try simp only [Go.Act.put, List.setIfInBounds_toArray, List.set_cons_zero, List.set_cons_succ]
          refine wpAnyH_takeD (i := 36) (v := ?_) (some 132) rfl rfl (by kernel_rfl) (by kernel_rfl) (by kernel_rfl) (fun _ _ _ h => h) (Or.inl ⟨by rfl, ?_⟩) (by assumption) ?_
          rotate_left
          · intro w' hSw
            go_simp
            first | done | with_reducible rfl
          try simp only [Go.Act.put, List.setIfInBounds_toArray, List.set_cons_zero, List.set_cons_succ]
          refine wpAnyH_takeD (i := 38) (v := ?_) (some 134) rfl rfl (by kernel_rfl) (by kernel_rfl) (by kernel_rfl) (fun _ _ _ h => h) (Or.inl ⟨by rfl, ?_⟩) (by assumption) ?_
          rotate_left
          · intro w' hSw
            have q0 := HMS.out w' hSw
            go_simp
            first | done | with_reducible rfl
          try simp only [Go.Act.put, List.setIfInBounds_toArray, List.set_cons_zero, List.set_cons_succ]
          refine wpAnyH_takeD (i := 39) (v := ?_) (some 135) rfl rfl (by kernel_rfl) (by kernel_rfl) (by kernel_rfl) (fun _ _ _ h => h) (Or.inl ⟨by rfl, ?_⟩) (by assumption) ?_
          rotate_left
          · intro w' hSw
            go_simp
            first | done | with_reducible rfl
          try simp only [Go.Act.put, List.setIfInBounds_toArray, List.set_cons_zero, List.set_cons_succ]
          refine wpAnyH_ready (rs := [37]) (by kernel_rfl) (by simp) ?_
          refine AllReadyH.cons rfl (fun K hK => ?_) AllReadyH.nil
          go_simp
          refine (CT.out _).mono ?_; rintro e v37 ⟨rfl, h9⟩
          refine hK.out _ _ (hHeld.trans h9 (fun _ _ h => h)) (fun hHeld => ?_)
          clear hK K
          try change wpAnyH _ _ _ _ _ _ _ (Go.Act.put _ (some 133) _) _
          try simp only [Go.Act.put, List.setIfInBounds_toArray, List.set_cons_zero, List.set_cons_succ]
          refine wpAnyH_ready (rs := [40]) (by kernel_rfl) (by simp) ?_
          refine AllReadyH.cons rfl (fun K hK => ?_) AllReadyH.nil
          go_simp
          refine (CU.out _).mono ?_; rintro e v40 ⟨rfl, h9⟩
          refine hK.out _ _ (hHeld.trans h9 (fun _ _ h => h)) (fun hHeld => ?_)
          clear hK K
          try change wpAnyH _ _ _ _ _ _ _ (Go.Act.put _ (some 136) _) _
          try simp only [Go.Act.put, List.setIfInBounds_toArray, List.set_cons_zero, List.set_cons_succ]
          refine wpAnyH_takeD (i := 41) (v := ?_) (some 137) rfl rfl (by kernel_rfl) (by kernel_rfl) (by kernel_rfl) (fun _ _ _ h => h) (Or.inl ⟨by rfl, ?_⟩) (by assumption) ?_
          rotate_left
          · intro w' hSw
            go_simp
            first | done | with_reducible rfl
          try simp only [Go.Act.put, List.setIfInBounds_toArray, List.set_cons_zero, List.set_cons_succ]
          refine wpAnyH_takeD (i := 42) (v := ?_) (some 138) rfl rfl (by kernel_rfl) (by kernel_rfl) (by kernel_rfl) (fun _ _ _ h => h) (Or.inl ⟨by rfl, ?_⟩) (by assumption) ?_
          rotate_left
          · intro w' hSw
            go_simp
            first | done | with_reducible rfl
          try simp only [Go.Act.put, List.setIfInBounds_toArray, List.set_cons_zero, List.set_cons_succ]
          refine wpAnyH_takeD (i := 43) (v := ?_) (some 139) rfl rfl (by kernel_rfl) (by kernel_rfl) (by kernel_rfl) (fun _ _ _ h => h) (Or.inl ⟨by rfl, ?_⟩) (by assumption) ?_
          rotate_left
          · intro w' hSw
            go_simp
            first | done | with_reducible rfl
          try simp only [Go.Act.put, List.setIfInBounds_toArray, List.set_cons_zero, List.set_cons_succ]
          refine wpAnyH_takeD (i := 44) (v := ?_) (some 140) rfl rfl (by kernel_rfl) (by kernel_rfl) (by kernel_rfl) (fun _ _ _ h => h) (Or.inl ⟨by rfl, ?_⟩) (by assumption) ?_
          rotate_left
          · intro w' hSw
            have q0 := HMS.out w' hSw
            go_simp
            first | done | with_reducible rfl
          try simp only [Go.Act.put, List.setIfInBounds_toArray, List.set_cons_zero, List.set_cons_succ]
          refine wpAnyH_takeD (i := 47) (v := ?_) (some 143) rfl rfl (by kernel_rfl) (by kernel_rfl) (by kernel_rfl) (fun _ _ _ h => h) (Or.inl ⟨by rfl, ?_⟩) (by assumption) ?_
          rotate_left
          · intro w' hSw
            go_simp
            first | done | with_reducible rfl
          try simp only [Go.Act.put, List.setIfInBounds_toArray, List.set_cons_zero, List.set_cons_succ]
          refine wpAnyH_takeD (i := 48) (v := ?_) (some 144) rfl rfl (by kernel_rfl) (by kernel_rfl) (by kernel_rfl) (fun _ _ _ h => h) (Or.inl ⟨by rfl, ?_⟩) (by assumption) ?_
          rotate_left
          · intro w' hSw
            have q2 := HSM.out w' hSw
            go_simp
            first | done | with_reducible rfl
          try simp only [Go.Act.put, List.setIfInBounds_toArray, List.set_cons_zero, List.set_cons_succ]
          refine wpAnyH_ready (rs := [45]) (by kernel_rfl) (by simp) ?_
          refine AllReadyH.cons rfl (fun K hK => ?_) AllReadyH.nil
          go_simp
          refine (CE2.out _).mono ?_; rintro e v45 ⟨qe, rfl, h9, hs9⟩
          refine hK.out _ _ (hHeld.trans h9 (fun _ _ h => h)) (fun hHeld => ?_)
          clear hK K
          try change wpAnyH _ _ _ _ _ _ _ (Go.Act.put _ (some 141) _) _
          try simp only [Go.Act.put, List.setIfInBounds_toArray, List.set_cons_zero, List.set_cons_succ]
          refine wpAnyH_ready (rs := [46]) (by kernel_rfl) (by simp) ?_
          refine AllReadyH.cons rfl (fun K hK => ?_) AllReadyH.nil
          go_simp
          refine hK.out _ _ (hHeld) (fun hHeld => ?_)
          clear hK K
          try change wpAnyH _ _ _ _ _ _ _ (Go.Act.put _ (some 142) _) _
          try simp only [Go.Act.put, List.setIfInBounds_toArray, List.set_cons_zero, List.set_cons_succ]
          refine wpAnyH_takeD (i := 49) (v := ?_) (some 145) rfl rfl (by kernel_rfl) (by kernel_rfl) (by kernel_rfl) (fun _ _ _ h => h) (Or.inl ⟨by rfl, ?_⟩) (by assumption) ?_
          rotate_left
          · intro w' hSw
            go_simp
            first | done | with_reducible rfl
          try simp only [Go.Act.put, List.setIfInBounds_toArray, List.set_cons_zero, List.set_cons_succ]
          refine wpAnyH_takeD (i := 50) (v := ?_) (some 146) rfl rfl (by kernel_rfl) (by kernel_rfl) (by kernel_rfl) (fun _ _ _ h => h) (Or.inl ⟨by rfl, ?_⟩) (by assumption) ?_
          rotate_left
          · intro w' hSw
            go_simp
            first | done | with_reducible rfl
          try simp only [Go.Act.put, List.setIfInBounds_toArray, List.set_cons_zero, List.set_cons_succ]
          refine wpAnyH_done (by kernel_rfl) ?_ _
          have HF15 := Lib.hid (HF14.out.trans hHeld (fun _ _ h => h))
          have HM15 := Lib.hid (HM14.out.fr hHeld (fun h => h))
          have HR15 := Lib.hid (HR14.out.fr hHeld (fun h => h))
          clear hHeld hs9 HKS HLS HMS HSM HHEQ2 CM CN CI CJ CT CU CE2
          have CA := Lib.hid (fun w => callsIn_wide.1 (all_in 9 m 1 w))
          unfold mv at CA
          have hb15 : ∀ k, k < 9 → v45.cell? ⟨w.heap.size, k, none⟩ = some (.int .u8 (m k)) := fun k hk => HM15.out.at0 hk
          have ha16 : Fr (fun _ => False) v45 (v45.alloc (.cells #[.int .i64 0] 3)) := (Fr.refl _ _).alloc _
          have hk16 : Bk (v45.alloc (.cells #[.int .i64 0] 3)) v45.heap.size 3 #[.int .i64 0] := Bk.new _ _ _
          have hb16 : ∀ k, k < 9 → (v45.alloc (.cells #[.int .i64 0] 3)).cell? ⟨w.heap.size, k, none⟩ = some (.int .u8 (m k)) := fun k hk => (HM15.out.fr ha16 (fun h => h)).at0 hk
          go_wp2_with fail
          refine (CA.out _).mono ?_; rintro e w' ⟨rfl, rfl⟩
          have hs16 : (v45.alloc (.cells #[.int .i64 0] 3)).heap.size = v45.heap.size + 1 := by simp
          obtain ⟨w16, hw16⟩ : ∃ w16, v45.alloc (.cells #[.int .i64 0] 3) = w16 := ⟨_, rfl⟩
          rw [hw16] at ha16 hk16 hs16 ⊢
          have hss := all_stops4 29 (by omega) _ w16 hs16 m HMM.out 1
          have hs17 : ((w16.alloc (.cells (mcs m) 23)).alloc (.cells #[.int .i64 1] 3)).heap.size = v45.heap.size + 1 + 1 + 1 := by simp [hs16]
          have ha17 : Fr (fun _ => False) w16 ((w16.alloc (.cells (mcs m) 23)).alloc (.cells #[.int .i64 1] 3)) := ((Fr.refl _ _).alloc _).alloc _
          rw [hs16]
          generalize (w16.alloc (.cells (mcs m) 23)).alloc (.cells #[.int .i64 1] 3) = w17 at *
          have HF17 := Lib.hid ((HF15.out.trans ha16 (fun _ _ h => h)).trans ha17 (fun _ _ h => h))
          have HM17 := Lib.hid ((HM15.out.fr ha16 (fun h => h)).fr ha17 (fun h => h))
          have HR17 := Lib.hid ((HR15.out.fr ha16 (fun h => h)).fr ha17 (fun h => h))
          have hk17 := hk16.fr ha17 (fun h => h)
          have HSB : Hid (w.heap.size + 1 < v45.heap.size) := Lib.hid (HR15.out.lt)
          have HSB0 : Hid (w.heap.size < v45.heap.size) := Lib.hid (HM15.out.lt)
          have HSW : Hid (w.heap.size ≤ w17.heap.size) := Lib.hid HF17.out.size
          have hSB := HSB.out
          have hSB0 := HSB0.out
          clear hb15 hb16 hw16 ha16 hk16 ha17 CA hs16
          go_wp2_with fail
          refine (wpIn_wide (n := 30)).1 ?_
          refine wpIn_rangeFunc_ownF rfl (by omega) (gf := 32) (lb := #[.pointer (some ⟨v45.heap.size + 1, 0, none⟩), .pointer (some ⟨v45.heap.size + 1 + 1, 0, none⟩)]) rfl trivial (enters_of Try.func32 (by kernel_rfl) rfl)
            hss KC.t (fun W l o o' _ h ho _ => KC.b _ W l o o' h ho) (Below.refl _ _) (fun _ => rfl)
            (fun pre W => ∃ j : Nat, j ≤ 9 ∧ ks pre = hav m 1 j ∧ Bk W (v45.heap.size) 3 #[.int .i64 (j : Int)] ∧ Fr (fun k => k = v45.heap.size) w17 W)
            (fun c pre _ => c = .ret ∧ ¬ ∃ k, k ≤ 9 ∧ ks pre = hav m 1 k)
            (fun s W W' row ⟨j, a1, a2, a3, a4⟩ hg hr => ⟨j, a1, a2, Bk.grown a3 hg (fun r e => (hr r e).2), (own_fr (β := List K9) (Nat.le_refl _)) s W W' row a4 hg hr⟩)
            (fun _ => own_pure _ _)
            ⟨0, Nat.zero_le _, rfl, hk17, Fr.refl _ _⟩
            ?a1 ?assign ?body ?done ?stop
          case assign =>
            intro l x W K hK
            gi_wp2
            exact hK
          case body =>
            rintro l pre x W ⟨j, hj9, hpre, hk, hB⟩ hlen
            have HK := Lib.hid hk
            have HB := Lib.hid hB
            have HP := Lib.hid hpre
            clear hk hB hpre
            gi_wp2
            gi_loopw [150] (fun _ wr => ∃ q : Nat, j ≤ q ∧ q ≤ 9 ∧ hav m 1 q = hav m 1 j ∧ Bk wr (v45.heap.size) 3 #[.int .i64 (q : Int)] ∧ Fr (fun k => k = v45.heap.size) w17 wr ∧ Fr (fun k => k = v45.heap.size) W wr ∧ KeepsOthers W wr) (fun _ wr => 9 - (intOf ((wr.cell? ⟨v45.heap.size, 0, none⟩).getD undef)).toNat)
            case atStart => exact ⟨j, Nat.le_refl _, hj9, rfl, HK.out, HB.out, Fr.refl _ _, KeepsOthers.refl _⟩
            case round =>
              obtain ⟨q, hjq, hq9, hqj, hk, hB, hW, hKO⟩ := hrel
              have hcn := hk.cell 0
              have hfn := hk.frozen 0
              simp only [List.getElem?_toArray, List.getElem?_cons_zero] at hcn
              have hKC : KC (v45.heap.size + 1 + 1) W wr := KC.fr hW (by omega)
              by_cases hlt : q < 9
              · have hmq := (HM17.out.fr hB (by omega)).at0 hlt
                have hltI : (q : Int) < 9 := by omega
                have hwq : wrap64 ((q : Int) + 1) = (q : Int) + 1 := by unfold wrap64; omega
                by_cases hm1 : m q = 1
                · have dm : (m q == 1) = true := by simp [hm1]
                  have dm' : (m q != 1) = false := by simp [hm1]
                  by_cases hx : q = x.val
                  · have HJ : Hid (ks (pre ++ [x]) = hav m 1 (q + 1)) := Lib.hid (by rw [ks_snoc, hav_yes hm1, hqj, HP.out, hx])
                    have dx : ((q : Int) == (x.val : Int)) = true := by rw [hx]; simp
                    have dx' : ((q : Int) != (x.val : Int)) = false := by rw [hx]; simp
                    have dxn : (q != x.val) = false := by rw [hx]; simp
                    have HKS := Lib.hid (hk.set 0 (.int .i64 ((q : Int) + 1)))
                    have HBS := Lib.hid (hB.setCell (p := ⟨v45.heap.size, 0, none⟩) (fun _ => rfl) (.int .i64 ((q : Int) + 1)))
                    have HWS := Lib.hid (KC.fr (b := v45.heap.size + 1 + 1) (hW.setCell (p := ⟨v45.heap.size, 0, none⟩) (fun _ => rfl) (.int .i64 ((q : Int) + 1))) (by omega))
                    have HKO := Lib.hid (hKO.trans (KeepsOthers.setCell wr ⟨v45.heap.size, 0, none⟩ (.int .i64 ((q : Int) + 1))))
                    clear hm1 hx hk hB hW hKO hKC hqj
                    gi_wp2
                    exact ⟨HKO.out, HWS.out, q + 1, by omega, HJ.out, HKS.out, HBS.out⟩
                  · have dxn : (q != x.val) = true := by simp [hx]
                    have dx' : ((q : Int) != (x.val : Int)) = true := by simp; omega
                    have dx : ((q : Int) == (x.val : Int)) = false := by simp; omega
                    have HNO : Hid (¬ ∃ k, k ≤ 9 ∧ ks (pre ++ [x]) = hav m 1 k) := Lib.hid (by rw [ks_snoc, HP.out]; exact next_no hqj (.inr hm1) hx)
                    have hkr := HR17.out.fr hB (by omega)
                    have hcr := hkr.cell 0
                    have hfr := hkr.frozen 0
                    simp only [List.getElem?_toArray, List.getElem?_cons_zero] at hcr
                    have HKO := Lib.hid (hKO.trans (KeepsOthers.setCell wr ⟨w.heap.size + 1, 0, none⟩ (.bool false)))
                    clear hm1 hx hk hB hW hKO hKC hqj hkr
                    gi_wp2
                    exact ⟨HKO.out, rfl, HNO.out⟩
                · have dm : (m q == 1) = false := by simp [hm1]
                  have dm' : (m q != 1) = true := by simp [hm1]
                  have HQJ : Hid (hav m 1 (q + 1) = hav m 1 j) := Lib.hid (by rw [hav_no hm1]; exact hqj)
                  have HKS := Lib.hid (hk.set 0 (.int .i64 ((q : Int) + 1)))
                  have HBS := Lib.hid (hB.setCell (p := ⟨v45.heap.size, 0, none⟩) (fun _ => rfl) (.int .i64 ((q : Int) + 1)))
                  have HWS := Lib.hid (hW.setCell (p := ⟨v45.heap.size, 0, none⟩) (fun _ => rfl) (.int .i64 ((q : Int) + 1)))
                  have HKO := Lib.hid (hKO.trans (KeepsOthers.setCell wr ⟨v45.heap.size, 0, none⟩ (.int .i64 ((q : Int) + 1))))
                  clear hm1 hk hB hW hKO hKC hqj
                  gi_wp2
                  go_roundw
                  case rel => exact ⟨q + 1, by omega, by omega, HQJ.out, HKS.out, HBS.out, HWS.out, HKO.out⟩
                  case measure =>
                    have hm2 := HKS.out.cell 0
                    simp at hm2
                    rw [hm2, hcn]
                    simp [intOf]; omega
              · obtain rfl : q = 9 := by omega
                have hx : ¬ (9 : Nat) = x.val := by have := x.isLt; omega
                have dxn : ((9 : Nat) != x.val) = true := by simp; omega
                have dx' : ((9 : Int) != (x.val : Int)) = true := by simp; omega
                have dx : ((9 : Int) == (x.val : Int)) = false := by simp; omega
                have HNO : Hid (¬ ∃ k, k ≤ 9 ∧ ks (pre ++ [x]) = hav m 1 k) := Lib.hid (by rw [ks_snoc, HP.out]; exact next_no hqj (.inl rfl) hx)
                have hkr := HR17.out.fr hB (by omega)
                have hcr := hkr.cell 0
                have hfr := hkr.frozen 0
                simp only [List.getElem?_toArray, List.getElem?_cons_zero] at hcr
                have HKO := Lib.hid (hKO.trans (KeepsOthers.setCell wr ⟨w.heap.size + 1, 0, none⟩ (.bool false)))
                clear hx hk hB hW hKO hKC hqj hkr
                gi_wp2
                exact ⟨HKO.out, rfl, HNO.out⟩
          case done =>
            rintro D ys W hD hys ⟨j, hj9, hpre, hk, hB⟩ hK
            have HH9 : Hid (hav m 1 9 = hav m 1 j) := Lib.hid (hys.symm.trans hpre)
            have HB0 := Lib.hid hB
            have HK0 := Lib.hid hk
            have HD0 := Lib.hid hK
            clear hpre hys hk hB hK
            go_wp2_with fail
            go_loopw [165] (fun _ wr => ∃ q : Nat, q ≤ 9 ∧ hav m 1 q = hav m 1 j ∧ Bk wr (v45.heap.size) 3 #[.int .i64 (q : Int)] ∧ Fr (fun k => k = v45.heap.size) w17 wr ∧ wr.heap[D]? = some (.deferred (some []))) (fun _ wr => 9 - (intOf ((wr.cell? ⟨v45.heap.size, 0, none⟩).getD undef)).toNat)
            case atStart => exact ⟨j, hj9, rfl, HK0.out, HB0.out, HD0.out⟩
            case round =>
              obtain ⟨q, hq9, hqj, hk, hB, hK⟩ := hrel
              have hcn := hk.cell 0
              have hfn := hk.frozen 0
              simp only [List.getElem?_toArray, List.getElem?_cons_zero] at hcn
              by_cases hlt : q < 9
              · have hmq := (HM17.out.fr hB (by omega)).at0 hlt
                have hltI : (q : Int) < 9 := by omega
                have hwq : wrap64 ((q : Int) + 1) = (q : Int) + 1 := by unfold wrap64; omega
                have hm1 := none_past HH9.out hqj hlt
                have dm : (m q == 1) = false := by simp [hm1]
                have dm' : (m q != 1) = true := by simp [hm1]
                have HQJ : Hid (hav m 1 (q + 1) = hav m 1 j) := Lib.hid (by rw [hav_no hm1]; exact hqj)
                have HKS := Lib.hid (hk.set 0 (.int .i64 ((q : Int) + 1)))
                have HBS := Lib.hid (hB.setCell (p := ⟨v45.heap.size, 0, none⟩) (fun _ => rfl) (.int .i64 ((q : Int) + 1)))
                have HDS := Lib.hid ((KeepsOthers.setCell wr ⟨v45.heap.size, 0, none⟩ (.int .i64 ((q : Int) + 1))).same D _ hK rfl)
                clear hm1 hk hB hK hqj
                go_wp2
                refine ⟨⟨q + 1, by omega, HQJ.out, HKS.out, HBS.out, HDS.out⟩, ?_⟩
                have hm2 := HKS.out.cell 0
                simp at hm2
                rw [hm2, hcn]
                simp [intOf]; omega
              · obtain rfl : q = 9 := by omega
                have hkr := HR17.out.fr hB (by omega)
                have hcr := hkr.cell 0
                have hfr := hkr.frozen 0
                simp only [List.getElem?_toArray, List.getElem?_cons_zero] at hcr
                have HRS := Lib.hid (hkr.set 0 (.bool true))
                have HFS := Lib.hid ((HF17.out.trans hB (fun k hk e => by have := HSB0.out; omega)).setCell (p := ⟨w.heap.size + 1, 0, none⟩) (fun h => absurd (show w.heap.size + 1 < w.heap.size from h) (by omega)) (.bool true))
                have HDS := Lib.hid ((KeepsOthers.setCell wr ⟨w.heap.size + 1, 0, none⟩ (.bool true)).same D _ hK rfl)
                clear hk hB hK hqj hkr
                go_wp2
                refine ⟨by simp, .inl ⟨_, _, rfl, run_takeDeferred HDS.out, ?_⟩⟩
                have hc9 := (Bk.grown HRS.out (grownBy_putObj' _ D (.deferred none)) (fun r e => by cases e; exact ⟨_, HDS.out, rfl⟩)).cell 0
                simp at hc9
                refine ⟨.bool true, ?_, rfl, HFS.out.mark (by have := HSW.out; omega) _⟩
                simp [results, Try.f3, go_sem, hc9]
          case stop =>
            rintro D c pre W _ hsp ⟨_, hno⟩ _
            exact absurd hsp hno
        · rw [rightB_no hR] at hrb
          subst hrb
          have hc8 := HR8.out.cell 0
          have hf0 := HR8.out.frozen 0
          simp only [List.getElem?_toArray, List.getElem?_cons_zero] at hc8
          go_wp2
          have hcr := (HR8.out.set 0 (.bool true)).cell 0
          refine ⟨.bool true, ?_, rfl, HF8.out.setCell (p := ⟨w.heap.size + 1, 0, none⟩) (fun h => absurd h (by simp)) _⟩
          simp at hcr
          simp [results, Try.f3, go_sem, hcr]
      · have e3 : decide ((100 : Int) < (N2 : Int)) = true := decide_eq_true (by omega)
        have e3n : decide (100 < N2) = true := decide_eq_true (by omega)
        go_wp2
        have hcr := (HR2.out.set 0 (.bool true)).cell 0
        refine ⟨.bool true, ?_, rfl, HF2.out.setCell (p := ⟨w.heap.size + 1, 0, none⟩) (fun h => absurd h (by simp)) _⟩
        simp at hcr
        simp [results, Try.f3, go_sem, hcr]
    · have e2 : decide ((100 : Int) < (N1 : Int)) = true := decide_eq_true (by omega)
      have e2n : decide (100 < N1) = true := decide_eq_true (by omega)
      go_wp2
      have hcr := (HR2.out.set 0 (.bool true)).cell 0
      refine ⟨.bool true, ?_, rfl, HF2.out.setCell (p := ⟨w.heap.size + 1, 0, none⟩) (fun h => absurd h (by simp)) _⟩
      simp at hcr
      simp [results, Try.f3, go_sem, hcr]
  · have e1 : decide ((100 : Int) < (N3 : Int)) = true := decide_eq_true (by omega)
    have e1n : decide (100 < N3) = true := decide_eq_true (by omega)
    go_wp2
    have hcr := (HR2.out.set 0 (.bool true)).cell 0
    refine ⟨.bool true, ?_, rfl, HF2.out.setCell (p := ⟨w.heap.size + 1, 0, none⟩) (fun h => absurd h (by simp)) _⟩
    simp at hcr
    simp [results, Try.f3, go_sem, hcr]
end Go.Proofs.Ytiinkjplhihdaaa
