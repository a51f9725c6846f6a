import Derived.Test.YtieoeoonopcjbaaGreatDoorKs07
import Derived.Deep.RegionWith
import Derived.IntWalk
import Derived.Deep.DeepCutAuto

/- The reference's Bytes. -/
namespace Go.Proofs.YtieoeoonopcjbaaGreatDoor
open Go.RowKit

/-- append(s, x...) met alone in a region that draws. -/
theorem stepOf_append8s {P : Program} {ops : Array Oper} {o : Oper} {a : Act} {w : World} {K' : Act → World → Prop} {Q : Exit → Act → World → Prop} (hgd : o.guard = none) (s x : Operand) {t e : TypeId} (hT : T8 P t e)
    (ho : o.op = .call { callee := .builtin .append, args := #[s, x], argTypes := #[t, t] })
    (v : Value) (bs : List UInt8) (hs : a.eval s = v) (hown : Own8 w e v bs) (A : Option Addr) (m c : Nat) (xs : List UInt8) (hx : a.eval x = .slice A m c) (hm : xs.length = m) (hr : Rd8 w A xs) (hlen : bs.length + xs.length ≤ 140737488355328)
    (h : ∀ A' c' w', Own8 w' e (.slice A' (bs.length + xs.length) c') (bs ++ xs) → Fr (fun k => v.ownBlock = some k) w w' → Moved w v (.slice A' (bs.length + xs.length) c') → K' (a.put o.dst (.slice A' (bs.length + xs.length) c')) w') :
    if Region.wanted o (yielded ops a.tmps) = true then Oper.wp P o a w K' Q else K' (a.put o.dst undef) w := by
  rw [if_pos (by simp [Region.wanted, hgd])]
  subst hm
  obtain ⟨A', c', w', hr, h2, h3, h4, _⟩ := run_append8 (P := P) w hT o.type hown A c xs hr hlen
  unfold Oper.wp execOp
  simp only [ho, resolve, invoke, builtin, Sem.run_bind, Sem.run_pure, Result.andThen_ok, List.map_toArray, List.map_cons, List.map_nil, hs, hx, hr]
  exact h A' c' w' h2 h3 h4

theorem Fresh.put {w w' : World} {b n c : Nat} (h : Fr (fun _ => False) w w') (hb : w.heap.size ≤ b) : Fresh w w' (.slice (some ⟨b, 0, none⟩) n c) :=
  ⟨h, fun k hk => by
    have : b = k := by injection hk
    omega⟩

theorem srR (xs : List UInt8) (wh : ByteArray) (most : Int) (k : Nat) : stBytes xs wh most (.at_ k) = match (srRun xs k most).1 with | .bad b => ([], .bad b k wh) | .ok k' => ((srRun xs k most).2, .at_ k') := rfl

set_option maxRecDepth 100000 in
set_option maxHeartbeats 2000000 in
theorem refBytes_any {w : World} {g : Nat} {A : Option Addr} {n c : Nat} {xs : List UInt8} {s : St} (h : RRAt w g A n c xs s) (hn : n ≤ 140737488355328) (wh : ByteArray) (most : Int) :
    Calls Tryz.prog 40 #[.pointer (some ⟨g, 0, none⟩), .string wh, .int .i64 most] w fun e w' =>
      ∃ v, e = .returned v ∧ SliceNew w w' v (stBytes xs wh most s).1 ∧ RRAt w' g A n c xs (stBytes xs wh most s).2 ∧ Fr (fun x => x = g) w w' := by
  have CI := Lib.hid (refInt_any h wh)
  cases s with
  | bad er a w0 =>
    obtain ⟨he, p, hr⟩ := h
    have c1 : w.cell? ⟨g, 1, none⟩ = some (.int .i64 p) := hr.bk.cell 1
    have he1 : (er == 0) = false := by rw [beq_eq_false_iff_ne]; exact he
    have he2 : (er != 0) = true := by rw [bne, he1]; rfl
    go_enter Tryz.func40, Tryz.ntmps40
    go_wp2_with fail
    refine (refInt_bad hr he1 wh).mono ?_; rintro e w1 ⟨rfl, rfl⟩
    have c2 : w.cell? ⟨g, 2, none⟩ = some (.int .i64 er) := hr.bk.cell 2
    go_wp2
    go_ret
    exact ⟨_, rfl, ⟨none, 0, rfl, Own8.nil _ _, fun k hk => by simp [Value.ownBlock] at hk⟩, ⟨he, p, hr⟩, Fr.refl _ _⟩
  | at_ k =>
    obtain ⟨hk, fat, what, hr⟩ := h
    have hl := hr.len
    have c1 : w.cell? ⟨g, 1, none⟩ = some (.int .i64 k) := hr.bk.cell 1
    cases hN : rdNum (xs.drop k) with
    | bad b =>
      have hb0 := num_bad hN
      have hs : stBytes xs wh most (.at_ k) = ([], .bad b k wh) := by rw [srR]; simp [srRun, hN]
      have hs2 : stInt xs wh (.at_ k) = (0, .bad b k wh) := by simp [stInt, hN]
      rw [hs]
      rw [hs2] at CI
      clear hs hs2 hN
      have he1 : (b == 0) = false := by rw [beq_eq_false_iff_ne]; exact hb0
      have he2 : (b != 0) = true := by rw [bne, he1]; rfl
      go_enter Tryz.func40, Tryz.ntmps40
      go_wp2_with fail
      refine CI.out.mono ?_
      rintro e w1 ⟨rfl, ⟨hq, p, h1⟩, hf1⟩
      have c2 : w1.cell? ⟨g, 2, none⟩ = some (.int .i64 b) := h1.bk.cell 2
      go_wp2
      go_ret
      exact ⟨_, rfl, ⟨none, 0, rfl, Own8.nil _ _, fun k hk => by simp [Value.ownBlock] at hk⟩, ⟨hq, p, h1⟩, hf1⟩
    | ok u m =>
      have hs2 : stInt xs wh (.at_ k) = (unfN u, .at_ (k + m)) := by simp [stInt, hN]
      rw [hs2] at CI
      clear hs2
      by_cases h1 : unfN u < 0
      · have hs : stBytes xs wh most (.at_ k) = ([], .bad 8 k wh) := by rw [srR]; simp [srRun, hN, h1]
        rw [hs]
        clear hs hN
        go_enter Tryz.func40, Tryz.ntmps40
        go_wp2_with fail
        refine CI.out.mono ?_
        rintro e w1 ⟨rfl, ⟨hq, fat1, what1, hr1⟩, hf1⟩
        have c2 : w1.cell? ⟨g, 2, none⟩ = some (.int .i64 0) := hr1.bk.cell 2
        go_wp2_with fail
        refine (rfail_any hr1 8 k wh).mono ?_; rintro e w2 ⟨rfl, hr2, hf2⟩
        go_wp2
        go_ret
        exact ⟨_, rfl, ⟨none, 0, rfl, Own8.nil _ _, fun k hk => by simp [Value.ownBlock] at hk⟩, ⟨by decide, _, hr2⟩, hf1.trans hf2 (fun _ _ h => h)⟩
      · by_cases h2 : most < unfN u
        · have hs : stBytes xs wh most (.at_ k) = ([], .bad 10 k wh) := by rw [srR]; simp [srRun, hN, h1, h2]
          rw [hs]
          clear hs hN
          have h1' : (0 : Int) ≤ unfN u := by omega
          go_enter Tryz.func40, Tryz.ntmps40
          go_wp2_with fail
          refine CI.out.mono ?_
          rintro e w1 ⟨rfl, ⟨hq, fat1, what1, hr1⟩, hf1⟩
          have c2 : w1.cell? ⟨g, 2, none⟩ = some (.int .i64 0) := hr1.bk.cell 2
          go_wp2_with fail
          refine (rfail_any hr1 10 k wh).mono ?_; rintro e w2 ⟨rfl, hr2, hf2⟩
          go_wp2
          go_ret
          exact ⟨_, rfl, ⟨none, 0, rfl, Own8.nil _ _, fun k hk => by simp [Value.ownBlock] at hk⟩, ⟨by decide, _, hr2⟩, hf1.trans hf2 (fun _ _ h => h)⟩
        · by_cases h3 : (n : Int) - ((k + m : Nat) : Int) < unfN u
          · have hs : stBytes xs wh most (.at_ k) = ([], .bad 7 k wh) := by
              rw [srR]; simp only [srRun, hN]; rw [if_neg h1, if_neg h2, hl, if_pos h3]
            rw [hs]
            clear hs hN
            have h1' : (0 : Int) ≤ unfN u := by omega
            have h2' : unfN u ≤ most := by omega
            go_enter Tryz.func40, Tryz.ntmps40
            go_wp2_with fail
            refine CI.out.mono ?_
            rintro e w1 ⟨rfl, ⟨hq, fat1, what1, hr1⟩, hf1⟩
            have c2 : w1.cell? ⟨g, 2, none⟩ = some (.int .i64 0) := hr1.bk.cell 2
            have c0 : w1.cell? ⟨g, 0, none⟩ = some (.slice A n c) := hr1.bk.cell 0
            have c1' : w1.cell? ⟨g, 1, none⟩ = some (.int .i64 (k + m : Nat)) := hr1.bk.cell 1
            have hcap := hr1.cap
            have hbig := hr1.big
            generalize k + m = K at *
            generalize unfN u = U at *
            go_wp2_with fail
            go_quiet (fail)
            go_wp2_with fail
            refine (rfail_any (hr1.quiet ((Fr.refl (fun _ => False) w1).drewN nq)) 7 k wh).mono ?_; rintro e w2 ⟨rfl, hr2, hf2⟩
            go_wp2
            go_ret
            exact ⟨_, rfl, ⟨none, 0, rfl, Own8.nil _ _, fun k hk => by simp [Value.ownBlock] at hk⟩, ⟨by decide, _, hr2⟩, (hf1.drewN nq).trans hf2 (fun _ _ h => h)⟩
          · obtain ⟨L, hL⟩ : ∃ L : Nat, unfN u = (L : Int) := ⟨(unfN u).toNat, by omega⟩
            have hs : stBytes xs wh most (.at_ k) = ((xs.drop (k + m)).take L, .at_ (k + m + L)) := by
              rw [srR]; simp only [srRun, hN]; rw [if_neg h1, if_neg h2, hl, if_neg h3, hL]; rfl
            rw [hs]
            rw [hL] at CI h1 h2 h3
            clear hs hN hL
            have h2' : (L : Int) ≤ most := by omega
            have hrp : ((xs.drop (k + m)).take L).length = L := by simp; omega
            generalize k + m = J at *
            go_enter Tryz.func40, Tryz.ntmps40
            go_wp2_with fail
            refine CI.out.mono ?_
            rintro e w1 ⟨rfl, ⟨hq, fat1, what1, hr1⟩, hf1⟩
            have c2 : w1.cell? ⟨g, 2, none⟩ = some (.int .i64 0) := hr1.bk.cell 2
            have c0 : w1.cell? ⟨g, 0, none⟩ = some (.slice A n c) := hr1.bk.cell 0
            have c1' : w1.cell? ⟨g, 1, none⟩ = some (.int .i64 J) := hr1.bk.cell 1
            have hcap := hr1.cap
            have hbig := hr1.big
            clear c1 hr hk CI h1
            go_wp2_with fail
            go_quiet (fail)
            go_upto_region 5 with (fail)
            have hwr : IntKind.i64.wrap ((J : Int) + (L : Int)) = (J : Int) + L := by rw [IntKind.wrap_i64]; omega
            have i1 : (J : Int) + L ≤ c := by omega
            have i2 : (J : Int) ≤ (J : Int) + L := by omega
            have i0 : (0 : Int) ≤ J := by omega
            have hrp' : ((xs.drop J).take L).length = ((J : Int) + (L : Int)).toNat - J := by omega
            by_cases hcK : c = J
            · have hKc := hcK.symm
              clear hcK
              subst hKc
              have HX0 := Lib.hid (show (xs.drop J).take L = [] from List.eq_nil_of_length_eq_zero (by omega))
              have i3 : ¬ ((J : Int) < J) := by omega
              have j1 : (0 : Int) ≤ (J : Int) + L := by omega
              have j3 : J ≤ ((J : Int) + L).toNat := by omega
              have HC0 := Lib.hid (fun w' (hf : Fr (fun _ => False) w1 w') => show w'.cell? ⟨g, 0, none⟩ = some (.slice A n J) from (hr1.quiet hf).bk.cell 0)
              have HC1 := Lib.hid (fun w' (hf : Fr (fun _ => False) w1 w') => show w'.cell? ⟨g, 1, none⟩ = some (.int .i64 J) from (hr1.quiet hf).bk.cell 1)
              refine wp_region_held_drew (S := fun w' => Fr (fun _ => False) w1 w') (by kernel_rfl) (((Fr.refl _ _).drewN nq).drew) (fun hHeld => ?_)
              refine wpAnyH_takeD (i := 1) (v := ?_) (some 24) rfl rfl (by kernel_rfl) (by kernel_rfl) (by kernel_rfl) (fun _ _ _ h => h) (Or.inl ⟨by rfl, ?_⟩) (by assumption) ?_
              rotate_left
              · intro w' hSw
                go_simp
                first | done | with_reducible rfl
              try simp only [Act.put, List.setIfInBounds_toArray, List.set_cons_zero, List.set_cons_succ]
              refine wpAnyH_takeD (i := 2) (v := ?_) (some 25) rfl rfl (by kernel_rfl) (by kernel_rfl) (by kernel_rfl) (fun _ _ _ h => h) (Or.inl ⟨by rfl, ?_⟩) (by assumption) ?_
              rotate_left
              · intro w' hSw
                go_simp
                first | done | with_reducible rfl
              try simp only [Act.put, List.setIfInBounds_toArray, List.set_cons_zero, List.set_cons_succ]
              refine wpAnyH_takeD (i := 3) (v := ?_) (some 26) rfl rfl (by kernel_rfl) (by kernel_rfl) (by kernel_rfl) (fun _ _ _ h => h) (Or.inl ⟨by rfl, ?_⟩) (by assumption) ?_
              rotate_left
              · intro w' hSw
                go_simp
                first | done | with_reducible rfl
              try simp only [Act.put, List.setIfInBounds_toArray, List.set_cons_zero, List.set_cons_succ]
              refine wpAnyH_takeD (i := 4) (v := ?_) (some 27) rfl rfl (by kernel_rfl) (by kernel_rfl) (by kernel_rfl) (fun _ _ _ h => h) (Or.inl ⟨by rfl, ?_⟩) (by assumption) ?_
              rotate_left
              · intro w' hSw
                have q0 := HC0.out w' hSw
                go_simp
                first | done | with_reducible rfl
              try simp only [Act.put, List.setIfInBounds_toArray, List.set_cons_zero, List.set_cons_succ]
              refine wpAnyH_takeD (i := 5) (v := ?_) (some 28) rfl rfl (by kernel_rfl) (by kernel_rfl) (by kernel_rfl) (fun _ _ _ h => h) (Or.inl ⟨by rfl, ?_⟩) (by assumption) ?_
              rotate_left
              · intro w' hSw
                go_simp
                first | done | with_reducible rfl
              try simp only [Act.put, List.setIfInBounds_toArray, List.set_cons_zero, List.set_cons_succ]
              refine wpAnyH_takeD (i := 6) (v := ?_) (some 29) rfl rfl (by kernel_rfl) (by kernel_rfl) (by kernel_rfl) (fun _ _ _ h => h) (Or.inl ⟨by rfl, ?_⟩) (by assumption) ?_
              rotate_left
              · intro w' hSw
                go_simp
                first | done | with_reducible rfl
              try simp only [Act.put, List.setIfInBounds_toArray, List.set_cons_zero, List.set_cons_succ]
              refine wpAnyH_takeD (i := 7) (v := ?_) (some 30) rfl rfl (by kernel_rfl) (by kernel_rfl) (by kernel_rfl) (fun _ _ _ h => h) (Or.inl ⟨by rfl, ?_⟩) (by assumption) ?_
              rotate_left
              · intro w' hSw
                go_simp
                first | done | with_reducible rfl
              try simp only [Act.put, List.setIfInBounds_toArray, List.set_cons_zero, List.set_cons_succ]
              refine wpAnyH_takeD (i := 8) (v := ?_) (some 31) rfl rfl (by kernel_rfl) (by kernel_rfl) (by kernel_rfl) (fun _ _ _ h => h) (Or.inl ⟨by rfl, ?_⟩) (by assumption) ?_
              rotate_left
              · intro w' hSw
                have q1 := HC1.out w' hSw
                go_simp
                first | done | with_reducible rfl
              try simp only [Act.put, List.setIfInBounds_toArray, List.set_cons_zero, List.set_cons_succ]
              refine wpAnyH_takeD (i := 9) (v := ?_) (some 32) rfl rfl (by kernel_rfl) (by kernel_rfl) (by kernel_rfl) (fun _ _ _ h => h) (Or.inl ⟨by rfl, ?_⟩) (by assumption) ?_
              rotate_left
              · intro w' hSw
                go_simp
                first | done | with_reducible rfl
              try simp only [Act.put, List.setIfInBounds_toArray, List.set_cons_zero, List.set_cons_succ]
              refine wpAnyH_takeD (i := 10) (v := ?_) (some 33) rfl rfl (by kernel_rfl) (by kernel_rfl) (by kernel_rfl) (fun _ _ _ h => h) (Or.inl ⟨by rfl, ?_⟩) (by assumption) ?_
              rotate_left
              · intro w' hSw
                go_simp
                first | done | with_reducible rfl
              try simp only [Act.put, List.setIfInBounds_toArray, List.set_cons_zero, List.set_cons_succ]
              refine wpAnyH_takeD (i := 11) (v := ?_) (some 34) rfl rfl (by kernel_rfl) (by kernel_rfl) (by kernel_rfl) (fun _ _ _ h => h) (Or.inl ⟨by rfl, ?_⟩) (by assumption) ?_
              rotate_left
              · intro w' hSw
                go_simp
                first | done | with_reducible rfl
              try simp only [Act.put, List.setIfInBounds_toArray, List.set_cons_zero, List.set_cons_succ]
              refine wpAnyH_takeD (i := 12) (v := ?_) (some 35) rfl rfl (by kernel_rfl) (by kernel_rfl) (by kernel_rfl) (fun _ _ _ h => h) (Or.inl ⟨by rfl, ?_⟩) (by assumption) ?_
              rotate_left
              · intro w' hSw
                have q1 := HC1.out w' hSw
                go_simp
                first | done | with_reducible rfl
              try simp only [Act.put, List.setIfInBounds_toArray, List.set_cons_zero, List.set_cons_succ]
              refine wpAnyH_takeD (i := 13) (v := ?_) (some 36) rfl rfl (by kernel_rfl) (by kernel_rfl) (by kernel_rfl) (fun _ _ _ h => h) (Or.inl ⟨by rfl, ?_⟩) (by assumption) ?_
              rotate_left
              · intro w' hSw
                go_simp
                first | done | with_reducible rfl
              try simp only [Act.put, List.setIfInBounds_toArray, List.set_cons_zero, List.set_cons_succ]
              refine wpAnyH_takeD (i := 14) (v := ?_) (some 37) rfl rfl (by kernel_rfl) (by kernel_rfl) (by kernel_rfl) (fun _ _ _ h => h) (Or.inl ⟨by rfl, ?_⟩) (by assumption) ?_
              rotate_left
              · intro w' hSw
                go_simp
                first | done | with_reducible rfl
              try simp only [Act.put, List.setIfInBounds_toArray, List.set_cons_zero, List.set_cons_succ]
              refine wpAnyH_takeD (i := 15) (v := ?_) (some 38) rfl rfl (by kernel_rfl) (by kernel_rfl) (by kernel_rfl) (fun _ _ _ h => h) (Or.inl ⟨by rfl, ?_⟩) (by assumption) ?_
              rotate_left
              · intro w' hSw
                go_simp
                first | done | with_reducible rfl
              try simp only [Act.put, List.setIfInBounds_toArray, List.set_cons_zero, List.set_cons_succ]
              refine wpAnyH_ready (rs := [0]) (by kernel_rfl) (by simp) ?_
              refine AllReadyH.cons rfl (fun K hK => ?_) AllReadyH.nil
              go_simp
              refine hK.out _ _ (Fr.alloc hHeld _) (fun hHeld => ?_)
              clear hK K
              try change wpAnyH _ _ _ _ _ _ _ (Act.put _ (some 23) _) _
              try simp only [Act.put, List.setIfInBounds_toArray, List.set_cons_zero, List.set_cons_succ]
              have ho0 : Own8 ((w1.drewN (nq + 1)).alloc (.cells #[] 5)) 5 (.slice (some ⟨(w1.drewN (nq + 1)).heap.size, 0, none⟩) 0 0) [] := Own8.fresh _ _ #[] 0 rfl (by unfold maxLen; omega)
              refine wpAnyH_ready (rs := [16]) (by kernel_rfl) (by simp) ?_
              refine AllReadyH.cons rfl (fun K hK => ?_) AllReadyH.nil
              refine stepOf_append8s rfl (.tmp 23) (.tmp 38) Tryz.t8 rfl (.slice (some ⟨w1.heap.size, 0, none⟩) 0 0) [] rfl ho0 _ _ _ ((xs.drop J).take L) rfl (by first | exact hrp' | (rw [hrp]; omega)) (by rw [HX0.out]; exact Rd8.nil _ _) (by simp; omega) ?_
              intro A2 c2' w2 ho2 hf2 hm2
              have hfr2 : Fresh w1 w2 (.slice A2 (0 + ((xs.drop J).take L).length) c2') := Fresh.step (v1 := .slice (some ⟨w1.heap.size, 0, none⟩) 0 0) (Fresh.put hHeld (Nat.le_refl _)) hf2 hm2
              simp only [List.length_nil, Nat.zero_add, List.nil_append, hrp] at ho2 hfr2 ⊢
              refine hK.out _ _ hfr2.1 (fun hHeld => ?_)
              clear hK K hf2 hm2 ho0
              try change wpAnyH _ _ _ _ _ _ _ (Act.put _ (some 39) _) _
              try simp only [Act.put, List.setIfInBounds_toArray, List.set_cons_zero, List.set_cons_succ]
              refine wpAnyH_takeD (i := 17) (v := ?_) (some 9) rfl rfl (by kernel_rfl) (by kernel_rfl) (by kernel_rfl) (fun _ _ _ h => h) (Or.inl ⟨by rfl, ?_⟩) (by assumption) ?_
              rotate_left
              · intro w' hSw
                go_simp
                first | done | with_reducible rfl
              try simp only [Act.put, List.setIfInBounds_toArray, List.set_cons_zero, List.set_cons_succ]
              refine wpAnyH_done (by kernel_rfl) ?_ _
              have hr2 := hr1.quiet hfr2.1
              have d1 : w2.cell? ⟨g, 1, none⟩ = some (.int .i64 J) := hr2.bk.cell 1
              have f1 : w2.frozen? ⟨g, 1, none⟩ = false := hr2.bk.frozen 1
              have hne : ∀ k, (Value.slice A2 L c2').ownBlock = some k → k ≠ g := fun k hk e => by
                have := hfr2.2 k hk
                have := hr1.bk.lt
                omega
              have HE := Lib.hid (And.intro hf1 (And.intro hr2 (And.intro ho2 (And.intro hfr2 hne))))
              clear hf1 hr2 ho2 hfr2 hne hr1
              go_wp2
              go_ret
              obtain ⟨hf1, hr2, ho2, hfr2, hne⟩ := HE.out
              exact ⟨_, rfl, ⟨A2, c2', by rw [hrp]; rfl, by rw [hrp]; exact ho2.fr (fr_set (g := g) (i := 1)) (fun k hk e => hne k hk e), fun k hk => Nat.le_trans hf1.size (hfr2.2 k hk)⟩, ⟨by omega, _, _, by rw [Int.natCast_add]; exact hr2.set _⟩, hf1.trans ((hfr2.1.mono (fun _ _ h => h.elim)).trans fr_set (fun _ _ h => h)) (fun _ _ h => h)⟩

            · have i3 : (J : Int) < c := by omega
              rcases Nat.eq_zero_or_pos n with hn0 | hn0
              · have HX0 := Lib.hid (show (xs.drop J).take L = [] from List.eq_nil_of_length_eq_zero (by omega))
                rcases A with _ | ⟨b, o, _ | sp⟩
                · skip
                  have HC0 := Lib.hid (fun w' (hf : Fr (fun _ => False) w1 w') => show w'.cell? ⟨g, 0, none⟩ = some (.slice none n c) from (hr1.quiet hf).bk.cell 0)
                  have HC1 := Lib.hid (fun w' (hf : Fr (fun _ => False) w1 w') => show w'.cell? ⟨g, 1, none⟩ = some (.int .i64 J) from (hr1.quiet hf).bk.cell 1)
                  refine wp_region_held_drew (S := fun w' => Fr (fun _ => False) w1 w') (by kernel_rfl) (((Fr.refl _ _).drewN nq).drew) (fun hHeld => ?_)
                  refine wpAnyH_takeD (i := 1) (v := ?_) (some 24) rfl rfl (by kernel_rfl) (by kernel_rfl) (by kernel_rfl) (fun _ _ _ h => h) (Or.inl ⟨by rfl, ?_⟩) (by assumption) ?_
                  rotate_left
                  · intro w' hSw
                    go_simp
                    first | done | with_reducible rfl
                  try simp only [Act.put, List.setIfInBounds_toArray, List.set_cons_zero, List.set_cons_succ]
                  refine wpAnyH_takeD (i := 2) (v := ?_) (some 25) rfl rfl (by kernel_rfl) (by kernel_rfl) (by kernel_rfl) (fun _ _ _ h => h) (Or.inl ⟨by rfl, ?_⟩) (by assumption) ?_
                  rotate_left
                  · intro w' hSw
                    go_simp
                    first | done | with_reducible rfl
                  try simp only [Act.put, List.setIfInBounds_toArray, List.set_cons_zero, List.set_cons_succ]
                  refine wpAnyH_takeD (i := 3) (v := ?_) (some 26) rfl rfl (by kernel_rfl) (by kernel_rfl) (by kernel_rfl) (fun _ _ _ h => h) (Or.inl ⟨by rfl, ?_⟩) (by assumption) ?_
                  rotate_left
                  · intro w' hSw
                    go_simp
                    first | done | with_reducible rfl
                  try simp only [Act.put, List.setIfInBounds_toArray, List.set_cons_zero, List.set_cons_succ]
                  refine wpAnyH_takeD (i := 4) (v := ?_) (some 27) rfl rfl (by kernel_rfl) (by kernel_rfl) (by kernel_rfl) (fun _ _ _ h => h) (Or.inl ⟨by rfl, ?_⟩) (by assumption) ?_
                  rotate_left
                  · intro w' hSw
                    have q0 := HC0.out w' hSw
                    go_simp
                    first | done | with_reducible rfl
                  try simp only [Act.put, List.setIfInBounds_toArray, List.set_cons_zero, List.set_cons_succ]
                  refine wpAnyH_takeD (i := 5) (v := ?_) (some 28) rfl rfl (by kernel_rfl) (by kernel_rfl) (by kernel_rfl) (fun _ _ _ h => h) (Or.inl ⟨by rfl, ?_⟩) (by assumption) ?_
                  rotate_left
                  · intro w' hSw
                    go_simp
                    first | done | with_reducible rfl
                  try simp only [Act.put, List.setIfInBounds_toArray, List.set_cons_zero, List.set_cons_succ]
                  refine wpAnyH_takeD (i := 6) (v := ?_) (some 29) rfl rfl (by kernel_rfl) (by kernel_rfl) (by kernel_rfl) (fun _ _ _ h => h) (Or.inl ⟨by rfl, ?_⟩) (by assumption) ?_
                  rotate_left
                  · intro w' hSw
                    go_simp
                    first | done | with_reducible rfl
                  try simp only [Act.put, List.setIfInBounds_toArray, List.set_cons_zero, List.set_cons_succ]
                  refine wpAnyH_takeD (i := 7) (v := ?_) (some 30) rfl rfl (by kernel_rfl) (by kernel_rfl) (by kernel_rfl) (fun _ _ _ h => h) (Or.inl ⟨by rfl, ?_⟩) (by assumption) ?_
                  rotate_left
                  · intro w' hSw
                    go_simp
                    first | done | with_reducible rfl
                  try simp only [Act.put, List.setIfInBounds_toArray, List.set_cons_zero, List.set_cons_succ]
                  refine wpAnyH_takeD (i := 8) (v := ?_) (some 31) rfl rfl (by kernel_rfl) (by kernel_rfl) (by kernel_rfl) (fun _ _ _ h => h) (Or.inl ⟨by rfl, ?_⟩) (by assumption) ?_
                  rotate_left
                  · intro w' hSw
                    have q1 := HC1.out w' hSw
                    go_simp
                    first | done | with_reducible rfl
                  try simp only [Act.put, List.setIfInBounds_toArray, List.set_cons_zero, List.set_cons_succ]
                  refine wpAnyH_takeD (i := 9) (v := ?_) (some 32) rfl rfl (by kernel_rfl) (by kernel_rfl) (by kernel_rfl) (fun _ _ _ h => h) (Or.inl ⟨by rfl, ?_⟩) (by assumption) ?_
                  rotate_left
                  · intro w' hSw
                    go_simp
                    first | done | with_reducible rfl
                  try simp only [Act.put, List.setIfInBounds_toArray, List.set_cons_zero, List.set_cons_succ]
                  refine wpAnyH_takeD (i := 10) (v := ?_) (some 33) rfl rfl (by kernel_rfl) (by kernel_rfl) (by kernel_rfl) (fun _ _ _ h => h) (Or.inl ⟨by rfl, ?_⟩) (by assumption) ?_
                  rotate_left
                  · intro w' hSw
                    go_simp
                    first | done | with_reducible rfl
                  try simp only [Act.put, List.setIfInBounds_toArray, List.set_cons_zero, List.set_cons_succ]
                  refine wpAnyH_takeD (i := 11) (v := ?_) (some 34) rfl rfl (by kernel_rfl) (by kernel_rfl) (by kernel_rfl) (fun _ _ _ h => h) (Or.inl ⟨by rfl, ?_⟩) (by assumption) ?_
                  rotate_left
                  · intro w' hSw
                    go_simp
                    first | done | with_reducible rfl
                  try simp only [Act.put, List.setIfInBounds_toArray, List.set_cons_zero, List.set_cons_succ]
                  refine wpAnyH_takeD (i := 12) (v := ?_) (some 35) rfl rfl (by kernel_rfl) (by kernel_rfl) (by kernel_rfl) (fun _ _ _ h => h) (Or.inl ⟨by rfl, ?_⟩) (by assumption) ?_
                  rotate_left
                  · intro w' hSw
                    have q1 := HC1.out w' hSw
                    go_simp
                    first | done | with_reducible rfl
                  try simp only [Act.put, List.setIfInBounds_toArray, List.set_cons_zero, List.set_cons_succ]
                  refine wpAnyH_takeD (i := 13) (v := ?_) (some 36) rfl rfl (by kernel_rfl) (by kernel_rfl) (by kernel_rfl) (fun _ _ _ h => h) (Or.inl ⟨by rfl, ?_⟩) (by assumption) ?_
                  rotate_left
                  · intro w' hSw
                    go_simp
                    first | done | with_reducible rfl
                  try simp only [Act.put, List.setIfInBounds_toArray, List.set_cons_zero, List.set_cons_succ]
                  refine wpAnyH_takeD (i := 14) (v := ?_) (some 37) rfl rfl (by kernel_rfl) (by kernel_rfl) (by kernel_rfl) (fun _ _ _ h => h) (Or.inl ⟨by rfl, ?_⟩) (by assumption) ?_
                  rotate_left
                  · intro w' hSw
                    go_simp
                    first | done | with_reducible rfl
                  try simp only [Act.put, List.setIfInBounds_toArray, List.set_cons_zero, List.set_cons_succ]
                  refine wpAnyH_takeD (i := 15) (v := ?_) (some 38) rfl rfl (by kernel_rfl) (by kernel_rfl) (by kernel_rfl) (fun _ _ _ h => h) (Or.inl ⟨by rfl, ?_⟩) (by assumption) ?_
                  rotate_left
                  · intro w' hSw
                    go_simp
                    first | done | with_reducible rfl
                  try simp only [Act.put, List.setIfInBounds_toArray, List.set_cons_zero, List.set_cons_succ]
                  refine wpAnyH_ready (rs := [0]) (by kernel_rfl) (by simp) ?_
                  refine AllReadyH.cons rfl (fun K hK => ?_) AllReadyH.nil
                  go_simp
                  refine hK.out _ _ (Fr.alloc hHeld _) (fun hHeld => ?_)
                  clear hK K
                  try change wpAnyH _ _ _ _ _ _ _ (Act.put _ (some 23) _) _
                  try simp only [Act.put, List.setIfInBounds_toArray, List.set_cons_zero, List.set_cons_succ]
                  have ho0 : Own8 ((w1.drewN (nq + 1)).alloc (.cells #[] 5)) 5 (.slice (some ⟨(w1.drewN (nq + 1)).heap.size, 0, none⟩) 0 0) [] := Own8.fresh _ _ #[] 0 rfl (by unfold maxLen; omega)
                  refine wpAnyH_ready (rs := [16]) (by kernel_rfl) (by simp) ?_
                  refine AllReadyH.cons rfl (fun K hK => ?_) AllReadyH.nil
                  refine stepOf_append8s rfl (.tmp 23) (.tmp 38) Tryz.t8 rfl (.slice (some ⟨w1.heap.size, 0, none⟩) 0 0) [] rfl ho0 _ _ _ ((xs.drop J).take L) rfl (by first | exact hrp' | (rw [hrp]; omega)) (by rw [HX0.out]; exact Rd8.nil _ _) (by simp; omega) ?_
                  intro A2 c2' w2 ho2 hf2 hm2
                  have hfr2 : Fresh w1 w2 (.slice A2 (0 + ((xs.drop J).take L).length) c2') := Fresh.step (v1 := .slice (some ⟨w1.heap.size, 0, none⟩) 0 0) (Fresh.put hHeld (Nat.le_refl _)) hf2 hm2
                  simp only [List.length_nil, Nat.zero_add, List.nil_append, hrp] at ho2 hfr2 ⊢
                  refine hK.out _ _ hfr2.1 (fun hHeld => ?_)
                  clear hK K hf2 hm2 ho0
                  try change wpAnyH _ _ _ _ _ _ _ (Act.put _ (some 39) _) _
                  try simp only [Act.put, List.setIfInBounds_toArray, List.set_cons_zero, List.set_cons_succ]
                  refine wpAnyH_takeD (i := 17) (v := ?_) (some 9) rfl rfl (by kernel_rfl) (by kernel_rfl) (by kernel_rfl) (fun _ _ _ h => h) (Or.inl ⟨by rfl, ?_⟩) (by assumption) ?_
                  rotate_left
                  · intro w' hSw
                    go_simp
                    first | done | with_reducible rfl
                  try simp only [Act.put, List.setIfInBounds_toArray, List.set_cons_zero, List.set_cons_succ]
                  refine wpAnyH_done (by kernel_rfl) ?_ _
                  have hr2 := hr1.quiet hfr2.1
                  have d1 : w2.cell? ⟨g, 1, none⟩ = some (.int .i64 J) := hr2.bk.cell 1
                  have f1 : w2.frozen? ⟨g, 1, none⟩ = false := hr2.bk.frozen 1
                  have hne : ∀ k, (Value.slice A2 L c2').ownBlock = some k → k ≠ g := fun k hk e => by
                    have := hfr2.2 k hk
                    have := hr1.bk.lt
                    omega
                  have HE := Lib.hid (And.intro hf1 (And.intro hr2 (And.intro ho2 (And.intro hfr2 hne))))
                  clear hf1 hr2 ho2 hfr2 hne hr1
                  go_wp2
                  go_ret
                  obtain ⟨hf1, hr2, ho2, hfr2, hne⟩ := HE.out
                  exact ⟨_, rfl, ⟨A2, c2', by rw [hrp]; rfl, by rw [hrp]; exact ho2.fr (fr_set (g := g) (i := 1)) (fun k hk e => hne k hk e), fun k hk => Nat.le_trans hf1.size (hfr2.2 k hk)⟩, ⟨by omega, _, _, by rw [Int.natCast_add]; exact hr2.set _⟩, hf1.trans ((hfr2.1.mono (fun _ _ h => h.elim)).trans fr_set (fun _ _ h => h)) (fun _ _ h => h)⟩

                · skip
                  have HC0 := Lib.hid (fun w' (hf : Fr (fun _ => False) w1 w') => show w'.cell? ⟨g, 0, none⟩ = some (.slice (some ⟨b, o, none⟩) n c) from (hr1.quiet hf).bk.cell 0)
                  have HC1 := Lib.hid (fun w' (hf : Fr (fun _ => False) w1 w') => show w'.cell? ⟨g, 1, none⟩ = some (.int .i64 J) from (hr1.quiet hf).bk.cell 1)
                  refine wp_region_held_drew (S := fun w' => Fr (fun _ => False) w1 w') (by kernel_rfl) (((Fr.refl _ _).drewN nq).drew) (fun hHeld => ?_)
                  refine wpAnyH_takeD (i := 1) (v := ?_) (some 24) rfl rfl (by kernel_rfl) (by kernel_rfl) (by kernel_rfl) (fun _ _ _ h => h) (Or.inl ⟨by rfl, ?_⟩) (by assumption) ?_
                  rotate_left
                  · intro w' hSw
                    go_simp
                    first | done | with_reducible rfl
                  try simp only [Act.put, List.setIfInBounds_toArray, List.set_cons_zero, List.set_cons_succ]
                  refine wpAnyH_takeD (i := 2) (v := ?_) (some 25) rfl rfl (by kernel_rfl) (by kernel_rfl) (by kernel_rfl) (fun _ _ _ h => h) (Or.inl ⟨by rfl, ?_⟩) (by assumption) ?_
                  rotate_left
                  · intro w' hSw
                    go_simp
                    first | done | with_reducible rfl
                  try simp only [Act.put, List.setIfInBounds_toArray, List.set_cons_zero, List.set_cons_succ]
                  refine wpAnyH_takeD (i := 3) (v := ?_) (some 26) rfl rfl (by kernel_rfl) (by kernel_rfl) (by kernel_rfl) (fun _ _ _ h => h) (Or.inl ⟨by rfl, ?_⟩) (by assumption) ?_
                  rotate_left
                  · intro w' hSw
                    go_simp
                    first | done | with_reducible rfl
                  try simp only [Act.put, List.setIfInBounds_toArray, List.set_cons_zero, List.set_cons_succ]
                  refine wpAnyH_takeD (i := 4) (v := ?_) (some 27) rfl rfl (by kernel_rfl) (by kernel_rfl) (by kernel_rfl) (fun _ _ _ h => h) (Or.inl ⟨by rfl, ?_⟩) (by assumption) ?_
                  rotate_left
                  · intro w' hSw
                    have q0 := HC0.out w' hSw
                    go_simp
                    first | done | with_reducible rfl
                  try simp only [Act.put, List.setIfInBounds_toArray, List.set_cons_zero, List.set_cons_succ]
                  refine wpAnyH_takeD (i := 5) (v := ?_) (some 28) rfl rfl (by kernel_rfl) (by kernel_rfl) (by kernel_rfl) (fun _ _ _ h => h) (Or.inl ⟨by rfl, ?_⟩) (by assumption) ?_
                  rotate_left
                  · intro w' hSw
                    go_simp
                    first | done | with_reducible rfl
                  try simp only [Act.put, List.setIfInBounds_toArray, List.set_cons_zero, List.set_cons_succ]
                  refine wpAnyH_takeD (i := 6) (v := ?_) (some 29) rfl rfl (by kernel_rfl) (by kernel_rfl) (by kernel_rfl) (fun _ _ _ h => h) (Or.inl ⟨by rfl, ?_⟩) (by assumption) ?_
                  rotate_left
                  · intro w' hSw
                    go_simp
                    first | done | with_reducible rfl
                  try simp only [Act.put, List.setIfInBounds_toArray, List.set_cons_zero, List.set_cons_succ]
                  refine wpAnyH_takeD (i := 7) (v := ?_) (some 30) rfl rfl (by kernel_rfl) (by kernel_rfl) (by kernel_rfl) (fun _ _ _ h => h) (Or.inl ⟨by rfl, ?_⟩) (by assumption) ?_
                  rotate_left
                  · intro w' hSw
                    go_simp
                    first | done | with_reducible rfl
                  try simp only [Act.put, List.setIfInBounds_toArray, List.set_cons_zero, List.set_cons_succ]
                  refine wpAnyH_takeD (i := 8) (v := ?_) (some 31) rfl rfl (by kernel_rfl) (by kernel_rfl) (by kernel_rfl) (fun _ _ _ h => h) (Or.inl ⟨by rfl, ?_⟩) (by assumption) ?_
                  rotate_left
                  · intro w' hSw
                    have q1 := HC1.out w' hSw
                    go_simp
                    first | done | with_reducible rfl
                  try simp only [Act.put, List.setIfInBounds_toArray, List.set_cons_zero, List.set_cons_succ]
                  refine wpAnyH_takeD (i := 9) (v := ?_) (some 32) rfl rfl (by kernel_rfl) (by kernel_rfl) (by kernel_rfl) (fun _ _ _ h => h) (Or.inl ⟨by rfl, ?_⟩) (by assumption) ?_
                  rotate_left
                  · intro w' hSw
                    go_simp
                    first | done | with_reducible rfl
                  try simp only [Act.put, List.setIfInBounds_toArray, List.set_cons_zero, List.set_cons_succ]
                  refine wpAnyH_takeD (i := 10) (v := ?_) (some 33) rfl rfl (by kernel_rfl) (by kernel_rfl) (by kernel_rfl) (fun _ _ _ h => h) (Or.inl ⟨by rfl, ?_⟩) (by assumption) ?_
                  rotate_left
                  · intro w' hSw
                    go_simp
                    first | done | with_reducible rfl
                  try simp only [Act.put, List.setIfInBounds_toArray, List.set_cons_zero, List.set_cons_succ]
                  refine wpAnyH_takeD (i := 11) (v := ?_) (some 34) rfl rfl (by kernel_rfl) (by kernel_rfl) (by kernel_rfl) (fun _ _ _ h => h) (Or.inl ⟨by rfl, ?_⟩) (by assumption) ?_
                  rotate_left
                  · intro w' hSw
                    go_simp
                    first | done | with_reducible rfl
                  try simp only [Act.put, List.setIfInBounds_toArray, List.set_cons_zero, List.set_cons_succ]
                  refine wpAnyH_takeD (i := 12) (v := ?_) (some 35) rfl rfl (by kernel_rfl) (by kernel_rfl) (by kernel_rfl) (fun _ _ _ h => h) (Or.inl ⟨by rfl, ?_⟩) (by assumption) ?_
                  rotate_left
                  · intro w' hSw
                    have q1 := HC1.out w' hSw
                    go_simp
                    first | done | with_reducible rfl
                  try simp only [Act.put, List.setIfInBounds_toArray, List.set_cons_zero, List.set_cons_succ]
                  refine wpAnyH_takeD (i := 13) (v := ?_) (some 36) rfl rfl (by kernel_rfl) (by kernel_rfl) (by kernel_rfl) (fun _ _ _ h => h) (Or.inl ⟨by rfl, ?_⟩) (by assumption) ?_
                  rotate_left
                  · intro w' hSw
                    go_simp
                    first | done | with_reducible rfl
                  try simp only [Act.put, List.setIfInBounds_toArray, List.set_cons_zero, List.set_cons_succ]
                  refine wpAnyH_takeD (i := 14) (v := ?_) (some 37) rfl rfl (by kernel_rfl) (by kernel_rfl) (by kernel_rfl) (fun _ _ _ h => h) (Or.inl ⟨by rfl, ?_⟩) (by assumption) ?_
                  rotate_left
                  · intro w' hSw
                    go_simp
                    first | done | with_reducible rfl
                  try simp only [Act.put, List.setIfInBounds_toArray, List.set_cons_zero, List.set_cons_succ]
                  refine wpAnyH_takeD (i := 15) (v := ?_) (some 38) rfl rfl (by kernel_rfl) (by kernel_rfl) (by kernel_rfl) (fun _ _ _ h => h) (Or.inl ⟨by rfl, ?_⟩) (by assumption) ?_
                  rotate_left
                  · intro w' hSw
                    go_simp
                    first | done | with_reducible rfl
                  try simp only [Act.put, List.setIfInBounds_toArray, List.set_cons_zero, List.set_cons_succ]
                  refine wpAnyH_ready (rs := [0]) (by kernel_rfl) (by simp) ?_
                  refine AllReadyH.cons rfl (fun K hK => ?_) AllReadyH.nil
                  go_simp
                  refine hK.out _ _ (Fr.alloc hHeld _) (fun hHeld => ?_)
                  clear hK K
                  try change wpAnyH _ _ _ _ _ _ _ (Act.put _ (some 23) _) _
                  try simp only [Act.put, List.setIfInBounds_toArray, List.set_cons_zero, List.set_cons_succ]
                  have ho0 : Own8 ((w1.drewN (nq + 1)).alloc (.cells #[] 5)) 5 (.slice (some ⟨(w1.drewN (nq + 1)).heap.size, 0, none⟩) 0 0) [] := Own8.fresh _ _ #[] 0 rfl (by unfold maxLen; omega)
                  refine wpAnyH_ready (rs := [16]) (by kernel_rfl) (by simp) ?_
                  refine AllReadyH.cons rfl (fun K hK => ?_) AllReadyH.nil
                  refine stepOf_append8s rfl (.tmp 23) (.tmp 38) Tryz.t8 rfl (.slice (some ⟨w1.heap.size, 0, none⟩) 0 0) [] rfl ho0 _ _ _ ((xs.drop J).take L) rfl (by first | exact hrp' | (rw [hrp]; omega)) (by rw [HX0.out]; exact Rd8.nil _ _) (by simp; omega) ?_
                  intro A2 c2' w2 ho2 hf2 hm2
                  have hfr2 : Fresh w1 w2 (.slice A2 (0 + ((xs.drop J).take L).length) c2') := Fresh.step (v1 := .slice (some ⟨w1.heap.size, 0, none⟩) 0 0) (Fresh.put hHeld (Nat.le_refl _)) hf2 hm2
                  simp only [List.length_nil, Nat.zero_add, List.nil_append, hrp] at ho2 hfr2 ⊢
                  refine hK.out _ _ hfr2.1 (fun hHeld => ?_)
                  clear hK K hf2 hm2 ho0
                  try change wpAnyH _ _ _ _ _ _ _ (Act.put _ (some 39) _) _
                  try simp only [Act.put, List.setIfInBounds_toArray, List.set_cons_zero, List.set_cons_succ]
                  refine wpAnyH_takeD (i := 17) (v := ?_) (some 9) rfl rfl (by kernel_rfl) (by kernel_rfl) (by kernel_rfl) (fun _ _ _ h => h) (Or.inl ⟨by rfl, ?_⟩) (by assumption) ?_
                  rotate_left
                  · intro w' hSw
                    go_simp
                    first | done | with_reducible rfl
                  try simp only [Act.put, List.setIfInBounds_toArray, List.set_cons_zero, List.set_cons_succ]
                  refine wpAnyH_done (by kernel_rfl) ?_ _
                  have hr2 := hr1.quiet hfr2.1
                  have d1 : w2.cell? ⟨g, 1, none⟩ = some (.int .i64 J) := hr2.bk.cell 1
                  have f1 : w2.frozen? ⟨g, 1, none⟩ = false := hr2.bk.frozen 1
                  have hne : ∀ k, (Value.slice A2 L c2').ownBlock = some k → k ≠ g := fun k hk e => by
                    have := hfr2.2 k hk
                    have := hr1.bk.lt
                    omega
                  have HE := Lib.hid (And.intro hf1 (And.intro hr2 (And.intro ho2 (And.intro hfr2 hne))))
                  clear hf1 hr2 ho2 hfr2 hne hr1
                  go_wp2
                  go_ret
                  obtain ⟨hf1, hr2, ho2, hfr2, hne⟩ := HE.out
                  exact ⟨_, rfl, ⟨A2, c2', by rw [hrp]; rfl, by rw [hrp]; exact ho2.fr (fr_set (g := g) (i := 1)) (fun k hk e => hne k hk e), fun k hk => Nat.le_trans hf1.size (hfr2.2 k hk)⟩, ⟨by omega, _, _, by rw [Int.natCast_add]; exact hr2.set _⟩, hf1.trans ((hfr2.1.mono (fun _ _ h => h.elim)).trans fr_set (fun _ _ h => h)) (fun _ _ h => h)⟩

                · skip
                  have HC0 := Lib.hid (fun w' (hf : Fr (fun _ => False) w1 w') => show w'.cell? ⟨g, 0, none⟩ = some (.slice (some ⟨b, o, some sp⟩) n c) from (hr1.quiet hf).bk.cell 0)
                  have HC1 := Lib.hid (fun w' (hf : Fr (fun _ => False) w1 w') => show w'.cell? ⟨g, 1, none⟩ = some (.int .i64 J) from (hr1.quiet hf).bk.cell 1)
                  refine wp_region_held_drew (S := fun w' => Fr (fun _ => False) w1 w') (by kernel_rfl) (((Fr.refl _ _).drewN nq).drew) (fun hHeld => ?_)
                  refine wpAnyH_takeD (i := 1) (v := ?_) (some 24) rfl rfl (by kernel_rfl) (by kernel_rfl) (by kernel_rfl) (fun _ _ _ h => h) (Or.inl ⟨by rfl, ?_⟩) (by assumption) ?_
                  rotate_left
                  · intro w' hSw
                    go_simp
                    first | done | with_reducible rfl
                  try simp only [Act.put, List.setIfInBounds_toArray, List.set_cons_zero, List.set_cons_succ]
                  refine wpAnyH_takeD (i := 2) (v := ?_) (some 25) rfl rfl (by kernel_rfl) (by kernel_rfl) (by kernel_rfl) (fun _ _ _ h => h) (Or.inl ⟨by rfl, ?_⟩) (by assumption) ?_
                  rotate_left
                  · intro w' hSw
                    go_simp
                    first | done | with_reducible rfl
                  try simp only [Act.put, List.setIfInBounds_toArray, List.set_cons_zero, List.set_cons_succ]
                  refine wpAnyH_takeD (i := 3) (v := ?_) (some 26) rfl rfl (by kernel_rfl) (by kernel_rfl) (by kernel_rfl) (fun _ _ _ h => h) (Or.inl ⟨by rfl, ?_⟩) (by assumption) ?_
                  rotate_left
                  · intro w' hSw
                    go_simp
                    first | done | with_reducible rfl
                  try simp only [Act.put, List.setIfInBounds_toArray, List.set_cons_zero, List.set_cons_succ]
                  refine wpAnyH_takeD (i := 4) (v := ?_) (some 27) rfl rfl (by kernel_rfl) (by kernel_rfl) (by kernel_rfl) (fun _ _ _ h => h) (Or.inl ⟨by rfl, ?_⟩) (by assumption) ?_
                  rotate_left
                  · intro w' hSw
                    have q0 := HC0.out w' hSw
                    go_simp
                    first | done | with_reducible rfl
                  try simp only [Act.put, List.setIfInBounds_toArray, List.set_cons_zero, List.set_cons_succ]
                  refine wpAnyH_takeD (i := 5) (v := ?_) (some 28) rfl rfl (by kernel_rfl) (by kernel_rfl) (by kernel_rfl) (fun _ _ _ h => h) (Or.inl ⟨by rfl, ?_⟩) (by assumption) ?_
                  rotate_left
                  · intro w' hSw
                    go_simp
                    first | done | with_reducible rfl
                  try simp only [Act.put, List.setIfInBounds_toArray, List.set_cons_zero, List.set_cons_succ]
                  refine wpAnyH_takeD (i := 6) (v := ?_) (some 29) rfl rfl (by kernel_rfl) (by kernel_rfl) (by kernel_rfl) (fun _ _ _ h => h) (Or.inl ⟨by rfl, ?_⟩) (by assumption) ?_
                  rotate_left
                  · intro w' hSw
                    go_simp
                    first | done | with_reducible rfl
                  try simp only [Act.put, List.setIfInBounds_toArray, List.set_cons_zero, List.set_cons_succ]
                  refine wpAnyH_takeD (i := 7) (v := ?_) (some 30) rfl rfl (by kernel_rfl) (by kernel_rfl) (by kernel_rfl) (fun _ _ _ h => h) (Or.inl ⟨by rfl, ?_⟩) (by assumption) ?_
                  rotate_left
                  · intro w' hSw
                    go_simp
                    first | done | with_reducible rfl
                  try simp only [Act.put, List.setIfInBounds_toArray, List.set_cons_zero, List.set_cons_succ]
                  refine wpAnyH_takeD (i := 8) (v := ?_) (some 31) rfl rfl (by kernel_rfl) (by kernel_rfl) (by kernel_rfl) (fun _ _ _ h => h) (Or.inl ⟨by rfl, ?_⟩) (by assumption) ?_
                  rotate_left
                  · intro w' hSw
                    have q1 := HC1.out w' hSw
                    go_simp
                    first | done | with_reducible rfl
                  try simp only [Act.put, List.setIfInBounds_toArray, List.set_cons_zero, List.set_cons_succ]
                  refine wpAnyH_takeD (i := 9) (v := ?_) (some 32) rfl rfl (by kernel_rfl) (by kernel_rfl) (by kernel_rfl) (fun _ _ _ h => h) (Or.inl ⟨by rfl, ?_⟩) (by assumption) ?_
                  rotate_left
                  · intro w' hSw
                    go_simp
                    first | done | with_reducible rfl
                  try simp only [Act.put, List.setIfInBounds_toArray, List.set_cons_zero, List.set_cons_succ]
                  refine wpAnyH_takeD (i := 10) (v := ?_) (some 33) rfl rfl (by kernel_rfl) (by kernel_rfl) (by kernel_rfl) (fun _ _ _ h => h) (Or.inl ⟨by rfl, ?_⟩) (by assumption) ?_
                  rotate_left
                  · intro w' hSw
                    go_simp
                    first | done | with_reducible rfl
                  try simp only [Act.put, List.setIfInBounds_toArray, List.set_cons_zero, List.set_cons_succ]
                  refine wpAnyH_takeD (i := 11) (v := ?_) (some 34) rfl rfl (by kernel_rfl) (by kernel_rfl) (by kernel_rfl) (fun _ _ _ h => h) (Or.inl ⟨by rfl, ?_⟩) (by assumption) ?_
                  rotate_left
                  · intro w' hSw
                    go_simp
                    first | done | with_reducible rfl
                  try simp only [Act.put, List.setIfInBounds_toArray, List.set_cons_zero, List.set_cons_succ]
                  refine wpAnyH_takeD (i := 12) (v := ?_) (some 35) rfl rfl (by kernel_rfl) (by kernel_rfl) (by kernel_rfl) (fun _ _ _ h => h) (Or.inl ⟨by rfl, ?_⟩) (by assumption) ?_
                  rotate_left
                  · intro w' hSw
                    have q1 := HC1.out w' hSw
                    go_simp
                    first | done | with_reducible rfl
                  try simp only [Act.put, List.setIfInBounds_toArray, List.set_cons_zero, List.set_cons_succ]
                  refine wpAnyH_takeD (i := 13) (v := ?_) (some 36) rfl rfl (by kernel_rfl) (by kernel_rfl) (by kernel_rfl) (fun _ _ _ h => h) (Or.inl ⟨by rfl, ?_⟩) (by assumption) ?_
                  rotate_left
                  · intro w' hSw
                    go_simp
                    first | done | with_reducible rfl
                  try simp only [Act.put, List.setIfInBounds_toArray, List.set_cons_zero, List.set_cons_succ]
                  refine wpAnyH_takeD (i := 14) (v := ?_) (some 37) rfl rfl (by kernel_rfl) (by kernel_rfl) (by kernel_rfl) (fun _ _ _ h => h) (Or.inl ⟨by rfl, ?_⟩) (by assumption) ?_
                  rotate_left
                  · intro w' hSw
                    go_simp
                    first | done | with_reducible rfl
                  try simp only [Act.put, List.setIfInBounds_toArray, List.set_cons_zero, List.set_cons_succ]
                  refine wpAnyH_takeD (i := 15) (v := ?_) (some 38) rfl rfl (by kernel_rfl) (by kernel_rfl) (by kernel_rfl) (fun _ _ _ h => h) (Or.inl ⟨by rfl, ?_⟩) (by assumption) ?_
                  rotate_left
                  · intro w' hSw
                    go_simp
                    first | done | with_reducible rfl
                  try simp only [Act.put, List.setIfInBounds_toArray, List.set_cons_zero, List.set_cons_succ]
                  refine wpAnyH_ready (rs := [0]) (by kernel_rfl) (by simp) ?_
                  refine AllReadyH.cons rfl (fun K hK => ?_) AllReadyH.nil
                  go_simp
                  refine hK.out _ _ (Fr.alloc hHeld _) (fun hHeld => ?_)
                  clear hK K
                  try change wpAnyH _ _ _ _ _ _ _ (Act.put _ (some 23) _) _
                  try simp only [Act.put, List.setIfInBounds_toArray, List.set_cons_zero, List.set_cons_succ]
                  have ho0 : Own8 ((w1.drewN (nq + 1)).alloc (.cells #[] 5)) 5 (.slice (some ⟨(w1.drewN (nq + 1)).heap.size, 0, none⟩) 0 0) [] := Own8.fresh _ _ #[] 0 rfl (by unfold maxLen; omega)
                  refine wpAnyH_ready (rs := [16]) (by kernel_rfl) (by simp) ?_
                  refine AllReadyH.cons rfl (fun K hK => ?_) AllReadyH.nil
                  refine stepOf_append8s rfl (.tmp 23) (.tmp 38) Tryz.t8 rfl (.slice (some ⟨w1.heap.size, 0, none⟩) 0 0) [] rfl ho0 _ _ _ ((xs.drop J).take L) rfl (by first | exact hrp' | (rw [hrp]; omega)) (by rw [HX0.out]; exact Rd8.nil _ _) (by simp; omega) ?_
                  intro A2 c2' w2 ho2 hf2 hm2
                  have hfr2 : Fresh w1 w2 (.slice A2 (0 + ((xs.drop J).take L).length) c2') := Fresh.step (v1 := .slice (some ⟨w1.heap.size, 0, none⟩) 0 0) (Fresh.put hHeld (Nat.le_refl _)) hf2 hm2
                  simp only [List.length_nil, Nat.zero_add, List.nil_append, hrp] at ho2 hfr2 ⊢
                  refine hK.out _ _ hfr2.1 (fun hHeld => ?_)
                  clear hK K hf2 hm2 ho0
                  try change wpAnyH _ _ _ _ _ _ _ (Act.put _ (some 39) _) _
                  try simp only [Act.put, List.setIfInBounds_toArray, List.set_cons_zero, List.set_cons_succ]
                  refine wpAnyH_takeD (i := 17) (v := ?_) (some 9) rfl rfl (by kernel_rfl) (by kernel_rfl) (by kernel_rfl) (fun _ _ _ h => h) (Or.inl ⟨by rfl, ?_⟩) (by assumption) ?_
                  rotate_left
                  · intro w' hSw
                    go_simp
                    first | done | with_reducible rfl
                  try simp only [Act.put, List.setIfInBounds_toArray, List.set_cons_zero, List.set_cons_succ]
                  refine wpAnyH_done (by kernel_rfl) ?_ _
                  have hr2 := hr1.quiet hfr2.1
                  have d1 : w2.cell? ⟨g, 1, none⟩ = some (.int .i64 J) := hr2.bk.cell 1
                  have f1 : w2.frozen? ⟨g, 1, none⟩ = false := hr2.bk.frozen 1
                  have hne : ∀ k, (Value.slice A2 L c2').ownBlock = some k → k ≠ g := fun k hk e => by
                    have := hfr2.2 k hk
                    have := hr1.bk.lt
                    omega
                  have HE := Lib.hid (And.intro hf1 (And.intro hr2 (And.intro ho2 (And.intro hfr2 hne))))
                  clear hf1 hr2 ho2 hfr2 hne hr1
                  go_wp2
                  go_ret
                  obtain ⟨hf1, hr2, ho2, hfr2, hne⟩ := HE.out
                  exact ⟨_, rfl, ⟨A2, c2', by rw [hrp]; rfl, by rw [hrp]; exact ho2.fr (fr_set (g := g) (i := 1)) (fun k hk e => hne k hk e), fun k hk => Nat.le_trans hf1.size (hfr2.2 k hk)⟩, ⟨by omega, _, _, by rw [Int.natCast_add]; exact hr2.set _⟩, hf1.trans ((hfr2.1.mono (fun _ _ h => h.elim)).trans fr_set (fun _ _ h => h)) (fun _ _ h => h)⟩

              · obtain ⟨ad, hA, hsp, -⟩ := hr1.rd (by omega)
                obtain ⟨b, o, sp⟩ := ad
                cases hsp
                subst hA
                have HC0 := Lib.hid (fun w' (hf : Fr (fun _ => False) w1 w') => show w'.cell? ⟨g, 0, none⟩ = some (.slice (some ⟨b, o, none⟩) n c) from (hr1.quiet hf).bk.cell 0)
                have HC1 := Lib.hid (fun w' (hf : Fr (fun _ => False) w1 w') => show w'.cell? ⟨g, 1, none⟩ = some (.int .i64 J) from (hr1.quiet hf).bk.cell 1)
                refine wp_region_held_drew (S := fun w' => Fr (fun _ => False) w1 w') (by kernel_rfl) (((Fr.refl _ _).drewN nq).drew) (fun hHeld => ?_)
                refine wpAnyH_takeD (i := 1) (v := ?_) (some 24) rfl rfl (by kernel_rfl) (by kernel_rfl) (by kernel_rfl) (fun _ _ _ h => h) (Or.inl ⟨by rfl, ?_⟩) (by assumption) ?_
                rotate_left
                · intro w' hSw
                  go_simp
                  first | done | with_reducible rfl
                try simp only [Act.put, List.setIfInBounds_toArray, List.set_cons_zero, List.set_cons_succ]
                refine wpAnyH_takeD (i := 2) (v := ?_) (some 25) rfl rfl (by kernel_rfl) (by kernel_rfl) (by kernel_rfl) (fun _ _ _ h => h) (Or.inl ⟨by rfl, ?_⟩) (by assumption) ?_
                rotate_left
                · intro w' hSw
                  go_simp
                  first | done | with_reducible rfl
                try simp only [Act.put, List.setIfInBounds_toArray, List.set_cons_zero, List.set_cons_succ]
                refine wpAnyH_takeD (i := 3) (v := ?_) (some 26) rfl rfl (by kernel_rfl) (by kernel_rfl) (by kernel_rfl) (fun _ _ _ h => h) (Or.inl ⟨by rfl, ?_⟩) (by assumption) ?_
                rotate_left
                · intro w' hSw
                  go_simp
                  first | done | with_reducible rfl
                try simp only [Act.put, List.setIfInBounds_toArray, List.set_cons_zero, List.set_cons_succ]
                refine wpAnyH_takeD (i := 4) (v := ?_) (some 27) rfl rfl (by kernel_rfl) (by kernel_rfl) (by kernel_rfl) (fun _ _ _ h => h) (Or.inl ⟨by rfl, ?_⟩) (by assumption) ?_
                rotate_left
                · intro w' hSw
                  have q0 := HC0.out w' hSw
                  go_simp
                  first | done | with_reducible rfl
                try simp only [Act.put, List.setIfInBounds_toArray, List.set_cons_zero, List.set_cons_succ]
                refine wpAnyH_takeD (i := 5) (v := ?_) (some 28) rfl rfl (by kernel_rfl) (by kernel_rfl) (by kernel_rfl) (fun _ _ _ h => h) (Or.inl ⟨by rfl, ?_⟩) (by assumption) ?_
                rotate_left
                · intro w' hSw
                  go_simp
                  first | done | with_reducible rfl
                try simp only [Act.put, List.setIfInBounds_toArray, List.set_cons_zero, List.set_cons_succ]
                refine wpAnyH_takeD (i := 6) (v := ?_) (some 29) rfl rfl (by kernel_rfl) (by kernel_rfl) (by kernel_rfl) (fun _ _ _ h => h) (Or.inl ⟨by rfl, ?_⟩) (by assumption) ?_
                rotate_left
                · intro w' hSw
                  go_simp
                  first | done | with_reducible rfl
                try simp only [Act.put, List.setIfInBounds_toArray, List.set_cons_zero, List.set_cons_succ]
                refine wpAnyH_takeD (i := 7) (v := ?_) (some 30) rfl rfl (by kernel_rfl) (by kernel_rfl) (by kernel_rfl) (fun _ _ _ h => h) (Or.inl ⟨by rfl, ?_⟩) (by assumption) ?_
                rotate_left
                · intro w' hSw
                  go_simp
                  first | done | with_reducible rfl
                try simp only [Act.put, List.setIfInBounds_toArray, List.set_cons_zero, List.set_cons_succ]
                refine wpAnyH_takeD (i := 8) (v := ?_) (some 31) rfl rfl (by kernel_rfl) (by kernel_rfl) (by kernel_rfl) (fun _ _ _ h => h) (Or.inl ⟨by rfl, ?_⟩) (by assumption) ?_
                rotate_left
                · intro w' hSw
                  have q1 := HC1.out w' hSw
                  go_simp
                  first | done | with_reducible rfl
                try simp only [Act.put, List.setIfInBounds_toArray, List.set_cons_zero, List.set_cons_succ]
                refine wpAnyH_takeD (i := 9) (v := ?_) (some 32) rfl rfl (by kernel_rfl) (by kernel_rfl) (by kernel_rfl) (fun _ _ _ h => h) (Or.inl ⟨by rfl, ?_⟩) (by assumption) ?_
                rotate_left
                · intro w' hSw
                  go_simp
                  first | done | with_reducible rfl
                try simp only [Act.put, List.setIfInBounds_toArray, List.set_cons_zero, List.set_cons_succ]
                refine wpAnyH_takeD (i := 10) (v := ?_) (some 33) rfl rfl (by kernel_rfl) (by kernel_rfl) (by kernel_rfl) (fun _ _ _ h => h) (Or.inl ⟨by rfl, ?_⟩) (by assumption) ?_
                rotate_left
                · intro w' hSw
                  go_simp
                  first | done | with_reducible rfl
                try simp only [Act.put, List.setIfInBounds_toArray, List.set_cons_zero, List.set_cons_succ]
                refine wpAnyH_takeD (i := 11) (v := ?_) (some 34) rfl rfl (by kernel_rfl) (by kernel_rfl) (by kernel_rfl) (fun _ _ _ h => h) (Or.inl ⟨by rfl, ?_⟩) (by assumption) ?_
                rotate_left
                · intro w' hSw
                  go_simp
                  first | done | with_reducible rfl
                try simp only [Act.put, List.setIfInBounds_toArray, List.set_cons_zero, List.set_cons_succ]
                refine wpAnyH_takeD (i := 12) (v := ?_) (some 35) rfl rfl (by kernel_rfl) (by kernel_rfl) (by kernel_rfl) (fun _ _ _ h => h) (Or.inl ⟨by rfl, ?_⟩) (by assumption) ?_
                rotate_left
                · intro w' hSw
                  have q1 := HC1.out w' hSw
                  go_simp
                  first | done | with_reducible rfl
                try simp only [Act.put, List.setIfInBounds_toArray, List.set_cons_zero, List.set_cons_succ]
                refine wpAnyH_takeD (i := 13) (v := ?_) (some 36) rfl rfl (by kernel_rfl) (by kernel_rfl) (by kernel_rfl) (fun _ _ _ h => h) (Or.inl ⟨by rfl, ?_⟩) (by assumption) ?_
                rotate_left
                · intro w' hSw
                  go_simp
                  first | done | with_reducible rfl
                try simp only [Act.put, List.setIfInBounds_toArray, List.set_cons_zero, List.set_cons_succ]
                refine wpAnyH_takeD (i := 14) (v := ?_) (some 37) rfl rfl (by kernel_rfl) (by kernel_rfl) (by kernel_rfl) (fun _ _ _ h => h) (Or.inl ⟨by rfl, ?_⟩) (by assumption) ?_
                rotate_left
                · intro w' hSw
                  go_simp
                  first | done | with_reducible rfl
                try simp only [Act.put, List.setIfInBounds_toArray, List.set_cons_zero, List.set_cons_succ]
                refine wpAnyH_takeD (i := 15) (v := ?_) (some 38) rfl rfl (by kernel_rfl) (by kernel_rfl) (by kernel_rfl) (fun _ _ _ h => h) (Or.inl ⟨by rfl, ?_⟩) (by assumption) ?_
                rotate_left
                · intro w' hSw
                  go_simp
                  first | done | with_reducible rfl
                try simp only [Act.put, List.setIfInBounds_toArray, List.set_cons_zero, List.set_cons_succ]
                refine wpAnyH_ready (rs := [0]) (by kernel_rfl) (by simp) ?_
                refine AllReadyH.cons rfl (fun K hK => ?_) AllReadyH.nil
                go_simp
                refine hK.out _ _ (Fr.alloc hHeld _) (fun hHeld => ?_)
                clear hK K
                try change wpAnyH _ _ _ _ _ _ _ (Act.put _ (some 23) _) _
                try simp only [Act.put, List.setIfInBounds_toArray, List.set_cons_zero, List.set_cons_succ]
                have ho0 : Own8 ((w1.drewN (nq + 1)).alloc (.cells #[] 5)) 5 (.slice (some ⟨(w1.drewN (nq + 1)).heap.size, 0, none⟩) 0 0) [] := Own8.fresh _ _ #[] 0 rfl (by unfold maxLen; omega)
                refine wpAnyH_ready (rs := [16]) (by kernel_rfl) (by simp) ?_
                refine AllReadyH.cons rfl (fun K hK => ?_) AllReadyH.nil
                refine stepOf_append8s rfl (.tmp 23) (.tmp 38) Tryz.t8 rfl (.slice (some ⟨w1.heap.size, 0, none⟩) 0 0) [] rfl ho0 _ _ _ ((xs.drop J).take L) rfl (by first | exact hrp' | (rw [hrp]; omega)) ((hr1.quiet hHeld).rd.part J L) (by simp; omega) ?_
                intro A2 c2' w2 ho2 hf2 hm2
                have hfr2 : Fresh w1 w2 (.slice A2 (0 + ((xs.drop J).take L).length) c2') := Fresh.step (v1 := .slice (some ⟨w1.heap.size, 0, none⟩) 0 0) (Fresh.put hHeld (Nat.le_refl _)) hf2 hm2
                simp only [List.length_nil, Nat.zero_add, List.nil_append, hrp] at ho2 hfr2 ⊢
                refine hK.out _ _ hfr2.1 (fun hHeld => ?_)
                clear hK K hf2 hm2 ho0
                try change wpAnyH _ _ _ _ _ _ _ (Act.put _ (some 39) _) _
                try simp only [Act.put, List.setIfInBounds_toArray, List.set_cons_zero, List.set_cons_succ]
                refine wpAnyH_takeD (i := 17) (v := ?_) (some 9) rfl rfl (by kernel_rfl) (by kernel_rfl) (by kernel_rfl) (fun _ _ _ h => h) (Or.inl ⟨by rfl, ?_⟩) (by assumption) ?_
                rotate_left
                · intro w' hSw
                  go_simp
                  first | done | with_reducible rfl
                try simp only [Act.put, List.setIfInBounds_toArray, List.set_cons_zero, List.set_cons_succ]
                refine wpAnyH_done (by kernel_rfl) ?_ _
                have hr2 := hr1.quiet hfr2.1
                have d1 : w2.cell? ⟨g, 1, none⟩ = some (.int .i64 J) := hr2.bk.cell 1
                have f1 : w2.frozen? ⟨g, 1, none⟩ = false := hr2.bk.frozen 1
                have hne : ∀ k, (Value.slice A2 L c2').ownBlock = some k → k ≠ g := fun k hk e => by
                  have := hfr2.2 k hk
                  have := hr1.bk.lt
                  omega
                have HE := Lib.hid (And.intro hf1 (And.intro hr2 (And.intro ho2 (And.intro hfr2 hne))))
                clear hf1 hr2 ho2 hfr2 hne hr1
                go_wp2
                go_ret
                obtain ⟨hf1, hr2, ho2, hfr2, hne⟩ := HE.out
                exact ⟨_, rfl, ⟨A2, c2', by rw [hrp]; rfl, by rw [hrp]; exact ho2.fr (fr_set (g := g) (i := 1)) (fun k hk e => hne k hk e), fun k hk => Nat.le_trans hf1.size (hfr2.2 k hk)⟩, ⟨by omega, _, _, by rw [Int.natCast_add]; exact hr2.set _⟩, hf1.trans ((hfr2.1.mono (fun _ _ h => h.elim)).trans fr_set (fun _ _ h => h)) (fun _ _ h => h)⟩

end Go.Proofs.YtieoeoonopcjbaaGreatDoor

/- What any reads may leave; a list of asks that came in. -/
namespace Go.Proofs.YtieoeoonopcjbaaGreatDoor
open Go.RowKit

/-- A reader's state that any reads may leave: within its bytes, or at one of four faults, told within them. -/
def Sound (n : Nat) : St → Prop
  | .at_ j => j ≤ n
  | .bad er a wh => (∃ k : Nat, er = k ∧ Bad4 k) ∧ (∃ p : Nat, a = p ∧ p ≤ n) ∧ wh.size ≤ 1000000
theorem bad4_nat {b : Int} (h : b = 7 ∨ b = 8 ∨ b = 10) : ∃ k : Nat, b = k ∧ Bad4 k := by
  rcases h with rfl | rfl | rfl
  · exact ⟨7, rfl, .inl rfl⟩
  · exact ⟨8, rfl, .inr (.inl rfl)⟩
  · exact ⟨10, rfl, .inr (.inr (.inr rfl))⟩
theorem srWithin_at {xs : List UInt8} {j k' : Nat} {lo hi : Int} (hj : j ≤ xs.length) (h : (srWithin xs j lo hi).1 = .ok k') : k' ≤ xs.length := by
  unfold srWithin at h
  cases hN : rdNum (xs.drop j) with
  | bad b' => rw [hN] at h; cases h
  | ok u m =>
    have h1 := num_ok _ _ _ _ _ _ hN
    rw [List.length_drop] at h1
    rw [hN] at h
    simp only at h
    repeat' split at h
    all_goals first | cases h; done | (injection h with h; omega)
theorem srWithin_which {xs : List UInt8} {j : Nat} {lo hi b : Int} (h : (srWithin xs j lo hi).1 = .bad b) : b = 7 ∨ b = 8 ∨ b = 10 := by
  unfold srWithin at h
  cases hN : rdNum (xs.drop j) with
  | bad b' => rw [hN] at h; injection h with h; subst h; exact (num_bad_or _ _ _ _ _ hN).elim .inl (fun h => .inr (.inl h))
  | ok u m =>
    rw [hN] at h
    simp only at h
    repeat' split at h
    all_goals first | (injection h with h; omega) | cases h
theorem srRun_at {xs : List UInt8} {j k' : Nat} {most : Int} (hj : j ≤ xs.length) (h : (srRun xs j most).1 = .ok k') : k' ≤ xs.length := by
  unfold srRun at h
  cases hN : rdNum (xs.drop j) with
  | bad b' => rw [hN] at h; cases h
  | ok u m =>
    have h1 := num_ok _ _ _ _ _ _ hN
    rw [List.length_drop] at h1
    rw [hN] at h
    simp only at h
    repeat' split at h
    all_goals first | cases h; done | (injection h with h; omega)
theorem srRun_which {xs : List UInt8} {j : Nat} {most b : Int} (h : (srRun xs j most).1 = .bad b) : b = 7 ∨ b = 8 ∨ b = 10 := by
  unfold srRun at h
  cases hN : rdNum (xs.drop j) with
  | bad b' => rw [hN] at h; injection h with h; subst h; exact (num_bad_or _ _ _ _ _ hN).elim .inl (fun h => .inr (.inl h))
  | ok u m =>
    rw [hN] at h
    simp only at h
    repeat' split at h
    all_goals first | (injection h with h; omega) | cases h
theorem sound_int {n : Nat} {xs : List UInt8} {wh : ByteArray} {s : St} (hn : xs.length = n) (hw : wh.size ≤ 1000000) (h : Sound n s) : Sound n (stInt xs wh s).2 := by
  cases s with
  | bad er a w0 => exact h
  | at_ j =>
    have h2 : j ≤ n := h
    cases hN : rdNum (xs.drop j) with
    | bad b =>
      simp only [stInt, hN]
      exact ⟨bad4_nat ((num_bad_or _ _ _ _ _ hN).elim .inl (fun h => .inr (.inl h))), ⟨j, rfl, h2⟩, hw⟩
    | ok u m =>
      have := num_ok _ _ _ _ _ _ hN
      rw [List.length_drop] at this
      simp only [stInt, hN]
      show j + m ≤ n
      omega
theorem sound_between {n : Nat} {xs : List UInt8} {wh : ByteArray} {lo hi : Int} {s : St} (hn : xs.length = n) (hw : wh.size ≤ 1000000) (h : Sound n s) : Sound n (stBetween xs wh lo hi s).2 := by
  cases s with
  | bad er a w0 => exact h
  | at_ j =>
    have h2 : j ≤ n := h
    rw [srW]
    cases hR : (srWithin xs j lo hi).1 with
    | bad b => exact ⟨bad4_nat (srWithin_which hR), ⟨j, rfl, h2⟩, hw⟩
    | ok k' => exact hn ▸ srWithin_at (hn ▸ h2) hR
theorem sound_bytes {n : Nat} {xs : List UInt8} {wh : ByteArray} {most : Int} {s : St} (hn : xs.length = n) (hw : wh.size ≤ 1000000) (h : Sound n s) : Sound n (stBytes xs wh most s).2 := by
  cases s with
  | bad er a w0 => exact h
  | at_ j =>
    have h2 : j ≤ n := h
    rw [srR]
    cases hR : (srRun xs j most).1 with
    | bad b => exact ⟨bad4_nat (srRun_which hR), ⟨j, rfl, h2⟩, hw⟩
    | ok k' => exact hn ▸ srRun_at (hn ▸ h2) hR

structure Ak where
  kind : Int
  lo : Int
  hi : Int
structure AkAt (w : World) (g o : Nat) (x : Ak) : Prop where
  c0 : w.cell? ⟨g, o, none⟩ = some (.int .i64 x.kind)
  c1 : w.cell? ⟨g, o + 1, none⟩ = some (.int .i64 x.lo)
  c2 : w.cell? ⟨g, o + 2, none⟩ = some (.int .i64 x.hi)
def Asks (w : World) (A : Option Addr) (l : List Ak) : Prop := 0 < l.length → ∃ g o, A = some ⟨g, o, none⟩ ∧ ∀ i (h : i < l.length), AkAt w g (o + i * 3) l[i]
theorem AkAt.fr {S : Nat → Prop} {w w' : World} {g o : Nat} {x : Ak} (h : AkAt w g o x) (hf : Fr S w w') (hS : ∀ k, k < w.heap.size → ¬ S k) : AkAt w' g o x :=
  { c0 := (hf.cell (World.block_lt_of_cell? w _ h.c0) (hS _ (World.block_lt_of_cell? w _ h.c0))).trans h.c0
    c1 := (hf.cell (World.block_lt_of_cell? w _ h.c1) (hS _ (World.block_lt_of_cell? w _ h.c1))).trans h.c1
    c2 := (hf.cell (World.block_lt_of_cell? w _ h.c2) (hS _ (World.block_lt_of_cell? w _ h.c2))).trans h.c2 }
theorem Asks.fr {S : Nat → Prop} {w w' : World} {A : Option Addr} {l : List Ak} (h : Asks w A l) (hf : Fr S w w') (hS : ∀ k, k < w.heap.size → ¬ S k) : Asks w' A l := fun h0 => by
  obtain ⟨g, o, e, hx⟩ := h h0
  exact ⟨g, o, e, fun i hi => (hx i hi).fr hf hS⟩

set_option maxRecDepth 100000 in
theorem same_none (p : Int) (what : ByteArray) (w : World) :
    Calls Tryz.prog 12 #[.nilIface, .agg #[.int .i64 0, .int .i64 p, .string what]] w fun e w' => e = .returned (.bool true) ∧ Fr (fun _ => False) w w' := by
  go_enter Tryz.func12, Tryz.ntmps12
  go_wp2
  go_ret
  exact ⟨rfl, (Fr.refl _ _).alloc _⟩
end Go.Proofs.YtieoeoonopcjbaaGreatDoor

/- Few with its second half; what reading events may leave. -/
namespace Go.Proofs.YtieoeoonopcjbaaGreatDoor
open Go.RowKit Go.Maps

def sumL (ps : List VL) : Nat := (ps.map fun p => p.e.d.length).sum
theorem sumL_mem : ∀ {ps : List VL} {p : VL}, p ∈ ps → p.e.d.length ≤ sumL ps
  | q :: ps, p, h => by
    unfold sumL
    simp only [List.map_cons, List.sum_cons]
    rcases List.mem_cons.1 h with rfl | h
    · omega
    · have := sumL_mem h
      unfold sumL at this
      omega
theorem sumL_take {ps : List VL} {k : Nat} (h : k < ps.length) : sumL (ps.take (k + 1)) = sumL (ps.take k) + (ps.getD k default).e.d.length := by
  rw [take_succ_getD h]
  unfold sumL
  simp
theorem sumL_le {B : Nat} : ∀ {ps : List VL}, (∀ p ∈ ps, p.e.d.length ≤ B) → sumL ps ≤ ps.length * B
  | [], _ => by simp [sumL]
  | p :: ps, h => by
    have h1 := sumL_le (ps := ps) (fun q hq => h q (List.mem_cons_of_mem _ hq))
    have h2 := h p (List.mem_cons_self ..)
    unfold sumL at *
    simp only [List.map_cons, List.sum_cons, List.length_cons, Nat.succ_mul]
    omega
theorem sumL_leI {B : Nat} (b : Int) (hb : (B : Int) = b) {ps : List VL} (h : ∀ p ∈ ps, p.e.d.length ≤ B) : (sumL ps : Int) ≤ (ps.length : Int) * b := by
  have := sumL_le h
  rw [← hb]
  exact_mod_cast this

set_option maxRecDepth 100000 in
set_option maxHeartbeats 2000000 in
theorem few2_any (A : Option Addr) (n c : Nat) (ps : List VL) (G : Nat → Prop) (w : World) (h : Vs w A n ps G) (hn : n ≤ 5000000000000) :
    Calls Tryz.prog 7 #[.slice A n c] w fun e w' => ∃ q, e = .returned (.bool q) ∧ (q = true → n ≤ 120 ∧ ∀ p ∈ ps, p.e.d.length ≤ 16384) ∧ w = w' := by
  have HES := Lib.hid h
  have hnI : (n : Int) ≤ 5000000000000 := by omega
  have HL := Lib.hid h.len
  have HTAKE : Hid (sumL (ps.take n) = sumL ps) := Lib.hid (by rw [List.take_of_length_le (by rw [h.len]; exact Nat.le_refl _)])
  have HB : Hid (∀ k, k ≤ n → n ≤ 120 → (sumL (ps.take k) : Int) ≤ 16888498602639360) := Lib.hid (fun k hk h120 => by
    have h1 := sumL_leI (140737488355328 : Int) (B := 140737488355328) rfl (ps := ps.take k) (fun p hp => (h.each p (List.mem_of_mem_take hp)).ok.d)
    rw [List.length_take, h.len, Nat.min_eq_left hk] at h1
    have h3 : (k : Int) ≤ 120 := by omega
    omega)
  clear h hn
  go_enter Tryz.func7, Tryz.ntmps7
  go_wp2_with fail
  go_loopw [3, 4] (fun v u wr => ∃ (k : Nat) (z : Int), u = .int .i64 (k : Int) ∧ v = .int .i64 z ∧ k ≤ n ∧ Hid (n ≤ 120 → z = (sumL (ps.take k) : Int)) ∧ w = wr) (fun _ u _ => n - (intOf u).toNat)
  case atStart => exact ⟨0, _, rfl, rfl, Nat.zero_le _, Lib.hid (fun _ => by simp [sumL]), rfl⟩
  case round =>
    obtain ⟨k, z, rfl, rfl, hk, HZ, rfl⟩ := hrel
    have hk0 : (0 : Int) ≤ (k : Int) := by omega
    by_cases hlt : k < n
    · have hlt' : (k : Int) < n := by omega
      obtain ⟨b, off, rfl, -, hcs, he⟩ := HES.out.at hlt
      have e1 : w.cell? ⟨b, off + k * 7 + 6, none⟩ = some (.slice (ps.getD k default).A (ps.getD k default).e.d.length (ps.getD k default).c) := hcs 6 _ rfl
      have HNX : Hid (n ≤ 120 → wrap64 (z + ((ps.getD k default).e.d.length : Int)) = (sumL (ps.take (k + 1)) : Int)) := Lib.hid (fun h120 => by
        have h1 := HB.out (k + 1) hlt h120
        rw [sumL_take (by rw [HL.out]; exact hlt)] at h1 ⊢
        rw [HZ.out h120]
        unfold wrap64; omega)
      generalize (ps.getD k default).e.d.length = m at *
      generalize (ps.getD k default).A = A2 at *
      generalize (ps.getD k default).c = c2 at *
      clear he hcs
      go_wp2
      refine ⟨⟨k + 1, _, by simp, rfl, by omega, HNX, trivial⟩, ?_⟩
      first | omega | (show _ < _; simp [intOf]; omega)
    · obtain rfl : k = n := by omega
      by_cases hn120 : k ≤ 120
      · have d1 : decide ((k : Int) ≤ 120) = true := decide_eq_true (by omega)
        have d1' : decide (k ≤ 120) = true := decide_eq_true (by omega)
        by_cases hz : z ≤ 16384
        · have d0 : decide (z ≤ 16384) = true := decide_eq_true hz
          have HX : Hid (∀ p ∈ ps, p.e.d.length ≤ 16384) := Lib.hid (fun p hp => by
            have h1 := sumL_mem hp
            have h2 := HZ.out hn120
            rw [HTAKE.out] at h2
            omega)
          clear hz
          go_wp2
          go_ret
          exact ⟨_, rfl, fun _ => ⟨hn120, HX.out⟩, rfl⟩
        · have d0 : decide (z ≤ 16384) = false := decide_eq_false hz
          clear hz
          go_wp2
          go_ret
          exact ⟨_, rfl, fun h => (by cases h), rfl⟩
      · have d1 : decide ((k : Int) ≤ 120) = false := decide_eq_false (by omega)
        have d1' : decide (k ≤ 120) = false := decide_eq_false (by omega)
        have HN := Lib.hid hn120
        clear hn120
        go_wp2
        go_ret
        exact ⟨false, rfl, fun h => (by cases h), rfl⟩

/-! ### what reading may leave -/
theorem sound_evR {n : Nat} {xs : List UInt8} {s : St} (hn : xs.length = n) (h : Sound n s) : Sound n (evR xs s).2 := by
  have he : evW.size ≤ 1000000 := by decide
  have hd : datW.size ≤ 1000000 := by decide
  have h1 : Sound n (evS1 xs s).2 := sound_between hn he h
  have h2 : Sound n (evS2 xs s).2 := sound_between hn he h1
  have h3 : Sound n (evS3 xs s).2 := sound_between hn he h2
  have h4 : Sound n (evS4 xs s).2 := sound_between hn he h3
  have h5 : Sound n (evS5 xs s).2 := sound_between hn he h4
  have h6 : Sound n (evS6 xs s).2 := sound_between hn he h5
  exact sound_bytes hn hd h6
theorem sound_refE {n : Nat} {xs : List UInt8} (hn : xs.length = n) : ∀ (k : Nat) {s : St}, Sound n s → Sound n (refE xs k s).2
  | 0, _, h => h
  | k + 1, .bad er a w, h => h
  | k + 1, .at_ j, h => sound_refE hn k (sound_evR hn h)
theorem sound_decE {n : Nat} {xs : List UInt8} (hn : xs.length = n) : Sound n (decE xs).2 :=
  sound_refE hn _ (sound_between hn (by decide) (Nat.zero_le _))
end Go.Proofs.YtieoeoonopcjbaaGreatDoor

/- The reference's Decode of events. -/
namespace Go.Proofs.YtieoeoonopcjbaaGreatDoor
open Go.RowKit

def FltIs (er a : Int) (wh : ByteArray) : Option (Int × Int × ByteArray) → Prop
  | none => er = 0
  | some (er', a', wh') => er = er' ∧ a = a' ∧ wh = wh' ∧ er' ≠ 0
theorem refEnd_any {w : World} {g : Nat} {A : Option Addr} {n c : Nat} {xs : List UInt8} {s : St} (h : RRAt w g A n c xs s) :
    Calls Tryz.prog 41 #[.pointer (some ⟨g, 0, none⟩)] w fun e w' => ∃ er a wh, e = .returned (.agg #[.int .i64 er, .int .i64 a, .string wh]) ∧ FltIs er a wh (stEnd xs s) ∧ Fr (fun _ => False) w w' := by
  cases s with
  | bad er a w0 =>
    obtain ⟨he, p, hr⟩ := h
    have he' : (er == 0) = false := by rw [beq_eq_false_iff_ne]; exact he
    exact (refEnd_bad hr he').mono fun _ _ ⟨h1, h2⟩ => ⟨er, a, w0, h1, ⟨rfl, rfl, rfl, he⟩, h2⟩
  | at_ k =>
    obtain ⟨hk, fat, what, hr⟩ := h
    have hl := hr.len
    by_cases hlt : k < n
    · have hs : stEnd xs (.at_ k) = some ((8 : Int), (k : Int), sEnd) := by simp only [stEnd]; rw [if_pos (by omega)]
      rw [hs]
      exact (refEnd_left hr hlt).mono fun _ _ ⟨h1, h2⟩ => ⟨8, k, _, h1, ⟨rfl, rfl, rfl, by decide⟩, h2⟩
    · have hs : stEnd xs (.at_ k) = none := by simp only [stEnd]; rw [if_neg (by omega)]
      rw [hs]
      obtain rfl : k = n := by omega
      exact (refEnd_over hr).mono fun _ _ ⟨h1, h2⟩ => ⟨0, fat, what, h1, rfl, h2⟩
/-- The reference's reader at work on a row of events that is new since w. -/
structure QLoop (w : World) (gr : Nat) (A : Option Addr) (n cp : Nat) (xs : List UInt8) (v : Value) (ps : List VL) (s : St) (wr : World) : Prop where
  rd : RRAt wr gr A n cp xs s
  own : OwnV wr 68 v ps
  new : ∀ k, VB v ps k → w.heap.size ≤ k
  fr : Fr (fun x => x = gr) w wr
/-- What stands throughout. -/
structure QHome (w : World) (gr : Nat) (A : Option Addr) (n : Nat) : Prop where
  r : gr < w.heap.size
  a : ∀ ad, A = some ad → 0 < n → ad.block < w.heap.size
  hn : n ≤ 140737488355328
section
variable {w w' wr : World} {gr : Nat} {A : Option Addr} {n cp : Nat} {xs : List UInt8} {v : Value} {ps : List VL} {s s' : St}
theorem QLoop.call (h : QLoop w gr A n cp xs v ps s wr) (hs : QHome w gr A n) (rd : RRAt w' gr A n cp xs s') (hf : Fr (fun x => x = gr) wr w') : QLoop w gr A n cp xs v ps s' w' :=
  ⟨rd, h.own.fr hf (fun k hk e => by have := h.new k hk; have := hs.r; omega), h.new, h.fr.trans hf (fun _ _ e => e)⟩
theorem QLoop.fr0 (h : QLoop w gr A n cp xs v ps s wr) (hf : Fr (fun _ => False) wr w') : QLoop w gr A n cp xs v ps s w' :=
  ⟨h.rd.quiet hf, h.own.fr0 hf, h.new, h.fr.trans hf (fun _ _ e => e.elim)⟩
theorem QLoop.put (h : QLoop w gr A n cp xs v ps s wr) (hs : QHome w gr A n) {p : VL} (hp : OwV wr p) (hpn : ∀ k, p.bv.ownBlock = some k → w.heap.size ≤ k) {A6 : Option Addr} {c6 m : Nat} (hr : Row w' 68 7 (.slice A6 (m + 1) c6) (m + 1) (vlc ps ++ p.cells)) (hm : ps.length = m)
    (hf : Fr (fun g => v.ownBlock = some g) wr w') (hmv : Moved wr v (.slice A6 (m + 1) c6)) : QLoop w gr A n cp xs (.slice A6 (m + 1) c6) (ps ++ [p]) s w' := by
  have hv : ∀ k, v.ownBlock = some k → w.heap.size ≤ k := fun k hk => h.new k (.inl hk)
  have hne : (68 : TypeId) ≠ 5 := by decide
  refine ⟨h.rd.fr hf (fun e => by have := hv _ e; have := hs.r; omega) (fun ad e h0 e2 => by have := hs.a ad e h0; have := hv _ e2; omega), ⟨?_, fun q hq => ?_⟩, fun k hk => ?_, h.fr.trans hf (fun x hx e => by have := hv x e; omega)⟩
  · rw [show (ps ++ [p]).length = m + 1 by simp [hm], show vlc (ps ++ [p]) = vlc ps ++ p.cells by simp [vlc]]
    exact hr
  · rcases List.mem_append.1 hq with hq | hq
    · exact (h.own.each q hq).fr hf (fun k hk e => h.own.apart hne hq e hk)
    · simp at hq; subst hq
      exact hp.fr hf (fun k hk e => by
        obtain ⟨cur, hb⟩ := h.own.row.bk e
        exact hp.own.ne hb (fun e => hne e.symm) hk)
  · rcases hk with e | ⟨q, hq, e⟩
    · rcases hmv with e2 | ⟨x, e2, hx⟩
      · exact hv k (e2 ▸ e)
      · rw [e2] at e; injection e with e; have := h.fr.size; omega
    · rcases List.mem_append.1 hq with hq | hq
      · exact h.new k (.inr ⟨q, hq, e⟩)
      · simp at hq; subst hq; exact hpn k e
end
/-- It reads an event into the block g3, which is new since the round's first world. -/
structure QEv (w0 : World) (g3 gr : Nat) (A : Option Addr) (n cp : Nat) (xs : List UInt8) (cs : Array Value) (st : St) (wr : World) : Prop where
  rd : RRAt wr gr A n cp xs st
  b3 : Bk wr g3 68 cs
  fr : Fr (fun x => x = gr) w0 wr
structure QSide (w0 : World) (g3 gr : Nat) (A : Option Addr) (n : Nat) : Prop where
  h3 : w0.heap.size ≤ g3
  r : gr < w0.heap.size
  a : ∀ ad, A = some ad → 0 < n → ad.block < w0.heap.size
section
variable {w0 wr w' : World} {g3 gr : Nat} {A : Option Addr} {n cp : Nat} {xs : List UInt8} {cs : Array Value} {st st' : St}
theorem QEv.call (h : QEv w0 g3 gr A n cp xs cs st wr) (hs : QSide w0 g3 gr A n) (rd : RRAt w' gr A n cp xs st') (hf : Fr (fun x => x = gr) wr w') : QEv w0 g3 gr A n cp xs cs st' w' :=
  ⟨rd, h.b3.fr hf (fun e => by have := hs.h3; have := hs.r; omega), h.fr.trans hf (fun _ _ e => e)⟩
theorem QEv.store (h : QEv w0 g3 gr A n cp xs cs st wr) (hs : QSide w0 g3 gr A n) (i : Nat) (u : Value) : QEv w0 g3 gr A n cp xs (cs.setIfInBounds i u) st (wr.setCell ⟨g3, i, none⟩ u) := by
  have hf : Fr (fun k => k = g3) wr (wr.setCell ⟨g3, i, none⟩ u) := Fr.setCell (S := fun k => k = g3) (p := ⟨g3, i, none⟩) (Fr.refl _ _) (fun _ => rfl) _
  have h3 := hs.h3
  exact ⟨h.rd.fr hf (fun e => by have := hs.r; omega) (fun ad e h0 e2 => by have := hs.a ad e h0; omega), h.b3.set i u, Fr.setCell (p := ⟨g3, i, none⟩) h.fr (fun e => by have e' : g3 < w0.heap.size := e; omega) _⟩
end
/-- What the reference's Decode tells. -/
def RefDecE (xs : List UInt8) (w : World) (e : Ending) (w' : World) : Prop :=
  match stEnd xs (decE xs).2 with
  | some (er, a, wh) => e = .returned (.tuple #[.slice none 0 0, .agg #[.int .i64 er, .int .i64 a, .string wh]]) ∧ er ≠ 0
  | none => ∃ A m c ps, e = .returned (.tuple #[.slice A m c, .agg #[.int .i64 0, .int .i64 0, .string ⟨#[]⟩]]) ∧ ps.length = m ∧ ps.map VL.e = (decE xs).1 ∧ OwnV w' 68 (.slice A m c) ps ∧ ∀ k, VB (.slice A m c) ps k → w.heap.size ≤ k
def zF : Array Value := #[.int .i64 0, .int .i64 0, .string ⟨#[]⟩]
def set3 (w : World) (b : Nat) (a0 a1 a2 : Value) : World := ((w.setCell ⟨b, 0, none⟩ a0).setCell ⟨b, 1, none⟩ a1).setCell ⟨b, 2, none⟩ a2
theorem Bk.set3 {w : World} {b : Nat} {t : TypeId} {x0 x1 x2 : Value} (h : Bk w b t #[x0, x1, x2]) (a0 a1 a2 : Value) : Bk (set3 w b a0 a1 a2) b t #[a0, a1, a2] := by
  unfold Go.Proofs.YtieoeoonopcjbaaGreatDoor.set3
  simpa using ((h.set 0 a0).set 1 a1).set 2 a2
theorem Fr.set3 {S : Nat → Prop} {a w : World} (h : Fr S a w) {b : Nat} (hb : b < a.heap.size → S b) (a0 a1 a2 : Value) : Fr S a (set3 w b a0 a1 a2) :=
  ((h.setCell (p := ⟨b, 0, none⟩) hb _).setCell (p := ⟨b, 1, none⟩) hb _).setCell (p := ⟨b, 2, none⟩) hb _
theorem run_loadFlt (w : World) (b : Nat) (a0 a1 a2 : Value) (h : Bk w b 31 #[a0, a1, a2]) : (Instr.loadAt 31 (.pointer (some ⟨b, 0, none⟩))).run Tryz.prog w = .ok (.agg #[a0, a1, a2]) w := by
  have h0 : w.cell? ⟨b, 0, none⟩ = some a0 := h.cell 0
  have h1 : w.cell? ⟨b, 1, none⟩ = some a1 := h.cell 1
  have h2 : w.cell? ⟨b, 2, none⟩ = some a2 := h.cell 2
  go_simp
theorem resDF {fn : Func} (h : fn.results = #[.tmp 2, .cell 3 31]) (tmps : Array Value) (w : World) (b : Nat) (v a0 a1 a2 : Value) (hv : tmps.getD 2 undef = v) (hp : tmps.getD 3 undef = .pointer (some ⟨b, 0, none⟩)) (hb : Bk w b 31 #[a0, a1, a2]) :
    (results fn tmps).run Tryz.prog w = .ok (.tuple #[v, .agg #[a0, a1, a2]]) w := by
  have h2 : (loadVar 31 ⟨b, 0, none⟩).run Tryz.prog w = .ok (.agg #[a0, a1, a2]) w := by
    have := run_loadFlt w b a0 a1 a2 hb
    simpa only [Instr.loadAt, Instr.sureAddr, Sem.run_bind, Sem.run_pure, Result.andThen_ok] using this
  have hp2 : tmps[3]?.getD undef = .pointer (some ⟨b, 0, none⟩) := by simpa using hp
  have hv2 : tmps[2]?.getD undef = v := by simpa using hv
  simp [results, h, asAddr, hp2, hv2, h2]

set_option maxRecDepth 100000 in
set_option maxHeartbeats 8000000 in
theorem refDecodeE_any (A : Option Addr) (n c : Nat) (xs : List UInt8) (w : World) (hr : Rd8 w A xs) (hn : xs.length = n) (hnc : n ≤ c) (hb : n ≤ 140737488355328) :
    Calls Tryz.prog 9 #[.slice A n c] w fun e w' => RefDecE xs w e w' ∧ Fr (fun _ => False) w w' := by
  obtain ⟨g0, hg0⟩ : ∃ g0, w.heap.size = g0 := ⟨_, rfl⟩
  obtain ⟨W, hW⟩ : ∃ W, (w.alloc (.cells zF 31)).alloc (.cells #[.slice A n c, .int .i64 0, .int .i64 0, .int .i64 0, .string ⟨#[]⟩] 84) = W := ⟨_, rfl⟩
  have hsrc : ∀ ad, A = some ad → 0 < n → ad.block < w.heap.size := fun ad e h0 => by
    obtain ⟨ad', e2, _, hc⟩ := hr (by omega)
    rw [e] at e2; injection e2 with e2; subst e2
    exact World.block_lt_of_cell? w ⟨ad.block, ad.off + 0, none⟩ (hc 0 (by omega))
  have HFW : Hid (Fr (fun _ => False) w W) := Lib.hid (by rw [← hW]; exact ((Fr.refl _ _).alloc _).alloc _)
  have HB0 : Hid (Bk W g0 31 zF) := Lib.hid (by rw [← hW, ← hg0]; exact (Bk.new _ _ _).alloc _)
  have HB1 : Bk W (g0 + 1) 84 #[.slice A n c, .int .i64 0, .int .i64 0, .int .i64 0, .string ⟨#[]⟩] := by
    rw [← hW, ← hg0]
    have := Bk.new (w.alloc (.cells zF 31)) 84 #[.slice A n c, .int .i64 0, .int .i64 0, .int .i64 0, .string ⟨#[]⟩]
    rw [show (w.alloc (.cells zF 31)).heap.size = w.heap.size + 1 by simp] at this
    exact this
  have HSZ : Hid (W.heap.size = g0 + 2) := Lib.hid (by rw [← hW, ← hg0]; simp)
  have hR0 : RRAt W (g0 + 1) A n c xs (.at_ 0) := ⟨Nat.zero_le _, 0, ⟨#[]⟩, { bk := HB1, rd := hr.fr HFW.out (fun _ _ _ h => h), len := hn, cap := hnc, big := by omega, apart := fun ad e h0 => by have := hsrc ad e h0; omega }⟩
  have HH : Hid (QHome W (g0 + 1) A n) := Lib.hid ⟨by have := HSZ.out; omega, fun ad e h0 => by have := hsrc ad e h0; have := HFW.out.size; omega, hb⟩
  have C1 : Hid (Calls Tryz.prog 39 #[.pointer (some ⟨g0 + 1, 0, none⟩), .string cntW, .int .i64 0, .int .i64 4096] W fun e w' => e = .returned (.int .i64 (cntR xs).1) ∧ RRAt w' (g0 + 1) A n c xs (cntR xs).2 ∧ Fr (fun x => x = g0 + 1) W w') := Lib.hid (refBetween_any hR0 hb cntW 0 4096)
  have H0 : Hid (QLoop W (g0 + 1) A n c xs (.slice none 0 0) [] (.at_ 0) W) := Lib.hid ⟨hR0, OwnV.nil _ _, fun k hk => hk.elim (fun e => by cases e) (fun ⟨q, hq, _⟩ => by cases hq), Fr.refl _ _⟩
  have hcr := cntR_rng xs
  obtain ⟨N, hN⟩ : ∃ N : Nat, (cntR xs).1 = (N : Int) := ⟨(cntR xs).1.toNat, by omega⟩
  have hNI : (N : Int) ≤ 4096 := by omega
  have HD : Hid (decE xs = refE xs N (cntR xs).2) := Lib.hid (by unfold decE; rw [hN, Int.toNat_natCast])
  rw [hN] at C1
  generalize (cntR xs).2 = s0 at *
  have HG0 := Lib.hid hg0
  unfold cntW at C1
  unfold zF at hW
  clear hr hn hnc hb hR0 HB1 hsrc hcr hN
  have hgg : w.heap.size + 1 = g0 + 1 := by omega
  go_enter Tryz.func9, Tryz.ntmps9
  go_wp2_with fail
  clear hW hg0 hgg
  refine C1.out.mono ?_; rintro e w1 ⟨rfl, hr1, hf1⟩
  have H1 := Lib.hid (H0.out.call HH.out hr1 hf1)
  clear hr1 hf1 C1 H0
  go_wp2_with fail
  have hgN := 0
  clear hgN
  go_loopw [7, 6] (fun i l wr => ∃ (k m : Nat) (A9 : Option Addr) (c9 : Nat) (ps : List VL) (s' : St), i = .int .i64 (k : Int) ∧ l = .slice A9 m c9 ∧ k ≤ N ∧ m ≤ k ∧ Hid (ps.length = m ∧ (refE xs (N - k) s').2 = (decE xs).2 ∧ ps.map VL.e ++ (refE xs (N - k) s').1 = (decE xs).1 ∧ QLoop W (g0 + 1) A n c xs (.slice A9 m c9) ps s' wr)) (fun i _ _ => N - (intOf i).toNat)
  case atStart => exact ⟨0, 0, none, 0, [], s0, rfl, rfl, by omega, by omega, ⟨rfl, by rw [Nat.sub_zero, HD.out], by rw [Nat.sub_zero, HD.out]; rfl, H1.out⟩⟩
  case round =>
    obtain ⟨k, m, A9, c9, ps, s', rfl, rfl, hk, hmk, HK⟩ := hrel
    clear H1
    have HLEN := Lib.hid HK.out.1
    have HREL := Lib.hid (And.intro HK.out.2.1 HK.out.2.2.1)
    have HQL := Lib.hid HK.out.2.2.2
    clear HK
    by_cases hlt : k < N
    · have hlt' : (k : Int) < (N : Int) := by omega
      cases s' with
      | at_ j0 =>
        have ce : wr.cell? ⟨g0 + 1, 2, none⟩ = some (.int .i64 0) := by
          obtain ⟨_, fat, what, hr⟩ := HQL.out.rd
          exact hr.bk.cell 2
        have HEX : Hid (refE xs (N - k) (.at_ j0) = ((evR xs (.at_ j0)).1 :: (refE xs (N - (k + 1)) (evR xs (.at_ j0)).2).1, (refE xs (N - (k + 1)) (evR xs (.at_ j0)).2).2)) := Lib.hid (by rw [show N - k = N - (k + 1) + 1 by omega, refE])
        obtain ⟨s, hs⟩ : ∃ s : St, St.at_ j0 = s := ⟨_, rfl⟩
        rw [hs] at HQL HREL HEX
        clear hs
        have hkI : (k : Int) ≤ 4096 := by omega
        have w1' : IntKind.i64.wrap ((k : Int) + 1) = (k : Int) + 1 := IntWalk.i64_in _ (by omega)
        have HMAY := Lib.hid (evR_may xs s)
        have HE : Hid (evR xs s = (⟨(evS1 xs s).1, (evS2 xs s).1, (evS3 xs s).1, (evS4 xs s).1, (evS5 xs s).1, (evS6 xs s).1, (evS7 xs s).1⟩, (evS7 xs s).2)) := Lib.hid rfl
        obtain ⟨g3, hg3⟩ : ∃ g3, wr.heap.size = g3 := ⟨_, rfl⟩
        obtain ⟨X0, hX0⟩ : ∃ X0, wr.alloc (.cells z7 68) = X0 := ⟨_, rfl⟩
        have HS : Hid (QSide wr g3 (g0 + 1) A n) := Lib.hid ⟨by omega, Nat.lt_of_lt_of_le HH.out.r HQL.out.fr.size, fun ad e h0 => Nat.lt_of_lt_of_le (HH.out.a ad e h0) HQL.out.fr.size⟩
        have HR0 : Hid (QEv wr g3 (g0 + 1) A n c xs z7 s X0) := Lib.hid (by
          refine ⟨HQL.out.rd.quiet (by rw [← hX0]; exact (Fr.refl _ _).alloc _), by rw [← hX0, ← hg3]; exact Bk.new _ _ _, ?_⟩
          rw [← hX0]; exact (Fr.refl _ _).alloc _)
        have HG3 := Lib.hid hg3
        unfold z7 at hX0 HR0
        have C0 : Hid (Calls Tryz.prog 39 #[.pointer (some ⟨g0 + 1, 0, none⟩), .string evW, .int .i64 1, .int .i64 23] X0 fun e w' => e = .returned (.int .i64 (evS1 xs s).1) ∧ RRAt w' (g0 + 1) A n c xs (evS1 xs s).2 ∧ Fr (fun x => x = g0 + 1) X0 w') := Lib.hid (refBetween_any HR0.out.rd HH.out.hn evW 1 23)
        unfold evW at C0
        go_wp2_with fail
        clear hX0 hg3 ce
        refine C0.out.mono ?_; rintro e x0 ⟨rfl, hr, hf⟩
        have HM0 := Lib.hid (HR0.out.call HS.out hr hf)
        have cz : x0.cell? ⟨g3, 0, none⟩ = some (.int .i64 0) := HM0.out.b3.cell 0
        have fz : x0.frozen? ⟨g3, 0, none⟩ = false := HM0.out.b3.frozen 0
        obtain ⟨X1, hX1⟩ : ∃ X, x0.setCell ⟨g3, 0, none⟩ (.int .i64 (evS1 xs s).1) = X := ⟨_, rfl⟩
        have HR1 : Hid (QEv wr g3 (g0 + 1) A n c xs #[.int .i64 (evS1 xs s).1, .int .i64 0, .int .i64 0, .int .i64 0, .int .i64 0, .int .i64 0, .slice none 0 0] (evS1 xs s).2 X1) := Lib.hid (by rw [← hX1]; exact HM0.out.store HS.out 0 (.int .i64 (evS1 xs s).1))
        clear hr hf C0 HR0 HM0
        have C1 : Hid (Calls Tryz.prog 39 #[.pointer (some ⟨g0 + 1, 0, none⟩), .string evW, .int .i64 0, .int .i64 1099511627776] X1 fun e w' => e = .returned (.int .i64 (evS2 xs s).1) ∧ RRAt w' (g0 + 1) A n c xs (evS2 xs s).2 ∧ Fr (fun x => x = g0 + 1) X1 w') := Lib.hid (refBetween_any HR1.out.rd HH.out.hn evW 0 1099511627776)
        unfold evW at C1
        go_wp2_with fail
        clear hX1 cz fz
        refine C1.out.mono ?_; rintro e x1 ⟨rfl, hr, hf⟩
        have HM1 := Lib.hid (HR1.out.call HS.out hr hf)
        have cz : x1.cell? ⟨g3, 1, none⟩ = some (.int .i64 0) := HM1.out.b3.cell 1
        have fz : x1.frozen? ⟨g3, 1, none⟩ = false := HM1.out.b3.frozen 1
        obtain ⟨X2, hX2⟩ : ∃ X, x1.setCell ⟨g3, 1, none⟩ (.int .i64 (evS2 xs s).1) = X := ⟨_, rfl⟩
        have HR2 : Hid (QEv wr g3 (g0 + 1) A n c xs #[.int .i64 (evS1 xs s).1, .int .i64 (evS2 xs s).1, .int .i64 0, .int .i64 0, .int .i64 0, .int .i64 0, .slice none 0 0] (evS2 xs s).2 X2) := Lib.hid (by rw [← hX2]; exact HM1.out.store HS.out 1 (.int .i64 (evS2 xs s).1))
        clear hr hf C1 HR1 HM1
        have C2 : Hid (Calls Tryz.prog 39 #[.pointer (some ⟨g0 + 1, 0, none⟩), .string evW, .int .i64 0, .int .i64 1099511627776] X2 fun e w' => e = .returned (.int .i64 (evS3 xs s).1) ∧ RRAt w' (g0 + 1) A n c xs (evS3 xs s).2 ∧ Fr (fun x => x = g0 + 1) X2 w') := Lib.hid (refBetween_any HR2.out.rd HH.out.hn evW 0 1099511627776)
        unfold evW at C2
        go_wp2_with fail
        clear hX2 cz fz
        refine C2.out.mono ?_; rintro e x2 ⟨rfl, hr, hf⟩
        have HM2 := Lib.hid (HR2.out.call HS.out hr hf)
        have cz : x2.cell? ⟨g3, 2, none⟩ = some (.int .i64 0) := HM2.out.b3.cell 2
        have fz : x2.frozen? ⟨g3, 2, none⟩ = false := HM2.out.b3.frozen 2
        obtain ⟨X3, hX3⟩ : ∃ X, x2.setCell ⟨g3, 2, none⟩ (.int .i64 (evS3 xs s).1) = X := ⟨_, rfl⟩
        have HR3 : Hid (QEv wr g3 (g0 + 1) A n c xs #[.int .i64 (evS1 xs s).1, .int .i64 (evS2 xs s).1, .int .i64 (evS3 xs s).1, .int .i64 0, .int .i64 0, .int .i64 0, .slice none 0 0] (evS3 xs s).2 X3) := Lib.hid (by rw [← hX3]; exact HM2.out.store HS.out 2 (.int .i64 (evS3 xs s).1))
        clear hr hf C2 HR2 HM2
        have C3 : Hid (Calls Tryz.prog 39 #[.pointer (some ⟨g0 + 1, 0, none⟩), .string evW, .int .i64 0, .int .i64 1099511627776] X3 fun e w' => e = .returned (.int .i64 (evS4 xs s).1) ∧ RRAt w' (g0 + 1) A n c xs (evS4 xs s).2 ∧ Fr (fun x => x = g0 + 1) X3 w') := Lib.hid (refBetween_any HR3.out.rd HH.out.hn evW 0 1099511627776)
        unfold evW at C3
        go_wp2_with fail
        clear hX3 cz fz
        refine C3.out.mono ?_; rintro e x3 ⟨rfl, hr, hf⟩
        have HM3 := Lib.hid (HR3.out.call HS.out hr hf)
        have cz : x3.cell? ⟨g3, 3, none⟩ = some (.int .i64 0) := HM3.out.b3.cell 3
        have fz : x3.frozen? ⟨g3, 3, none⟩ = false := HM3.out.b3.frozen 3
        obtain ⟨X4, hX4⟩ : ∃ X, x3.setCell ⟨g3, 3, none⟩ (.int .i64 (evS4 xs s).1) = X := ⟨_, rfl⟩
        have HR4 : Hid (QEv wr g3 (g0 + 1) A n c xs #[.int .i64 (evS1 xs s).1, .int .i64 (evS2 xs s).1, .int .i64 (evS3 xs s).1, .int .i64 (evS4 xs s).1, .int .i64 0, .int .i64 0, .slice none 0 0] (evS4 xs s).2 X4) := Lib.hid (by rw [← hX4]; exact HM3.out.store HS.out 3 (.int .i64 (evS4 xs s).1))
        clear hr hf C3 HR3 HM3
        have C4 : Hid (Calls Tryz.prog 39 #[.pointer (some ⟨g0 + 1, 0, none⟩), .string evW, .int .i64 0, .int .i64 1099511627776] X4 fun e w' => e = .returned (.int .i64 (evS5 xs s).1) ∧ RRAt w' (g0 + 1) A n c xs (evS5 xs s).2 ∧ Fr (fun x => x = g0 + 1) X4 w') := Lib.hid (refBetween_any HR4.out.rd HH.out.hn evW 0 1099511627776)
        unfold evW at C4
        go_wp2_with fail
        clear hX4 cz fz
        refine C4.out.mono ?_; rintro e x4 ⟨rfl, hr, hf⟩
        have HM4 := Lib.hid (HR4.out.call HS.out hr hf)
        have cz : x4.cell? ⟨g3, 4, none⟩ = some (.int .i64 0) := HM4.out.b3.cell 4
        have fz : x4.frozen? ⟨g3, 4, none⟩ = false := HM4.out.b3.frozen 4
        obtain ⟨X5, hX5⟩ : ∃ X, x4.setCell ⟨g3, 4, none⟩ (.int .i64 (evS5 xs s).1) = X := ⟨_, rfl⟩
        have HR5 : Hid (QEv wr g3 (g0 + 1) A n c xs #[.int .i64 (evS1 xs s).1, .int .i64 (evS2 xs s).1, .int .i64 (evS3 xs s).1, .int .i64 (evS4 xs s).1, .int .i64 (evS5 xs s).1, .int .i64 0, .slice none 0 0] (evS5 xs s).2 X5) := Lib.hid (by rw [← hX5]; exact HM4.out.store HS.out 4 (.int .i64 (evS5 xs s).1))
        clear hr hf C4 HR4 HM4
        have C5 : Hid (Calls Tryz.prog 39 #[.pointer (some ⟨g0 + 1, 0, none⟩), .string evW, .int .i64 0, .int .i64 1099511627776] X5 fun e w' => e = .returned (.int .i64 (evS6 xs s).1) ∧ RRAt w' (g0 + 1) A n c xs (evS6 xs s).2 ∧ Fr (fun x => x = g0 + 1) X5 w') := Lib.hid (refBetween_any HR5.out.rd HH.out.hn evW 0 1099511627776)
        unfold evW at C5
        go_wp2_with fail
        clear hX5 cz fz
        refine C5.out.mono ?_; rintro e x5 ⟨rfl, hr, hf⟩
        have HM5 := Lib.hid (HR5.out.call HS.out hr hf)
        have cz : x5.cell? ⟨g3, 5, none⟩ = some (.int .i64 0) := HM5.out.b3.cell 5
        have fz : x5.frozen? ⟨g3, 5, none⟩ = false := HM5.out.b3.frozen 5
        obtain ⟨X6, hX6⟩ : ∃ X, x5.setCell ⟨g3, 5, none⟩ (.int .i64 (evS6 xs s).1) = X := ⟨_, rfl⟩
        have HR6 : Hid (QEv wr g3 (g0 + 1) A n c xs #[.int .i64 (evS1 xs s).1, .int .i64 (evS2 xs s).1, .int .i64 (evS3 xs s).1, .int .i64 (evS4 xs s).1, .int .i64 (evS5 xs s).1, .int .i64 (evS6 xs s).1, .slice none 0 0] (evS6 xs s).2 X6) := Lib.hid (by rw [← hX6]; exact HM5.out.store HS.out 5 (.int .i64 (evS6 xs s).1))
        clear hr hf C5 HR5 HM5
        have C6 : Hid (Calls Tryz.prog 40 #[.pointer (some ⟨g0 + 1, 0, none⟩), .string datW, .int .i64 4096] X6 fun e w' => ∃ v, e = .returned v ∧ SliceNew X6 w' v (evS7 xs s).1 ∧ RRAt w' (g0 + 1) A n c xs (evS7 xs s).2 ∧ Fr (fun x => x = g0 + 1) X6 w') := Lib.hid (refBytes_any HR6.out.rd HH.out.hn datW 4096)
        unfold datW at C6
        go_wp2_with fail
        clear hX6 cz fz
        refine C6.out.mono ?_; rintro e x6 ⟨v, rfl, hv, hr, hf⟩
        obtain ⟨pA, pc, rfl, ho, hn⟩ := hv
        have HM6 := Lib.hid (HR6.out.call HS.out hr hf)
        have HO := Lib.hid ho
        have HN : Hid (∀ k, (Value.slice pA (evS7 xs s).1.length pc).ownBlock = some k → X6.heap.size ≤ k) := Lib.hid hn
        have HZ : Hid (g3 < X6.heap.size ∧ wr.heap.size ≤ X6.heap.size) := Lib.hid ⟨HR6.out.b3.lt, HR6.out.fr.size⟩
        clear hr hf C6 HR6 ho hn
        obtain ⟨p, hp⟩ : ∃ p : VL, p = ⟨(evR xs s).1, pA, pc⟩ := ⟨_, rfl⟩
        have HPE : Hid (p.e = (evR xs s).1) := Lib.hid (by rw [hp])
        have HPB : Hid (p.bv = .slice pA (evS7 xs s).1.length pc ∧ p.e.d = (evS7 xs s).1) := Lib.hid (by rw [hp]; exact ⟨rfl, rfl⟩)
        have HPC : Hid (p.cells = [.int .i64 (evS1 xs s).1, .int .i64 (evS2 xs s).1, .int .i64 (evS3 xs s).1, .int .i64 (evS4 xs s).1, .int .i64 (evS5 xs s).1, .int .i64 (evS6 xs s).1, .slice pA (evS7 xs s).1.length pc]) := Lib.hid (by rw [hp]; rfl)
        have HSE : Hid ((evS7 xs s).2 = (evR xs s).2) := Lib.hid (by rw [HE.out])
        clear hp HE
        generalize (evS7 xs s).2 = sN at *
        generalize (evS7 xs s).1 = d at *
        generalize (evS1 xs s).1 = e0 at *
        generalize (evS2 xs s).1 = e1 at *
        generalize (evS3 xs s).1 = e2 at *
        generalize (evS4 xs s).1 = e3 at *
        generalize (evS5 xs s).1 = e4 at *
        generalize (evS6 xs s).1 = e5 at *
        generalize d.length = dl at *
        have cz : x6.cell? ⟨g3, 6, none⟩ = some (.slice none 0 0) := HM6.out.b3.cell 6
        have fz : x6.frozen? ⟨g3, 6, none⟩ = false := HM6.out.b3.frozen 6
        obtain ⟨X7, hX7⟩ : ∃ X, x6.setCell ⟨g3, 6, none⟩ (.slice pA dl pc) = X := ⟨_, rfl⟩
        have HR7 : Hid (QEv wr g3 (g0 + 1) A n c xs #[.int .i64 e0, .int .i64 e1, .int .i64 e2, .int .i64 e3, .int .i64 e4, .int .i64 e5, .slice pA dl pc] sN X7) := Lib.hid (by rw [← hX7]; exact HM6.out.store HS.out 6 (.slice pA dl pc))
        have F67 : Hid (Fr (fun k => k = g3) x6 X7) := Lib.hid (by rw [← hX7]; exact Fr.setCell (S := fun k => k = g3) (p := ⟨g3, 6, none⟩) (Fr.refl _ _) (fun _ => rfl) _)
        have HOW : Hid (OwV X7 p) := Lib.hid ⟨by
          rw [HPB.out.1, HPB.out.2]
          exact HO.out.fr F67.out (fun k hk => by have := HN.out k hk; have := HZ.out; omega), Ev.may.ok (by rw [HPE.out]; exact HMAY.out)⟩
        have HNEW : Hid (∀ k, p.bv.ownBlock = some k → W.heap.size ≤ k) := Lib.hid (fun k hk => by
          rw [HPB.out.1] at hk
          have := HN.out k hk; have := HZ.out; have := HQL.out.fr.size; omega)
        have H4 : Hid (QLoop W (g0 + 1) A n c xs (.slice A9 m c9) ps sN X7) := Lib.hid (by
          refine ⟨HR7.out.rd, HQL.out.own.fr HR7.out.fr (fun k hk e => by have := HQL.out.new k hk; have := HH.out.r; omega), HQL.out.new, HQL.out.fr.trans HR7.out.fr (fun _ _ e => e)⟩)
        have y0 : X7.cell? ⟨g3, 0, none⟩ = some (.int .i64 e0) := HR7.out.b3.cell 0
        have y1 : X7.cell? ⟨g3, 1, none⟩ = some (.int .i64 e1) := HR7.out.b3.cell 1
        have y2 : X7.cell? ⟨g3, 2, none⟩ = some (.int .i64 e2) := HR7.out.b3.cell 2
        have y3 : X7.cell? ⟨g3, 3, none⟩ = some (.int .i64 e3) := HR7.out.b3.cell 3
        have y4 : X7.cell? ⟨g3, 4, none⟩ = some (.int .i64 e4) := HR7.out.b3.cell 4
        have y5 : X7.cell? ⟨g3, 5, none⟩ = some (.int .i64 e5) := HR7.out.b3.cell 5
        have y6 : X7.cell? ⟨g3, 6, none⟩ = some (.slice pA dl pc) := HR7.out.b3.cell 6
        clear HM6 HO HN HR7 F67
        go_wp2_with (at_builtin; (refine wpList_appendR teVE rfl (.tmp 49) (.tmp 51) rfl (.slice A9 m c9) m (vlc ps) rfl (by have h9 := (H4.out.fr0 ((Fr.refl _ X7).alloc (.cells #[.int .i64 e0, .int .i64 e1, .int .i64 e2, .int .i64 e3, .int .i64 e4, .int .i64 e5, .slice pA dl pc] 68))).own.row; rw [HLEN.out] at h9; exact h9) _ 1 [.int .i64 e0, .int .i64 e1, .int .i64 e2, .int .i64 e3, .int .i64 e4, .int .i64 e5, .slice pA dl pc] rfl (sl1E rfl (Bk.new _ _ _)) (by intro u hu; simp at hu; rcases hu with rfl | rfl | rfl | rfl | rfl | rfl | rfl <;> rfl) (by unfold maxLen; omega) (by omega) ?_; intro A6 c6 w6 hr6 hf6 hm6; have HN6 := Lib.hid ((H4.out.fr0 ((Fr.refl _ X7).alloc (.cells #[.int .i64 e0, .int .i64 e1, .int .i64 e2, .int .i64 e3, .int .i64 e4, .int .i64 e5, .slice pA dl pc] 68))).put HH.out (p := p) (HOW.out.fr ((Fr.refl _ X7).alloc _) (fun _ _ h => h)) HNEW.out (by rw [HPC.out]; exact hr6) HLEN.out hf6 hm6); clear hr6 hf6 hm6))
        go_roundw
        case rel =>
          refine ⟨k + 1, m + 1, A6, c6, ps ++ [p], (evR xs s).2, by first | rfl | (go_num; done) | (congr 1; omega), rfl, by omega, by omega, ⟨by simp [HLEN.out], ?_, ?_, ?_⟩⟩
          · rw [← HREL.out.1, HEX.out]
          · rw [← HREL.out.2, HEX.out, ← HPE.out]; simp
          · rw [← HSE.out]; exact HN6.out
        case measure => (simp [intOf]) <;> omega
      | bad er0 a0 wh0 =>
        have hr0 : ∃ p, RR wr (g0 + 1) A n c xs p er0 a0 wh0 ∧ er0 ≠ 0 := by
          obtain ⟨he, p, hr⟩ := HQL.out.rd
          exact ⟨p, hr, he⟩
        obtain ⟨p0, hr0, he0⟩ := hr0
        have ce : wr.cell? ⟨g0 + 1, 2, none⟩ = some (.int .i64 er0) := hr0.bk.cell 2
        have he0' : (er0 == 0) = false := by rw [beq_eq_false_iff_ne]; exact he0
        have hbad := refE_bad xs (N - k) (s := .bad er0 a0 wh0) trivial
        have HST : Hid (stEnd xs (.bad er0 a0 wh0) = stEnd xs (decE xs).2) := Lib.hid (by rw [← HREL.out.1, hbad])
        have HPS : Hid (stEnd xs (decE xs).2 = none → ps.map VL.e = (decE xs).1) := Lib.hid (fun _ => by rw [← HREL.out.2, hbad]; simp)
        clear hr0 he0 hbad
        have CE := Lib.hid (refEnd_any HQL.out.rd)
        have HB0' : Hid (∀ w', Fr (fun _ => False) wr w' → Bk w' g0 31 #[.int .i64 0, .int .i64 0, .string ⟨#[]⟩]) := Lib.hid (fun w' hf => (HB0.out.fr HQL.out.fr (fun e => by omega)).fr hf (fun h => h))
        have HFR : Hid (∀ w', Fr (fun x => x = g0) wr w' → Fr (fun _ => False) w w') := Lib.hid (fun w' hf => (HFW.out.trans HQL.out.fr (fun x hx e => by have e9 : x = g0 + 1 := e; have := HG0.out; omega)).trans hf (fun x hx e => by have e9 : x = g0 := e; have := HG0.out; omega))
        have HOWN : Hid (∀ w', Fr (fun x => x = g0) wr w' → OwnV w' 68 (.slice A9 m c9) ps ∧ ∀ k, VB (.slice A9 m c9) ps k → w.heap.size ≤ k) := Lib.hid (fun w' hf => ⟨HQL.out.own.fr hf (fun k hk e => by have := HQL.out.new k hk; have := HSZ.out; omega), fun k hk => by have := HQL.out.new k hk; have := HFW.out.size; omega⟩)
        clear HQL HREL
        go_wp2_with fail
        refine CE.out.mono ?_; rintro e w4 ⟨er, a, wh, rfl, hflt, hf4⟩
        rw [HST.out] at hflt
        obtain ⟨w5, hw5⟩ : ∃ w5, w4.alloc (.cells #[.int .i64 er, .int .i64 a, .string wh] 31) = w5 := ⟨_, rfl⟩
        obtain ⟨gf, hgf⟩ : ∃ gf, w4.heap.size = gf := ⟨_, rfl⟩
        have f5 : Fr (fun _ => False) w4 w5 := by rw [← hw5]; exact (Fr.refl _ _).alloc _
        have HBF : Hid (Bk w5 gf 31 #[.int .i64 er, .int .i64 a, .string wh]) := Lib.hid (by rw [← hw5, ← hgf]; exact Bk.new _ _ _)
        have HF5 := Lib.hid (hf4.trans f5 (fun _ _ h => h))
        have HGF : Hid (gf ≠ g0) := Lib.hid (by have h1 := (HB0'.out wr (Fr.refl _ _)).lt; have := hf4.size; omega)
        have HB5 := Lib.hid (HB0'.out w5 HF5.out)
        have z0 : w5.cell? ⟨gf, 0, none⟩ = some (.int .i64 er) := HBF.out.cell 0
        have z1 : w5.cell? ⟨gf, 1, none⟩ = some (.int .i64 a) := HBF.out.cell 1
        have z2 : w5.cell? ⟨gf, 2, none⟩ = some (.string wh) := HBF.out.cell 2
        have u0 : w5.cell? ⟨g0, 0, none⟩ = some (.int .i64 0) := HB5.out.cell 0
        have u1 : w5.cell? ⟨g0, 1, none⟩ = some (.int .i64 0) := HB5.out.cell 1
        have u2 : w5.cell? ⟨g0, 2, none⟩ = some (.string ⟨#[]⟩) := HB5.out.cell 2
        have t0 : w5.frozen? ⟨g0, 0, none⟩ = false := HB5.out.frozen 0
        have t1 : w5.frozen? ⟨g0, 1, none⟩ = false := HB5.out.frozen 1
        have t2 : w5.frozen? ⟨g0, 2, none⟩ = false := HB5.out.frozen 2
        clear CE hf4 f5 HB0'
        cases hs : stEnd xs (decE xs).2 with
        | none =>
          rw [hs] at hflt
          obtain rfl : er = 0 := hflt
          have HS := Lib.hid hs
          clear hs
          have G : Hid (Bk (set3 w5 g0 (.int .i64 0) (.int .i64 0) (.string ⟨#[]⟩)) g0 31 #[.int .i64 0, .int .i64 0, .string ⟨#[]⟩] ∧ Fr (fun x => x = g0) w5 (set3 w5 g0 (.int .i64 0) (.int .i64 0) (.string ⟨#[]⟩))) := Lib.hid ⟨HB5.out.set3 _ _ _, Fr.set3 (S := fun x => x = g0) (Fr.refl _ w5) (fun _ => rfl) _ _ _⟩
          go_wp2
          clear hw5 hgf
          change bodyPost _ _ _ _ _ (set3 w5 g0 (.int .i64 0) (.int .i64 0) (.string ⟨#[]⟩))
          generalize set3 w5 g0 (.int .i64 0) (.int .i64 0) (.string ⟨#[]⟩) = w6 at *
          refine bodyPost_ret (resDF rfl _ _ g0 (.slice A9 m c9) _ _ _ rfl rfl G.out.1) rfl ?_
          have hff := (HF5.out.mono (fun _ _ h => h.elim)).trans G.out.2 (fun _ _ h => h)
          refine ⟨?_, HFR.out _ hff⟩
          unfold RefDecE
          rw [HS.out]
          exact ⟨A9, m, c9, ps, rfl, HLEN.out, HPS.out HS.out, (HOWN.out _ hff).1, (HOWN.out _ hff).2⟩
        | some y =>
          obtain ⟨er', a', wh'⟩ := y
          rw [hs] at hflt
          obtain ⟨rfl, rfl, rfl, hne⟩ := hflt
          have HS := Lib.hid hs
          have hne1 : (er == 0) = false := by rw [beq_eq_false_iff_ne]; exact hne
          have hne2 : (er != 0) = true := by rw [bne, hne1]; rfl
          have HNE := Lib.hid hne
          clear hs hne
          go_wp2_with fail
          clear hw5 hgf
          refine wp_region_held_drew (S := (fun w' => Fr (fun x => x = g0) w5 w')) (by kernel_rfl) ((Fr.refl _ _).drew) (fun hHeld => ?_)
          refine wpAnyH_takeD (i := 0) (v := ?_) (some 58) rfl rfl (by kernel_rfl) (by kernel_rfl) (by kernel_rfl) (fun _ _ _ h => h) (Or.inl ⟨by rfl, ?_⟩) (by assumption) ?_
          rotate_left
          · intro w' hSw
            have q := HBF.out.fr hSw HGF.out; have q0 := q.cell 0; have q1 := q.cell 1; have q2 := q.cell 2; simp only [List.getElem?_toArray, List.getElem?_cons_zero, List.getElem?_cons_succ] at q0 q1 q2
            go_simp
            first | done | with_reducible rfl
          try simp only [Act.put, List.setIfInBounds_toArray, List.set_cons_zero, List.set_cons_succ]
          refine wpAnyH_takeD (i := 1) (v := ?_) (some 2) rfl rfl (by kernel_rfl) (by kernel_rfl) (by kernel_rfl) (fun _ _ _ h => h) (Or.inl ⟨by rfl, ?_⟩) (by assumption) ?_
          rotate_left
          · intro w' hSw
            go_simp
            first | done | with_reducible rfl
          try simp only [Act.put, List.setIfInBounds_toArray, List.set_cons_zero, List.set_cons_succ]
          refine wpAnyH_ready (rs := [2]) (by kernel_rfl) (by simp) ?_
          refine AllReadyH.cons rfl (fun K hK => ?_) AllReadyH.nil
          go_simp
          have HX9 := Lib.hid ((HB5.out.set3 (.int .i64 er) (.int .i64 a) (.string wh)).drew)
          refine hK.out _ _ (((Fr.refl (fun x => x = g0) w5).set3 (fun _ => rfl) _ _ _).drew) (fun hHeld => ?_)
          clear hK K
          try change wpAnyH _ _ _ _ _ _ _ (Act.put _ none _) _
          try simp only [Act.put, List.setIfInBounds_toArray, List.set_cons_zero, List.set_cons_succ]
          refine wpAnyH_done (by kernel_rfl) ?_ _
          have HH9 := Lib.hid hHeld
          clear hHeld u0 u1 u2 t0 t1 t2 z0 z1 z2
          obtain ⟨X9, hX9⟩ : ∃ X9, (set3 w5 g0 (.int .i64 er) (.int .i64 a) (.string wh)).drew = X9 := ⟨_, rfl⟩
          rw [hX9] at HX9
          unfold Go.Proofs.YtieoeoonopcjbaaGreatDoor.set3 at hX9
          rw [hX9] at HH9 ⊢
          clear hX9
          go_wp2
          refine bodyPost_ret (resDF rfl _ _ g0 (.slice none 0 0) _ _ _ rfl rfl HX9.out) rfl ?_
          have hff := (HF5.out.mono (fun _ _ h => h.elim)).trans HH9.out (fun _ _ h => h)
          refine ⟨?_, HFR.out _ hff⟩
          unfold RefDecE
          rw [HS.out]
          exact ⟨rfl, HNE.out⟩
    · obtain rfl : k = N := by omega
      have hlt' : ¬ (k : Int) < (k : Int) := by omega
      have hz : refE xs (k - k) s' = ([], s') := by rw [Nat.sub_self]; rfl
      have HST : Hid (stEnd xs s' = stEnd xs (decE xs).2) := Lib.hid (by rw [← HREL.out.1, hz])
      have HPS : Hid (stEnd xs (decE xs).2 = none → ps.map VL.e = (decE xs).1) := Lib.hid (fun _ => by rw [← HREL.out.2, hz]; simp)
      clear hz hlt
      have CE := Lib.hid (refEnd_any HQL.out.rd)
      have HB0' : Hid (∀ w', Fr (fun _ => False) wr w' → Bk w' g0 31 #[.int .i64 0, .int .i64 0, .string ⟨#[]⟩]) := Lib.hid (fun w' hf => (HB0.out.fr HQL.out.fr (fun e => by omega)).fr hf (fun h => h))
      have HFR : Hid (∀ w', Fr (fun x => x = g0) wr w' → Fr (fun _ => False) w w') := Lib.hid (fun w' hf => (HFW.out.trans HQL.out.fr (fun x hx e => by have e9 : x = g0 + 1 := e; have := HG0.out; omega)).trans hf (fun x hx e => by have e9 : x = g0 := e; have := HG0.out; omega))
      have HOWN : Hid (∀ w', Fr (fun x => x = g0) wr w' → OwnV w' 68 (.slice A9 m c9) ps ∧ ∀ k, VB (.slice A9 m c9) ps k → w.heap.size ≤ k) := Lib.hid (fun w' hf => ⟨HQL.out.own.fr hf (fun k hk e => by have := HQL.out.new k hk; have := HSZ.out; omega), fun k hk => by have := HQL.out.new k hk; have := HFW.out.size; omega⟩)
      clear HQL HREL
      go_wp2_with fail
      refine CE.out.mono ?_; rintro e w4 ⟨er, a, wh, rfl, hflt, hf4⟩
      rw [HST.out] at hflt
      obtain ⟨w5, hw5⟩ : ∃ w5, w4.alloc (.cells #[.int .i64 er, .int .i64 a, .string wh] 31) = w5 := ⟨_, rfl⟩
      obtain ⟨gf, hgf⟩ : ∃ gf, w4.heap.size = gf := ⟨_, rfl⟩
      have f5 : Fr (fun _ => False) w4 w5 := by rw [← hw5]; exact (Fr.refl _ _).alloc _
      have HBF : Hid (Bk w5 gf 31 #[.int .i64 er, .int .i64 a, .string wh]) := Lib.hid (by rw [← hw5, ← hgf]; exact Bk.new _ _ _)
      have HF5 := Lib.hid (hf4.trans f5 (fun _ _ h => h))
      have HGF : Hid (gf ≠ g0) := Lib.hid (by have h1 := (HB0'.out wr (Fr.refl _ _)).lt; have := hf4.size; omega)
      have HB5 := Lib.hid (HB0'.out w5 HF5.out)
      have z0 : w5.cell? ⟨gf, 0, none⟩ = some (.int .i64 er) := HBF.out.cell 0
      have z1 : w5.cell? ⟨gf, 1, none⟩ = some (.int .i64 a) := HBF.out.cell 1
      have z2 : w5.cell? ⟨gf, 2, none⟩ = some (.string wh) := HBF.out.cell 2
      have u0 : w5.cell? ⟨g0, 0, none⟩ = some (.int .i64 0) := HB5.out.cell 0
      have u1 : w5.cell? ⟨g0, 1, none⟩ = some (.int .i64 0) := HB5.out.cell 1
      have u2 : w5.cell? ⟨g0, 2, none⟩ = some (.string ⟨#[]⟩) := HB5.out.cell 2
      have t0 : w5.frozen? ⟨g0, 0, none⟩ = false := HB5.out.frozen 0
      have t1 : w5.frozen? ⟨g0, 1, none⟩ = false := HB5.out.frozen 1
      have t2 : w5.frozen? ⟨g0, 2, none⟩ = false := HB5.out.frozen 2
      clear CE hf4 f5 HB0'
      cases hs : stEnd xs (decE xs).2 with
      | none =>
        rw [hs] at hflt
        obtain rfl : er = 0 := hflt
        have HS := Lib.hid hs
        clear hs
        have G : Hid (Bk (set3 w5 g0 (.int .i64 0) (.int .i64 0) (.string ⟨#[]⟩)) g0 31 #[.int .i64 0, .int .i64 0, .string ⟨#[]⟩] ∧ Fr (fun x => x = g0) w5 (set3 w5 g0 (.int .i64 0) (.int .i64 0) (.string ⟨#[]⟩))) := Lib.hid ⟨HB5.out.set3 _ _ _, Fr.set3 (S := fun x => x = g0) (Fr.refl _ w5) (fun _ => rfl) _ _ _⟩
        go_wp2
        clear hw5 hgf
        change bodyPost _ _ _ _ _ (set3 w5 g0 (.int .i64 0) (.int .i64 0) (.string ⟨#[]⟩))
        generalize set3 w5 g0 (.int .i64 0) (.int .i64 0) (.string ⟨#[]⟩) = w6 at *
        refine bodyPost_ret (resDF rfl _ _ g0 (.slice A9 m c9) _ _ _ rfl rfl G.out.1) rfl ?_
        have hff := (HF5.out.mono (fun _ _ h => h.elim)).trans G.out.2 (fun _ _ h => h)
        refine ⟨?_, HFR.out _ hff⟩
        unfold RefDecE
        rw [HS.out]
        exact ⟨A9, m, c9, ps, rfl, HLEN.out, HPS.out HS.out, (HOWN.out _ hff).1, (HOWN.out _ hff).2⟩
      | some y =>
        obtain ⟨er', a', wh'⟩ := y
        rw [hs] at hflt
        obtain ⟨rfl, rfl, rfl, hne⟩ := hflt
        have HS := Lib.hid hs
        have hne1 : (er == 0) = false := by rw [beq_eq_false_iff_ne]; exact hne
        have hne2 : (er != 0) = true := by rw [bne, hne1]; rfl
        have HNE := Lib.hid hne
        clear hs hne
        go_wp2_with fail
        clear hw5 hgf
        refine wp_region_held_drew (S := (fun w' => Fr (fun x => x = g0) w5 w')) (by kernel_rfl) ((Fr.refl _ _).drew) (fun hHeld => ?_)
        refine wpAnyH_takeD (i := 0) (v := ?_) (some 58) rfl rfl (by kernel_rfl) (by kernel_rfl) (by kernel_rfl) (fun _ _ _ h => h) (Or.inl ⟨by rfl, ?_⟩) (by assumption) ?_
        rotate_left
        · intro w' hSw
          have q := HBF.out.fr hSw HGF.out; have q0 := q.cell 0; have q1 := q.cell 1; have q2 := q.cell 2; simp only [List.getElem?_toArray, List.getElem?_cons_zero, List.getElem?_cons_succ] at q0 q1 q2
          go_simp
          first | done | with_reducible rfl
        try simp only [Act.put, List.setIfInBounds_toArray, List.set_cons_zero, List.set_cons_succ]
        refine wpAnyH_takeD (i := 1) (v := ?_) (some 2) rfl rfl (by kernel_rfl) (by kernel_rfl) (by kernel_rfl) (fun _ _ _ h => h) (Or.inl ⟨by rfl, ?_⟩) (by assumption) ?_
        rotate_left
        · intro w' hSw
          go_simp
          first | done | with_reducible rfl
        try simp only [Act.put, List.setIfInBounds_toArray, List.set_cons_zero, List.set_cons_succ]
        refine wpAnyH_ready (rs := [2]) (by kernel_rfl) (by simp) ?_
        refine AllReadyH.cons rfl (fun K hK => ?_) AllReadyH.nil
        go_simp
        have HX9 := Lib.hid ((HB5.out.set3 (.int .i64 er) (.int .i64 a) (.string wh)).drew)
        refine hK.out _ _ (((Fr.refl (fun x => x = g0) w5).set3 (fun _ => rfl) _ _ _).drew) (fun hHeld => ?_)
        clear hK K
        try change wpAnyH _ _ _ _ _ _ _ (Act.put _ none _) _
        try simp only [Act.put, List.setIfInBounds_toArray, List.set_cons_zero, List.set_cons_succ]
        refine wpAnyH_done (by kernel_rfl) ?_ _
        have HH9 := Lib.hid hHeld
        clear hHeld u0 u1 u2 t0 t1 t2 z0 z1 z2
        obtain ⟨X9, hX9⟩ : ∃ X9, (set3 w5 g0 (.int .i64 er) (.int .i64 a) (.string wh)).drew = X9 := ⟨_, rfl⟩
        rw [hX9] at HX9
        unfold Go.Proofs.YtieoeoonopcjbaaGreatDoor.set3 at hX9
        rw [hX9] at HH9 ⊢
        clear hX9
        go_wp2
        refine bodyPost_ret (resDF rfl _ _ g0 (.slice none 0 0) _ _ _ rfl rfl HX9.out) rfl ?_
        have hff := (HF5.out.mono (fun _ _ h => h.elim)).trans HH9.out (fun _ _ h => h)
        refine ⟨?_, HFR.out _ hff⟩
        unfold RefDecE
        rw [HS.out]
        exact ⟨rfl, HNE.out⟩
end Go.Proofs.YtieoeoonopcjbaaGreatDoor
