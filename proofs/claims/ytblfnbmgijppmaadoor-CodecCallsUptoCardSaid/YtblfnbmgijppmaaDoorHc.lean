/- The reference's Bytes. -/
import Derived.Test.YtblfnbmgijppmaaDoorHb
import Derived.Test.YtblfnbmgijppmaaDoorGt
import Derived.Deep.RegionWith
import Derived.IntWalk
import Derived.Deep.DeepCutAuto
namespace Go.Proofs.YtblfnbmgijppmaaDoor
open Go.RowKit

/-- append(s, x...) met alone in a region that draws. -/
theorem stepOf_append8s {P : Program} {ops : Array Oper} {o : Oper} {a : Act} {w : World} {K' : Act → World → Prop} {Q : Exit → Act → World → Prop} (hgd : o.guard = none) (s x : Operand) {t e : TypeId} (hT : T8 P t e)
    (ho : o.op = .call { callee := .builtin .append, args := #[s, x], argTypes := #[t, t] })
    (v : Value) (bs : List UInt8) (hs : a.eval s = v) (hown : Own8 w e v bs) (A : Option Addr) (m c : Nat) (xs : List UInt8) (hx : a.eval x = .slice A m c) (hm : xs.length = m) (hr : Rd8 w A xs) (hlen : bs.length + xs.length ≤ 140737488355328)
    (h : ∀ A' c' w', Own8 w' e (.slice A' (bs.length + xs.length) c') (bs ++ xs) → Fr (fun k => v.ownBlock = some k) w w' → Moved w v (.slice A' (bs.length + xs.length) c') → K' (a.put o.dst (.slice A' (bs.length + xs.length) c')) w') :
    if Region.wanted o (yielded ops a.tmps) = true then Oper.wp P o a w K' Q else K' (a.put o.dst undef) w := by
  rw [if_pos (by simp [Region.wanted, hgd])]
  subst hm
  obtain ⟨A', c', w', hr, h2, h3, h4, _⟩ := run_append8 (P := P) w hT o.type hown A c xs hr hlen
  unfold Oper.wp execOp
  simp only [ho, resolve, invoke, builtin, Sem.run_bind, Sem.run_pure, Result.andThen_ok, List.map_toArray, List.map_cons, List.map_nil, hs, hx, hr]
  exact h A' c' w' h2 h3 h4

theorem Fresh.put {w w' : World} {b n c : Nat} (h : Fr (fun _ => False) w w') (hb : w.heap.size ≤ b) : Fresh w w' (.slice (some ⟨b, 0, none⟩) n c) :=
  ⟨h, fun k hk => by
    have : b = k := by injection hk
    omega⟩

theorem srR (xs : List UInt8) (wh : ByteArray) (most : Int) (k : Nat) : stBytes xs wh most (.at_ k) = match (srRun xs k most).1 with | .bad b => ([], .bad b k wh) | .ok k' => ((srRun xs k most).2, .at_ k') := rfl

set_option maxRecDepth 100000 in
set_option maxHeartbeats 2000000 in
theorem refBytes_any {w : World} {g : Nat} {A : Option Addr} {n c : Nat} {xs : List UInt8} {s : St} (h : RRAt w g A n c xs s) (hn : n ≤ 140737488355328) (wh : ByteArray) (most : Int) :
    Calls Tryd.prog 25 #[.pointer (some ⟨g, 0, none⟩), .string wh, .int .i64 most] w fun e w' =>
      ∃ v, e = .returned v ∧ SliceNew w w' v (stBytes xs wh most s).1 ∧ RRAt w' g A n c xs (stBytes xs wh most s).2 ∧ Fr (fun x => x = g) w w' := by
  have CI := Lib.hid (refInt_any h wh)
  cases s with
  | bad er a w0 =>
    obtain ⟨he, p, hr⟩ := h
    have c1 : w.cell? ⟨g, 1, none⟩ = some (.int .i64 p) := hr.bk.cell 1
    have he1 : (er == 0) = false := by rw [beq_eq_false_iff_ne]; exact he
    have he2 : (er != 0) = true := by rw [bne, he1]; rfl
    go_enter Tryd.func25, Tryd.ntmps25
    go_wp2_with fail
    refine (refInt_bad hr he1 wh).mono ?_; rintro e w1 ⟨rfl, rfl⟩
    have c2 : w.cell? ⟨g, 2, none⟩ = some (.int .i64 er) := hr.bk.cell 2
    go_wp2
    go_ret
    exact ⟨_, rfl, ⟨none, 0, rfl, Own8.nil _ _, fun k hk => by simp [Value.ownBlock] at hk⟩, ⟨he, p, hr⟩, Fr.refl _ _⟩
  | at_ k =>
    obtain ⟨hk, fat, what, hr⟩ := h
    have hl := hr.len
    have c1 : w.cell? ⟨g, 1, none⟩ = some (.int .i64 k) := hr.bk.cell 1
    cases hN : rdNum (xs.drop k) with
    | bad b =>
      have hb0 := num_bad hN
      have hs : stBytes xs wh most (.at_ k) = ([], .bad b k wh) := by rw [srR]; simp [srRun, hN]
      have hs2 : stInt xs wh (.at_ k) = (0, .bad b k wh) := by simp [stInt, hN]
      rw [hs]
      rw [hs2] at CI
      clear hs hs2 hN
      have he1 : (b == 0) = false := by rw [beq_eq_false_iff_ne]; exact hb0
      have he2 : (b != 0) = true := by rw [bne, he1]; rfl
      go_enter Tryd.func25, Tryd.ntmps25
      go_wp2_with fail
      refine CI.out.mono ?_
      rintro e w1 ⟨rfl, ⟨hq, p, h1⟩, hf1⟩
      have c2 : w1.cell? ⟨g, 2, none⟩ = some (.int .i64 b) := h1.bk.cell 2
      go_wp2
      go_ret
      exact ⟨_, rfl, ⟨none, 0, rfl, Own8.nil _ _, fun k hk => by simp [Value.ownBlock] at hk⟩, ⟨hq, p, h1⟩, hf1⟩
    | ok u m =>
      have hs2 : stInt xs wh (.at_ k) = (unfN u, .at_ (k + m)) := by simp [stInt, hN]
      rw [hs2] at CI
      clear hs2
      by_cases h1 : unfN u < 0
      · have hs : stBytes xs wh most (.at_ k) = ([], .bad 8 k wh) := by rw [srR]; simp [srRun, hN, h1]
        rw [hs]
        clear hs hN
        go_enter Tryd.func25, Tryd.ntmps25
        go_wp2_with fail
        refine CI.out.mono ?_
        rintro e w1 ⟨rfl, ⟨hq, fat1, what1, hr1⟩, hf1⟩
        have c2 : w1.cell? ⟨g, 2, none⟩ = some (.int .i64 0) := hr1.bk.cell 2
        go_wp2_with fail
        refine (rfail_any hr1 8 k wh).mono ?_; rintro e w2 ⟨rfl, hr2, hf2⟩
        go_wp2
        go_ret
        exact ⟨_, rfl, ⟨none, 0, rfl, Own8.nil _ _, fun k hk => by simp [Value.ownBlock] at hk⟩, ⟨by decide, _, hr2⟩, hf1.trans hf2 (fun _ _ h => h)⟩
      · by_cases h2 : most < unfN u
        · have hs : stBytes xs wh most (.at_ k) = ([], .bad 10 k wh) := by rw [srR]; simp [srRun, hN, h1, h2]
          rw [hs]
          clear hs hN
          have h1' : (0 : Int) ≤ unfN u := by omega
          go_enter Tryd.func25, Tryd.ntmps25
          go_wp2_with fail
          refine CI.out.mono ?_
          rintro e w1 ⟨rfl, ⟨hq, fat1, what1, hr1⟩, hf1⟩
          have c2 : w1.cell? ⟨g, 2, none⟩ = some (.int .i64 0) := hr1.bk.cell 2
          go_wp2_with fail
          refine (rfail_any hr1 10 k wh).mono ?_; rintro e w2 ⟨rfl, hr2, hf2⟩
          go_wp2
          go_ret
          exact ⟨_, rfl, ⟨none, 0, rfl, Own8.nil _ _, fun k hk => by simp [Value.ownBlock] at hk⟩, ⟨by decide, _, hr2⟩, hf1.trans hf2 (fun _ _ h => h)⟩
        · by_cases h3 : (n : Int) - ((k + m : Nat) : Int) < unfN u
          · have hs : stBytes xs wh most (.at_ k) = ([], .bad 7 k wh) := by
              rw [srR]; simp only [srRun, hN]; rw [if_neg h1, if_neg h2, hl, if_pos h3]
            rw [hs]
            clear hs hN
            have h1' : (0 : Int) ≤ unfN u := by omega
            have h2' : unfN u ≤ most := by omega
            go_enter Tryd.func25, Tryd.ntmps25
            go_wp2_with fail
            refine CI.out.mono ?_
            rintro e w1 ⟨rfl, ⟨hq, fat1, what1, hr1⟩, hf1⟩
            have c2 : w1.cell? ⟨g, 2, none⟩ = some (.int .i64 0) := hr1.bk.cell 2
            have c0 : w1.cell? ⟨g, 0, none⟩ = some (.slice A n c) := hr1.bk.cell 0
            have c1' : w1.cell? ⟨g, 1, none⟩ = some (.int .i64 (k + m : Nat)) := hr1.bk.cell 1
            have hcap := hr1.cap
            have hbig := hr1.big
            generalize k + m = K at *
            generalize unfN u = U at *
            go_wp2_with fail
            go_quiet (fail)
            go_wp2_with fail
            refine (rfail_any (hr1.quiet ((Fr.refl (fun _ => False) w1).drewN nq)) 7 k wh).mono ?_; rintro e w2 ⟨rfl, hr2, hf2⟩
            go_wp2
            go_ret
            exact ⟨_, rfl, ⟨none, 0, rfl, Own8.nil _ _, fun k hk => by simp [Value.ownBlock] at hk⟩, ⟨by decide, _, hr2⟩, (hf1.drewN nq).trans hf2 (fun _ _ h => h)⟩
          · obtain ⟨L, hL⟩ : ∃ L : Nat, unfN u = (L : Int) := ⟨(unfN u).toNat, by omega⟩
            have hs : stBytes xs wh most (.at_ k) = ((xs.drop (k + m)).take L, .at_ (k + m + L)) := by
              rw [srR]; simp only [srRun, hN]; rw [if_neg h1, if_neg h2, hl, if_neg h3, hL]; rfl
            rw [hs]
            rw [hL] at CI h1 h2 h3
            clear hs hN hL
            have h2' : (L : Int) ≤ most := by omega
            have hrp : ((xs.drop (k + m)).take L).length = L := by simp; omega
            generalize k + m = J at *
            go_enter Tryd.func25, Tryd.ntmps25
            go_wp2_with fail
            refine CI.out.mono ?_
            rintro e w1 ⟨rfl, ⟨hq, fat1, what1, hr1⟩, hf1⟩
            have c2 : w1.cell? ⟨g, 2, none⟩ = some (.int .i64 0) := hr1.bk.cell 2
            have c0 : w1.cell? ⟨g, 0, none⟩ = some (.slice A n c) := hr1.bk.cell 0
            have c1' : w1.cell? ⟨g, 1, none⟩ = some (.int .i64 J) := hr1.bk.cell 1
            have hcap := hr1.cap
            have hbig := hr1.big
            clear c1 hr hk CI h1
            go_wp2_with fail
            go_quiet (fail)
            go_upto_region 5 with (fail)
            have hwr : IntKind.i64.wrap ((J : Int) + (L : Int)) = (J : Int) + L := by rw [IntKind.wrap_i64]; omega
            have i1 : (J : Int) + L ≤ c := by omega
            have i2 : (J : Int) ≤ (J : Int) + L := by omega
            have i0 : (0 : Int) ≤ J := by omega
            have hrp' : ((xs.drop J).take L).length = ((J : Int) + (L : Int)).toNat - J := by omega
            by_cases hcK : c = J
            · have hKc := hcK.symm
              clear hcK
              subst hKc
              have HX0 := Lib.hid (show (xs.drop J).take L = [] from List.eq_nil_of_length_eq_zero (by omega))
              have i3 : ¬ ((J : Int) < J) := by omega
              have j1 : (0 : Int) ≤ (J : Int) + L := by omega
              have j3 : J ≤ ((J : Int) + L).toNat := by omega
              have HC0 := Lib.hid (fun w' (hf : Fr (fun _ => False) w1 w') => show w'.cell? ⟨g, 0, none⟩ = some (.slice A n J) from (hr1.quiet hf).bk.cell 0)
              have HC1 := Lib.hid (fun w' (hf : Fr (fun _ => False) w1 w') => show w'.cell? ⟨g, 1, none⟩ = some (.int .i64 J) from (hr1.quiet hf).bk.cell 1)
              refine wp_region_held_drew (S := fun w' => Fr (fun _ => False) w1 w') (by kernel_rfl) (((Fr.refl _ _).drewN nq).drew) (fun hHeld => ?_)
              refine wpAnyH_takeD (i := 1) (v := ?_) (some 24) rfl rfl (by kernel_rfl) (by kernel_rfl) (by kernel_rfl) (fun _ _ _ h => h) (Or.inl ⟨by rfl, ?_⟩) (by assumption) ?_
              rotate_left
              · intro w' hSw
                go_simp
                first | done | with_reducible rfl
              try simp only [Act.put, List.setIfInBounds_toArray, List.set_cons_zero, List.set_cons_succ]
              refine wpAnyH_takeD (i := 2) (v := ?_) (some 25) rfl rfl (by kernel_rfl) (by kernel_rfl) (by kernel_rfl) (fun _ _ _ h => h) (Or.inl ⟨by rfl, ?_⟩) (by assumption) ?_
              rotate_left
              · intro w' hSw
                go_simp
                first | done | with_reducible rfl
              try simp only [Act.put, List.setIfInBounds_toArray, List.set_cons_zero, List.set_cons_succ]
              refine wpAnyH_takeD (i := 3) (v := ?_) (some 26) rfl rfl (by kernel_rfl) (by kernel_rfl) (by kernel_rfl) (fun _ _ _ h => h) (Or.inl ⟨by rfl, ?_⟩) (by assumption) ?_
              rotate_left
              · intro w' hSw
                go_simp
                first | done | with_reducible rfl
              try simp only [Act.put, List.setIfInBounds_toArray, List.set_cons_zero, List.set_cons_succ]
              refine wpAnyH_takeD (i := 4) (v := ?_) (some 27) rfl rfl (by kernel_rfl) (by kernel_rfl) (by kernel_rfl) (fun _ _ _ h => h) (Or.inl ⟨by rfl, ?_⟩) (by assumption) ?_
              rotate_left
              · intro w' hSw
                have q0 := HC0.out w' hSw
                go_simp
                first | done | with_reducible rfl
              try simp only [Act.put, List.setIfInBounds_toArray, List.set_cons_zero, List.set_cons_succ]
              refine wpAnyH_takeD (i := 5) (v := ?_) (some 28) rfl rfl (by kernel_rfl) (by kernel_rfl) (by kernel_rfl) (fun _ _ _ h => h) (Or.inl ⟨by rfl, ?_⟩) (by assumption) ?_
              rotate_left
              · intro w' hSw
                go_simp
                first | done | with_reducible rfl
              try simp only [Act.put, List.setIfInBounds_toArray, List.set_cons_zero, List.set_cons_succ]
              refine wpAnyH_takeD (i := 6) (v := ?_) (some 29) rfl rfl (by kernel_rfl) (by kernel_rfl) (by kernel_rfl) (fun _ _ _ h => h) (Or.inl ⟨by rfl, ?_⟩) (by assumption) ?_
              rotate_left
              · intro w' hSw
                go_simp
                first | done | with_reducible rfl
              try simp only [Act.put, List.setIfInBounds_toArray, List.set_cons_zero, List.set_cons_succ]
              refine wpAnyH_takeD (i := 7) (v := ?_) (some 30) rfl rfl (by kernel_rfl) (by kernel_rfl) (by kernel_rfl) (fun _ _ _ h => h) (Or.inl ⟨by rfl, ?_⟩) (by assumption) ?_
              rotate_left
              · intro w' hSw
                go_simp
                first | done | with_reducible rfl
              try simp only [Act.put, List.setIfInBounds_toArray, List.set_cons_zero, List.set_cons_succ]
              refine wpAnyH_takeD (i := 8) (v := ?_) (some 31) rfl rfl (by kernel_rfl) (by kernel_rfl) (by kernel_rfl) (fun _ _ _ h => h) (Or.inl ⟨by rfl, ?_⟩) (by assumption) ?_
              rotate_left
              · intro w' hSw
                have q1 := HC1.out w' hSw
                go_simp
                first | done | with_reducible rfl
              try simp only [Act.put, List.setIfInBounds_toArray, List.set_cons_zero, List.set_cons_succ]
              refine wpAnyH_takeD (i := 9) (v := ?_) (some 32) rfl rfl (by kernel_rfl) (by kernel_rfl) (by kernel_rfl) (fun _ _ _ h => h) (Or.inl ⟨by rfl, ?_⟩) (by assumption) ?_
              rotate_left
              · intro w' hSw
                go_simp
                first | done | with_reducible rfl
              try simp only [Act.put, List.setIfInBounds_toArray, List.set_cons_zero, List.set_cons_succ]
              refine wpAnyH_takeD (i := 10) (v := ?_) (some 33) rfl rfl (by kernel_rfl) (by kernel_rfl) (by kernel_rfl) (fun _ _ _ h => h) (Or.inl ⟨by rfl, ?_⟩) (by assumption) ?_
              rotate_left
              · intro w' hSw
                go_simp
                first | done | with_reducible rfl
              try simp only [Act.put, List.setIfInBounds_toArray, List.set_cons_zero, List.set_cons_succ]
              refine wpAnyH_takeD (i := 11) (v := ?_) (some 34) rfl rfl (by kernel_rfl) (by kernel_rfl) (by kernel_rfl) (fun _ _ _ h => h) (Or.inl ⟨by rfl, ?_⟩) (by assumption) ?_
              rotate_left
              · intro w' hSw
                go_simp
                first | done | with_reducible rfl
              try simp only [Act.put, List.setIfInBounds_toArray, List.set_cons_zero, List.set_cons_succ]
              refine wpAnyH_takeD (i := 12) (v := ?_) (some 35) rfl rfl (by kernel_rfl) (by kernel_rfl) (by kernel_rfl) (fun _ _ _ h => h) (Or.inl ⟨by rfl, ?_⟩) (by assumption) ?_
              rotate_left
              · intro w' hSw
                have q1 := HC1.out w' hSw
                go_simp
                first | done | with_reducible rfl
              try simp only [Act.put, List.setIfInBounds_toArray, List.set_cons_zero, List.set_cons_succ]
              refine wpAnyH_takeD (i := 13) (v := ?_) (some 36) rfl rfl (by kernel_rfl) (by kernel_rfl) (by kernel_rfl) (fun _ _ _ h => h) (Or.inl ⟨by rfl, ?_⟩) (by assumption) ?_
              rotate_left
              · intro w' hSw
                go_simp
                first | done | with_reducible rfl
              try simp only [Act.put, List.setIfInBounds_toArray, List.set_cons_zero, List.set_cons_succ]
              refine wpAnyH_takeD (i := 14) (v := ?_) (some 37) rfl rfl (by kernel_rfl) (by kernel_rfl) (by kernel_rfl) (fun _ _ _ h => h) (Or.inl ⟨by rfl, ?_⟩) (by assumption) ?_
              rotate_left
              · intro w' hSw
                go_simp
                first | done | with_reducible rfl
              try simp only [Act.put, List.setIfInBounds_toArray, List.set_cons_zero, List.set_cons_succ]
              refine wpAnyH_takeD (i := 15) (v := ?_) (some 38) rfl rfl (by kernel_rfl) (by kernel_rfl) (by kernel_rfl) (fun _ _ _ h => h) (Or.inl ⟨by rfl, ?_⟩) (by assumption) ?_
              rotate_left
              · intro w' hSw
                go_simp
                first | done | with_reducible rfl
              try simp only [Act.put, List.setIfInBounds_toArray, List.set_cons_zero, List.set_cons_succ]
              refine wpAnyH_ready (rs := [0]) (by kernel_rfl) (by simp) ?_
              refine AllReadyH.cons rfl (fun K hK => ?_) AllReadyH.nil
              go_simp
              refine hK.out _ _ (Fr.alloc hHeld _) (fun hHeld => ?_)
              clear hK K
              try change wpAnyH _ _ _ _ _ _ _ (Act.put _ (some 23) _) _
              try simp only [Act.put, List.setIfInBounds_toArray, List.set_cons_zero, List.set_cons_succ]
              have ho0 : Own8 ((w1.drewN (nq + 1)).alloc (.cells #[] 5)) 5 (.slice (some ⟨(w1.drewN (nq + 1)).heap.size, 0, none⟩) 0 0) [] := Own8.fresh _ _ #[] 0 rfl (by unfold maxLen; omega)
              refine wpAnyH_ready (rs := [16]) (by kernel_rfl) (by simp) ?_
              refine AllReadyH.cons rfl (fun K hK => ?_) AllReadyH.nil
              refine stepOf_append8s rfl (.tmp 23) (.tmp 38) Tryd.t8 rfl (.slice (some ⟨w1.heap.size, 0, none⟩) 0 0) [] rfl ho0 _ _ _ ((xs.drop J).take L) rfl (by first | exact hrp' | (rw [hrp]; omega)) (by rw [HX0.out]; exact Rd8.nil _ _) (by simp; omega) ?_
              intro A2 c2' w2 ho2 hf2 hm2
              have hfr2 : Fresh w1 w2 (.slice A2 (0 + ((xs.drop J).take L).length) c2') := Fresh.step (v1 := .slice (some ⟨w1.heap.size, 0, none⟩) 0 0) (Fresh.put hHeld (Nat.le_refl _)) hf2 hm2
              simp only [List.length_nil, Nat.zero_add, List.nil_append, hrp] at ho2 hfr2 ⊢
              refine hK.out _ _ hfr2.1 (fun hHeld => ?_)
              clear hK K hf2 hm2 ho0
              try change wpAnyH _ _ _ _ _ _ _ (Act.put _ (some 39) _) _
              try simp only [Act.put, List.setIfInBounds_toArray, List.set_cons_zero, List.set_cons_succ]
              refine wpAnyH_takeD (i := 17) (v := ?_) (some 9) rfl rfl (by kernel_rfl) (by kernel_rfl) (by kernel_rfl) (fun _ _ _ h => h) (Or.inl ⟨by rfl, ?_⟩) (by assumption) ?_
              rotate_left
              · intro w' hSw
                go_simp
                first | done | with_reducible rfl
              try simp only [Act.put, List.setIfInBounds_toArray, List.set_cons_zero, List.set_cons_succ]
              refine wpAnyH_done (by kernel_rfl) ?_ _
              have hr2 := hr1.quiet hfr2.1
              have d1 : w2.cell? ⟨g, 1, none⟩ = some (.int .i64 J) := hr2.bk.cell 1
              have f1 : w2.frozen? ⟨g, 1, none⟩ = false := hr2.bk.frozen 1
              have hne : ∀ k, (Value.slice A2 L c2').ownBlock = some k → k ≠ g := fun k hk e => by
                have := hfr2.2 k hk
                have := hr1.bk.lt
                omega
              have HE := Lib.hid (And.intro hf1 (And.intro hr2 (And.intro ho2 (And.intro hfr2 hne))))
              clear hf1 hr2 ho2 hfr2 hne hr1
              go_wp2
              go_ret
              obtain ⟨hf1, hr2, ho2, hfr2, hne⟩ := HE.out
              exact ⟨_, rfl, ⟨A2, c2', by rw [hrp]; rfl, by rw [hrp]; exact ho2.fr (fr_set (g := g) (i := 1)) (fun k hk e => hne k hk e), fun k hk => Nat.le_trans hf1.size (hfr2.2 k hk)⟩, ⟨by omega, _, _, by rw [Int.natCast_add]; exact hr2.set _⟩, hf1.trans ((hfr2.1.mono (fun _ _ h => h.elim)).trans fr_set (fun _ _ h => h)) (fun _ _ h => h)⟩

            · have i3 : (J : Int) < c := by omega
              rcases Nat.eq_zero_or_pos n with hn0 | hn0
              · have HX0 := Lib.hid (show (xs.drop J).take L = [] from List.eq_nil_of_length_eq_zero (by omega))
                rcases A with _ | ⟨b, o, _ | sp⟩
                · skip
                  have HC0 := Lib.hid (fun w' (hf : Fr (fun _ => False) w1 w') => show w'.cell? ⟨g, 0, none⟩ = some (.slice none n c) from (hr1.quiet hf).bk.cell 0)
                  have HC1 := Lib.hid (fun w' (hf : Fr (fun _ => False) w1 w') => show w'.cell? ⟨g, 1, none⟩ = some (.int .i64 J) from (hr1.quiet hf).bk.cell 1)
                  refine wp_region_held_drew (S := fun w' => Fr (fun _ => False) w1 w') (by kernel_rfl) (((Fr.refl _ _).drewN nq).drew) (fun hHeld => ?_)
                  refine wpAnyH_takeD (i := 1) (v := ?_) (some 24) rfl rfl (by kernel_rfl) (by kernel_rfl) (by kernel_rfl) (fun _ _ _ h => h) (Or.inl ⟨by rfl, ?_⟩) (by assumption) ?_
                  rotate_left
                  · intro w' hSw
                    go_simp
                    first | done | with_reducible rfl
                  try simp only [Act.put, List.setIfInBounds_toArray, List.set_cons_zero, List.set_cons_succ]
                  refine wpAnyH_takeD (i := 2) (v := ?_) (some 25) rfl rfl (by kernel_rfl) (by kernel_rfl) (by kernel_rfl) (fun _ _ _ h => h) (Or.inl ⟨by rfl, ?_⟩) (by assumption) ?_
                  rotate_left
                  · intro w' hSw
                    go_simp
                    first | done | with_reducible rfl
                  try simp only [Act.put, List.setIfInBounds_toArray, List.set_cons_zero, List.set_cons_succ]
                  refine wpAnyH_takeD (i := 3) (v := ?_) (some 26) rfl rfl (by kernel_rfl) (by kernel_rfl) (by kernel_rfl) (fun _ _ _ h => h) (Or.inl ⟨by rfl, ?_⟩) (by assumption) ?_
                  rotate_left
                  · intro w' hSw
                    go_simp
                    first | done | with_reducible rfl
                  try simp only [Act.put, List.setIfInBounds_toArray, List.set_cons_zero, List.set_cons_succ]
                  refine wpAnyH_takeD (i := 4) (v := ?_) (some 27) rfl rfl (by kernel_rfl) (by kernel_rfl) (by kernel_rfl) (fun _ _ _ h => h) (Or.inl ⟨by rfl, ?_⟩) (by assumption) ?_
                  rotate_left
                  · intro w' hSw
                    have q0 := HC0.out w' hSw
                    go_simp
                    first | done | with_reducible rfl
                  try simp only [Act.put, List.setIfInBounds_toArray, List.set_cons_zero, List.set_cons_succ]
                  refine wpAnyH_takeD (i := 5) (v := ?_) (some 28) rfl rfl (by kernel_rfl) (by kernel_rfl) (by kernel_rfl) (fun _ _ _ h => h) (Or.inl ⟨by rfl, ?_⟩) (by assumption) ?_
                  rotate_left
                  · intro w' hSw
                    go_simp
                    first | done | with_reducible rfl
                  try simp only [Act.put, List.setIfInBounds_toArray, List.set_cons_zero, List.set_cons_succ]
                  refine wpAnyH_takeD (i := 6) (v := ?_) (some 29) rfl rfl (by kernel_rfl) (by kernel_rfl) (by kernel_rfl) (fun _ _ _ h => h) (Or.inl ⟨by rfl, ?_⟩) (by assumption) ?_
                  rotate_left
                  · intro w' hSw
                    go_simp
                    first | done | with_reducible rfl
                  try simp only [Act.put, List.setIfInBounds_toArray, List.set_cons_zero, List.set_cons_succ]
                  refine wpAnyH_takeD (i := 7) (v := ?_) (some 30) rfl rfl (by kernel_rfl) (by kernel_rfl) (by kernel_rfl) (fun _ _ _ h => h) (Or.inl ⟨by rfl, ?_⟩) (by assumption) ?_
                  rotate_left
                  · intro w' hSw
                    go_simp
                    first | done | with_reducible rfl
                  try simp only [Act.put, List.setIfInBounds_toArray, List.set_cons_zero, List.set_cons_succ]
                  refine wpAnyH_takeD (i := 8) (v := ?_) (some 31) rfl rfl (by kernel_rfl) (by kernel_rfl) (by kernel_rfl) (fun _ _ _ h => h) (Or.inl ⟨by rfl, ?_⟩) (by assumption) ?_
                  rotate_left
                  · intro w' hSw
                    have q1 := HC1.out w' hSw
                    go_simp
                    first | done | with_reducible rfl
                  try simp only [Act.put, List.setIfInBounds_toArray, List.set_cons_zero, List.set_cons_succ]
                  refine wpAnyH_takeD (i := 9) (v := ?_) (some 32) rfl rfl (by kernel_rfl) (by kernel_rfl) (by kernel_rfl) (fun _ _ _ h => h) (Or.inl ⟨by rfl, ?_⟩) (by assumption) ?_
                  rotate_left
                  · intro w' hSw
                    go_simp
                    first | done | with_reducible rfl
                  try simp only [Act.put, List.setIfInBounds_toArray, List.set_cons_zero, List.set_cons_succ]
                  refine wpAnyH_takeD (i := 10) (v := ?_) (some 33) rfl rfl (by kernel_rfl) (by kernel_rfl) (by kernel_rfl) (fun _ _ _ h => h) (Or.inl ⟨by rfl, ?_⟩) (by assumption) ?_
                  rotate_left
                  · intro w' hSw
                    go_simp
                    first | done | with_reducible rfl
                  try simp only [Act.put, List.setIfInBounds_toArray, List.set_cons_zero, List.set_cons_succ]
                  refine wpAnyH_takeD (i := 11) (v := ?_) (some 34) rfl rfl (by kernel_rfl) (by kernel_rfl) (by kernel_rfl) (fun _ _ _ h => h) (Or.inl ⟨by rfl, ?_⟩) (by assumption) ?_
                  rotate_left
                  · intro w' hSw
                    go_simp
                    first | done | with_reducible rfl
                  try simp only [Act.put, List.setIfInBounds_toArray, List.set_cons_zero, List.set_cons_succ]
                  refine wpAnyH_takeD (i := 12) (v := ?_) (some 35) rfl rfl (by kernel_rfl) (by kernel_rfl) (by kernel_rfl) (fun _ _ _ h => h) (Or.inl ⟨by rfl, ?_⟩) (by assumption) ?_
                  rotate_left
                  · intro w' hSw
                    have q1 := HC1.out w' hSw
                    go_simp
                    first | done | with_reducible rfl
                  try simp only [Act.put, List.setIfInBounds_toArray, List.set_cons_zero, List.set_cons_succ]
                  refine wpAnyH_takeD (i := 13) (v := ?_) (some 36) rfl rfl (by kernel_rfl) (by kernel_rfl) (by kernel_rfl) (fun _ _ _ h => h) (Or.inl ⟨by rfl, ?_⟩) (by assumption) ?_
                  rotate_left
                  · intro w' hSw
                    go_simp
                    first | done | with_reducible rfl
                  try simp only [Act.put, List.setIfInBounds_toArray, List.set_cons_zero, List.set_cons_succ]
                  refine wpAnyH_takeD (i := 14) (v := ?_) (some 37) rfl rfl (by kernel_rfl) (by kernel_rfl) (by kernel_rfl) (fun _ _ _ h => h) (Or.inl ⟨by rfl, ?_⟩) (by assumption) ?_
                  rotate_left
                  · intro w' hSw
                    go_simp
                    first | done | with_reducible rfl
                  try simp only [Act.put, List.setIfInBounds_toArray, List.set_cons_zero, List.set_cons_succ]
                  refine wpAnyH_takeD (i := 15) (v := ?_) (some 38) rfl rfl (by kernel_rfl) (by kernel_rfl) (by kernel_rfl) (fun _ _ _ h => h) (Or.inl ⟨by rfl, ?_⟩) (by assumption) ?_
                  rotate_left
                  · intro w' hSw
                    go_simp
                    first | done | with_reducible rfl
                  try simp only [Act.put, List.setIfInBounds_toArray, List.set_cons_zero, List.set_cons_succ]
                  refine wpAnyH_ready (rs := [0]) (by kernel_rfl) (by simp) ?_
                  refine AllReadyH.cons rfl (fun K hK => ?_) AllReadyH.nil
                  go_simp
                  refine hK.out _ _ (Fr.alloc hHeld _) (fun hHeld => ?_)
                  clear hK K
                  try change wpAnyH _ _ _ _ _ _ _ (Act.put _ (some 23) _) _
                  try simp only [Act.put, List.setIfInBounds_toArray, List.set_cons_zero, List.set_cons_succ]
                  have ho0 : Own8 ((w1.drewN (nq + 1)).alloc (.cells #[] 5)) 5 (.slice (some ⟨(w1.drewN (nq + 1)).heap.size, 0, none⟩) 0 0) [] := Own8.fresh _ _ #[] 0 rfl (by unfold maxLen; omega)
                  refine wpAnyH_ready (rs := [16]) (by kernel_rfl) (by simp) ?_
                  refine AllReadyH.cons rfl (fun K hK => ?_) AllReadyH.nil
                  refine stepOf_append8s rfl (.tmp 23) (.tmp 38) Tryd.t8 rfl (.slice (some ⟨w1.heap.size, 0, none⟩) 0 0) [] rfl ho0 _ _ _ ((xs.drop J).take L) rfl (by first | exact hrp' | (rw [hrp]; omega)) (by rw [HX0.out]; exact Rd8.nil _ _) (by simp; omega) ?_
                  intro A2 c2' w2 ho2 hf2 hm2
                  have hfr2 : Fresh w1 w2 (.slice A2 (0 + ((xs.drop J).take L).length) c2') := Fresh.step (v1 := .slice (some ⟨w1.heap.size, 0, none⟩) 0 0) (Fresh.put hHeld (Nat.le_refl _)) hf2 hm2
                  simp only [List.length_nil, Nat.zero_add, List.nil_append, hrp] at ho2 hfr2 ⊢
                  refine hK.out _ _ hfr2.1 (fun hHeld => ?_)
                  clear hK K hf2 hm2 ho0
                  try change wpAnyH _ _ _ _ _ _ _ (Act.put _ (some 39) _) _
                  try simp only [Act.put, List.setIfInBounds_toArray, List.set_cons_zero, List.set_cons_succ]
                  refine wpAnyH_takeD (i := 17) (v := ?_) (some 9) rfl rfl (by kernel_rfl) (by kernel_rfl) (by kernel_rfl) (fun _ _ _ h => h) (Or.inl ⟨by rfl, ?_⟩) (by assumption) ?_
                  rotate_left
                  · intro w' hSw
                    go_simp
                    first | done | with_reducible rfl
                  try simp only [Act.put, List.setIfInBounds_toArray, List.set_cons_zero, List.set_cons_succ]
                  refine wpAnyH_done (by kernel_rfl) ?_ _
                  have hr2 := hr1.quiet hfr2.1
                  have d1 : w2.cell? ⟨g, 1, none⟩ = some (.int .i64 J) := hr2.bk.cell 1
                  have f1 : w2.frozen? ⟨g, 1, none⟩ = false := hr2.bk.frozen 1
                  have hne : ∀ k, (Value.slice A2 L c2').ownBlock = some k → k ≠ g := fun k hk e => by
                    have := hfr2.2 k hk
                    have := hr1.bk.lt
                    omega
                  have HE := Lib.hid (And.intro hf1 (And.intro hr2 (And.intro ho2 (And.intro hfr2 hne))))
                  clear hf1 hr2 ho2 hfr2 hne hr1
                  go_wp2
                  go_ret
                  obtain ⟨hf1, hr2, ho2, hfr2, hne⟩ := HE.out
                  exact ⟨_, rfl, ⟨A2, c2', by rw [hrp]; rfl, by rw [hrp]; exact ho2.fr (fr_set (g := g) (i := 1)) (fun k hk e => hne k hk e), fun k hk => Nat.le_trans hf1.size (hfr2.2 k hk)⟩, ⟨by omega, _, _, by rw [Int.natCast_add]; exact hr2.set _⟩, hf1.trans ((hfr2.1.mono (fun _ _ h => h.elim)).trans fr_set (fun _ _ h => h)) (fun _ _ h => h)⟩

                · skip
                  have HC0 := Lib.hid (fun w' (hf : Fr (fun _ => False) w1 w') => show w'.cell? ⟨g, 0, none⟩ = some (.slice (some ⟨b, o, none⟩) n c) from (hr1.quiet hf).bk.cell 0)
                  have HC1 := Lib.hid (fun w' (hf : Fr (fun _ => False) w1 w') => show w'.cell? ⟨g, 1, none⟩ = some (.int .i64 J) from (hr1.quiet hf).bk.cell 1)
                  refine wp_region_held_drew (S := fun w' => Fr (fun _ => False) w1 w') (by kernel_rfl) (((Fr.refl _ _).drewN nq).drew) (fun hHeld => ?_)
                  refine wpAnyH_takeD (i := 1) (v := ?_) (some 24) rfl rfl (by kernel_rfl) (by kernel_rfl) (by kernel_rfl) (fun _ _ _ h => h) (Or.inl ⟨by rfl, ?_⟩) (by assumption) ?_
                  rotate_left
                  · intro w' hSw
                    go_simp
                    first | done | with_reducible rfl
                  try simp only [Act.put, List.setIfInBounds_toArray, List.set_cons_zero, List.set_cons_succ]
                  refine wpAnyH_takeD (i := 2) (v := ?_) (some 25) rfl rfl (by kernel_rfl) (by kernel_rfl) (by kernel_rfl) (fun _ _ _ h => h) (Or.inl ⟨by rfl, ?_⟩) (by assumption) ?_
                  rotate_left
                  · intro w' hSw
                    go_simp
                    first | done | with_reducible rfl
                  try simp only [Act.put, List.setIfInBounds_toArray, List.set_cons_zero, List.set_cons_succ]
                  refine wpAnyH_takeD (i := 3) (v := ?_) (some 26) rfl rfl (by kernel_rfl) (by kernel_rfl) (by kernel_rfl) (fun _ _ _ h => h) (Or.inl ⟨by rfl, ?_⟩) (by assumption) ?_
                  rotate_left
                  · intro w' hSw
                    go_simp
                    first | done | with_reducible rfl
                  try simp only [Act.put, List.setIfInBounds_toArray, List.set_cons_zero, List.set_cons_succ]
                  refine wpAnyH_takeD (i := 4) (v := ?_) (some 27) rfl rfl (by kernel_rfl) (by kernel_rfl) (by kernel_rfl) (fun _ _ _ h => h) (Or.inl ⟨by rfl, ?_⟩) (by assumption) ?_
                  rotate_left
                  · intro w' hSw
                    have q0 := HC0.out w' hSw
                    go_simp
                    first | done | with_reducible rfl
                  try simp only [Act.put, List.setIfInBounds_toArray, List.set_cons_zero, List.set_cons_succ]
                  refine wpAnyH_takeD (i := 5) (v := ?_) (some 28) rfl rfl (by kernel_rfl) (by kernel_rfl) (by kernel_rfl) (fun _ _ _ h => h) (Or.inl ⟨by rfl, ?_⟩) (by assumption) ?_
                  rotate_left
                  · intro w' hSw
                    go_simp
                    first | done | with_reducible rfl
                  try simp only [Act.put, List.setIfInBounds_toArray, List.set_cons_zero, List.set_cons_succ]
                  refine wpAnyH_takeD (i := 6) (v := ?_) (some 29) rfl rfl (by kernel_rfl) (by kernel_rfl) (by kernel_rfl) (fun _ _ _ h => h) (Or.inl ⟨by rfl, ?_⟩) (by assumption) ?_
                  rotate_left
                  · intro w' hSw
                    go_simp
                    first | done | with_reducible rfl
                  try simp only [Act.put, List.setIfInBounds_toArray, List.set_cons_zero, List.set_cons_succ]
                  refine wpAnyH_takeD (i := 7) (v := ?_) (some 30) rfl rfl (by kernel_rfl) (by kernel_rfl) (by kernel_rfl) (fun _ _ _ h => h) (Or.inl ⟨by rfl, ?_⟩) (by assumption) ?_
                  rotate_left
                  · intro w' hSw
                    go_simp
                    first | done | with_reducible rfl
                  try simp only [Act.put, List.setIfInBounds_toArray, List.set_cons_zero, List.set_cons_succ]
                  refine wpAnyH_takeD (i := 8) (v := ?_) (some 31) rfl rfl (by kernel_rfl) (by kernel_rfl) (by kernel_rfl) (fun _ _ _ h => h) (Or.inl ⟨by rfl, ?_⟩) (by assumption) ?_
                  rotate_left
                  · intro w' hSw
                    have q1 := HC1.out w' hSw
                    go_simp
                    first | done | with_reducible rfl
                  try simp only [Act.put, List.setIfInBounds_toArray, List.set_cons_zero, List.set_cons_succ]
                  refine wpAnyH_takeD (i := 9) (v := ?_) (some 32) rfl rfl (by kernel_rfl) (by kernel_rfl) (by kernel_rfl) (fun _ _ _ h => h) (Or.inl ⟨by rfl, ?_⟩) (by assumption) ?_
                  rotate_left
                  · intro w' hSw
                    go_simp
                    first | done | with_reducible rfl
                  try simp only [Act.put, List.setIfInBounds_toArray, List.set_cons_zero, List.set_cons_succ]
                  refine wpAnyH_takeD (i := 10) (v := ?_) (some 33) rfl rfl (by kernel_rfl) (by kernel_rfl) (by kernel_rfl) (fun _ _ _ h => h) (Or.inl ⟨by rfl, ?_⟩) (by assumption) ?_
                  rotate_left
                  · intro w' hSw
                    go_simp
                    first | done | with_reducible rfl
                  try simp only [Act.put, List.setIfInBounds_toArray, List.set_cons_zero, List.set_cons_succ]
                  refine wpAnyH_takeD (i := 11) (v := ?_) (some 34) rfl rfl (by kernel_rfl) (by kernel_rfl) (by kernel_rfl) (fun _ _ _ h => h) (Or.inl ⟨by rfl, ?_⟩) (by assumption) ?_
                  rotate_left
                  · intro w' hSw
                    go_simp
                    first | done | with_reducible rfl
                  try simp only [Act.put, List.setIfInBounds_toArray, List.set_cons_zero, List.set_cons_succ]
                  refine wpAnyH_takeD (i := 12) (v := ?_) (some 35) rfl rfl (by kernel_rfl) (by kernel_rfl) (by kernel_rfl) (fun _ _ _ h => h) (Or.inl ⟨by rfl, ?_⟩) (by assumption) ?_
                  rotate_left
                  · intro w' hSw
                    have q1 := HC1.out w' hSw
                    go_simp
                    first | done | with_reducible rfl
                  try simp only [Act.put, List.setIfInBounds_toArray, List.set_cons_zero, List.set_cons_succ]
                  refine wpAnyH_takeD (i := 13) (v := ?_) (some 36) rfl rfl (by kernel_rfl) (by kernel_rfl) (by kernel_rfl) (fun _ _ _ h => h) (Or.inl ⟨by rfl, ?_⟩) (by assumption) ?_
                  rotate_left
                  · intro w' hSw
                    go_simp
                    first | done | with_reducible rfl
                  try simp only [Act.put, List.setIfInBounds_toArray, List.set_cons_zero, List.set_cons_succ]
                  refine wpAnyH_takeD (i := 14) (v := ?_) (some 37) rfl rfl (by kernel_rfl) (by kernel_rfl) (by kernel_rfl) (fun _ _ _ h => h) (Or.inl ⟨by rfl, ?_⟩) (by assumption) ?_
                  rotate_left
                  · intro w' hSw
                    go_simp
                    first | done | with_reducible rfl
                  try simp only [Act.put, List.setIfInBounds_toArray, List.set_cons_zero, List.set_cons_succ]
                  refine wpAnyH_takeD (i := 15) (v := ?_) (some 38) rfl rfl (by kernel_rfl) (by kernel_rfl) (by kernel_rfl) (fun _ _ _ h => h) (Or.inl ⟨by rfl, ?_⟩) (by assumption) ?_
                  rotate_left
                  · intro w' hSw
                    go_simp
                    first | done | with_reducible rfl
                  try simp only [Act.put, List.setIfInBounds_toArray, List.set_cons_zero, List.set_cons_succ]
                  refine wpAnyH_ready (rs := [0]) (by kernel_rfl) (by simp) ?_
                  refine AllReadyH.cons rfl (fun K hK => ?_) AllReadyH.nil
                  go_simp
                  refine hK.out _ _ (Fr.alloc hHeld _) (fun hHeld => ?_)
                  clear hK K
                  try change wpAnyH _ _ _ _ _ _ _ (Act.put _ (some 23) _) _
                  try simp only [Act.put, List.setIfInBounds_toArray, List.set_cons_zero, List.set_cons_succ]
                  have ho0 : Own8 ((w1.drewN (nq + 1)).alloc (.cells #[] 5)) 5 (.slice (some ⟨(w1.drewN (nq + 1)).heap.size, 0, none⟩) 0 0) [] := Own8.fresh _ _ #[] 0 rfl (by unfold maxLen; omega)
                  refine wpAnyH_ready (rs := [16]) (by kernel_rfl) (by simp) ?_
                  refine AllReadyH.cons rfl (fun K hK => ?_) AllReadyH.nil
                  refine stepOf_append8s rfl (.tmp 23) (.tmp 38) Tryd.t8 rfl (.slice (some ⟨w1.heap.size, 0, none⟩) 0 0) [] rfl ho0 _ _ _ ((xs.drop J).take L) rfl (by first | exact hrp' | (rw [hrp]; omega)) (by rw [HX0.out]; exact Rd8.nil _ _) (by simp; omega) ?_
                  intro A2 c2' w2 ho2 hf2 hm2
                  have hfr2 : Fresh w1 w2 (.slice A2 (0 + ((xs.drop J).take L).length) c2') := Fresh.step (v1 := .slice (some ⟨w1.heap.size, 0, none⟩) 0 0) (Fresh.put hHeld (Nat.le_refl _)) hf2 hm2
                  simp only [List.length_nil, Nat.zero_add, List.nil_append, hrp] at ho2 hfr2 ⊢
                  refine hK.out _ _ hfr2.1 (fun hHeld => ?_)
                  clear hK K hf2 hm2 ho0
                  try change wpAnyH _ _ _ _ _ _ _ (Act.put _ (some 39) _) _
                  try simp only [Act.put, List.setIfInBounds_toArray, List.set_cons_zero, List.set_cons_succ]
                  refine wpAnyH_takeD (i := 17) (v := ?_) (some 9) rfl rfl (by kernel_rfl) (by kernel_rfl) (by kernel_rfl) (fun _ _ _ h => h) (Or.inl ⟨by rfl, ?_⟩) (by assumption) ?_
                  rotate_left
                  · intro w' hSw
                    go_simp
                    first | done | with_reducible rfl
                  try simp only [Act.put, List.setIfInBounds_toArray, List.set_cons_zero, List.set_cons_succ]
                  refine wpAnyH_done (by kernel_rfl) ?_ _
                  have hr2 := hr1.quiet hfr2.1
                  have d1 : w2.cell? ⟨g, 1, none⟩ = some (.int .i64 J) := hr2.bk.cell 1
                  have f1 : w2.frozen? ⟨g, 1, none⟩ = false := hr2.bk.frozen 1
                  have hne : ∀ k, (Value.slice A2 L c2').ownBlock = some k → k ≠ g := fun k hk e => by
                    have := hfr2.2 k hk
                    have := hr1.bk.lt
                    omega
                  have HE := Lib.hid (And.intro hf1 (And.intro hr2 (And.intro ho2 (And.intro hfr2 hne))))
                  clear hf1 hr2 ho2 hfr2 hne hr1
                  go_wp2
                  go_ret
                  obtain ⟨hf1, hr2, ho2, hfr2, hne⟩ := HE.out
                  exact ⟨_, rfl, ⟨A2, c2', by rw [hrp]; rfl, by rw [hrp]; exact ho2.fr (fr_set (g := g) (i := 1)) (fun k hk e => hne k hk e), fun k hk => Nat.le_trans hf1.size (hfr2.2 k hk)⟩, ⟨by omega, _, _, by rw [Int.natCast_add]; exact hr2.set _⟩, hf1.trans ((hfr2.1.mono (fun _ _ h => h.elim)).trans fr_set (fun _ _ h => h)) (fun _ _ h => h)⟩

                · skip
                  have HC0 := Lib.hid (fun w' (hf : Fr (fun _ => False) w1 w') => show w'.cell? ⟨g, 0, none⟩ = some (.slice (some ⟨b, o, some sp⟩) n c) from (hr1.quiet hf).bk.cell 0)
                  have HC1 := Lib.hid (fun w' (hf : Fr (fun _ => False) w1 w') => show w'.cell? ⟨g, 1, none⟩ = some (.int .i64 J) from (hr1.quiet hf).bk.cell 1)
                  refine wp_region_held_drew (S := fun w' => Fr (fun _ => False) w1 w') (by kernel_rfl) (((Fr.refl _ _).drewN nq).drew) (fun hHeld => ?_)
                  refine wpAnyH_takeD (i := 1) (v := ?_) (some 24) rfl rfl (by kernel_rfl) (by kernel_rfl) (by kernel_rfl) (fun _ _ _ h => h) (Or.inl ⟨by rfl, ?_⟩) (by assumption) ?_
                  rotate_left
                  · intro w' hSw
                    go_simp
                    first | done | with_reducible rfl
                  try simp only [Act.put, List.setIfInBounds_toArray, List.set_cons_zero, List.set_cons_succ]
                  refine wpAnyH_takeD (i := 2) (v := ?_) (some 25) rfl rfl (by kernel_rfl) (by kernel_rfl) (by kernel_rfl) (fun _ _ _ h => h) (Or.inl ⟨by rfl, ?_⟩) (by assumption) ?_
                  rotate_left
                  · intro w' hSw
                    go_simp
                    first | done | with_reducible rfl
                  try simp only [Act.put, List.setIfInBounds_toArray, List.set_cons_zero, List.set_cons_succ]
                  refine wpAnyH_takeD (i := 3) (v := ?_) (some 26) rfl rfl (by kernel_rfl) (by kernel_rfl) (by kernel_rfl) (fun _ _ _ h => h) (Or.inl ⟨by rfl, ?_⟩) (by assumption) ?_
                  rotate_left
                  · intro w' hSw
                    go_simp
                    first | done | with_reducible rfl
                  try simp only [Act.put, List.setIfInBounds_toArray, List.set_cons_zero, List.set_cons_succ]
                  refine wpAnyH_takeD (i := 4) (v := ?_) (some 27) rfl rfl (by kernel_rfl) (by kernel_rfl) (by kernel_rfl) (fun _ _ _ h => h) (Or.inl ⟨by rfl, ?_⟩) (by assumption) ?_
                  rotate_left
                  · intro w' hSw
                    have q0 := HC0.out w' hSw
                    go_simp
                    first | done | with_reducible rfl
                  try simp only [Act.put, List.setIfInBounds_toArray, List.set_cons_zero, List.set_cons_succ]
                  refine wpAnyH_takeD (i := 5) (v := ?_) (some 28) rfl rfl (by kernel_rfl) (by kernel_rfl) (by kernel_rfl) (fun _ _ _ h => h) (Or.inl ⟨by rfl, ?_⟩) (by assumption) ?_
                  rotate_left
                  · intro w' hSw
                    go_simp
                    first | done | with_reducible rfl
                  try simp only [Act.put, List.setIfInBounds_toArray, List.set_cons_zero, List.set_cons_succ]
                  refine wpAnyH_takeD (i := 6) (v := ?_) (some 29) rfl rfl (by kernel_rfl) (by kernel_rfl) (by kernel_rfl) (fun _ _ _ h => h) (Or.inl ⟨by rfl, ?_⟩) (by assumption) ?_
                  rotate_left
                  · intro w' hSw
                    go_simp
                    first | done | with_reducible rfl
                  try simp only [Act.put, List.setIfInBounds_toArray, List.set_cons_zero, List.set_cons_succ]
                  refine wpAnyH_takeD (i := 7) (v := ?_) (some 30) rfl rfl (by kernel_rfl) (by kernel_rfl) (by kernel_rfl) (fun _ _ _ h => h) (Or.inl ⟨by rfl, ?_⟩) (by assumption) ?_
                  rotate_left
                  · intro w' hSw
                    go_simp
                    first | done | with_reducible rfl
                  try simp only [Act.put, List.setIfInBounds_toArray, List.set_cons_zero, List.set_cons_succ]
                  refine wpAnyH_takeD (i := 8) (v := ?_) (some 31) rfl rfl (by kernel_rfl) (by kernel_rfl) (by kernel_rfl) (fun _ _ _ h => h) (Or.inl ⟨by rfl, ?_⟩) (by assumption) ?_
                  rotate_left
                  · intro w' hSw
                    have q1 := HC1.out w' hSw
                    go_simp
                    first | done | with_reducible rfl
                  try simp only [Act.put, List.setIfInBounds_toArray, List.set_cons_zero, List.set_cons_succ]
                  refine wpAnyH_takeD (i := 9) (v := ?_) (some 32) rfl rfl (by kernel_rfl) (by kernel_rfl) (by kernel_rfl) (fun _ _ _ h => h) (Or.inl ⟨by rfl, ?_⟩) (by assumption) ?_
                  rotate_left
                  · intro w' hSw
                    go_simp
                    first | done | with_reducible rfl
                  try simp only [Act.put, List.setIfInBounds_toArray, List.set_cons_zero, List.set_cons_succ]
                  refine wpAnyH_takeD (i := 10) (v := ?_) (some 33) rfl rfl (by kernel_rfl) (by kernel_rfl) (by kernel_rfl) (fun _ _ _ h => h) (Or.inl ⟨by rfl, ?_⟩) (by assumption) ?_
                  rotate_left
                  · intro w' hSw
                    go_simp
                    first | done | with_reducible rfl
                  try simp only [Act.put, List.setIfInBounds_toArray, List.set_cons_zero, List.set_cons_succ]
                  refine wpAnyH_takeD (i := 11) (v := ?_) (some 34) rfl rfl (by kernel_rfl) (by kernel_rfl) (by kernel_rfl) (fun _ _ _ h => h) (Or.inl ⟨by rfl, ?_⟩) (by assumption) ?_
                  rotate_left
                  · intro w' hSw
                    go_simp
                    first | done | with_reducible rfl
                  try simp only [Act.put, List.setIfInBounds_toArray, List.set_cons_zero, List.set_cons_succ]
                  refine wpAnyH_takeD (i := 12) (v := ?_) (some 35) rfl rfl (by kernel_rfl) (by kernel_rfl) (by kernel_rfl) (fun _ _ _ h => h) (Or.inl ⟨by rfl, ?_⟩) (by assumption) ?_
                  rotate_left
                  · intro w' hSw
                    have q1 := HC1.out w' hSw
                    go_simp
                    first | done | with_reducible rfl
                  try simp only [Act.put, List.setIfInBounds_toArray, List.set_cons_zero, List.set_cons_succ]
                  refine wpAnyH_takeD (i := 13) (v := ?_) (some 36) rfl rfl (by kernel_rfl) (by kernel_rfl) (by kernel_rfl) (fun _ _ _ h => h) (Or.inl ⟨by rfl, ?_⟩) (by assumption) ?_
                  rotate_left
                  · intro w' hSw
                    go_simp
                    first | done | with_reducible rfl
                  try simp only [Act.put, List.setIfInBounds_toArray, List.set_cons_zero, List.set_cons_succ]
                  refine wpAnyH_takeD (i := 14) (v := ?_) (some 37) rfl rfl (by kernel_rfl) (by kernel_rfl) (by kernel_rfl) (fun _ _ _ h => h) (Or.inl ⟨by rfl, ?_⟩) (by assumption) ?_
                  rotate_left
                  · intro w' hSw
                    go_simp
                    first | done | with_reducible rfl
                  try simp only [Act.put, List.setIfInBounds_toArray, List.set_cons_zero, List.set_cons_succ]
                  refine wpAnyH_takeD (i := 15) (v := ?_) (some 38) rfl rfl (by kernel_rfl) (by kernel_rfl) (by kernel_rfl) (fun _ _ _ h => h) (Or.inl ⟨by rfl, ?_⟩) (by assumption) ?_
                  rotate_left
                  · intro w' hSw
                    go_simp
                    first | done | with_reducible rfl
                  try simp only [Act.put, List.setIfInBounds_toArray, List.set_cons_zero, List.set_cons_succ]
                  refine wpAnyH_ready (rs := [0]) (by kernel_rfl) (by simp) ?_
                  refine AllReadyH.cons rfl (fun K hK => ?_) AllReadyH.nil
                  go_simp
                  refine hK.out _ _ (Fr.alloc hHeld _) (fun hHeld => ?_)
                  clear hK K
                  try change wpAnyH _ _ _ _ _ _ _ (Act.put _ (some 23) _) _
                  try simp only [Act.put, List.setIfInBounds_toArray, List.set_cons_zero, List.set_cons_succ]
                  have ho0 : Own8 ((w1.drewN (nq + 1)).alloc (.cells #[] 5)) 5 (.slice (some ⟨(w1.drewN (nq + 1)).heap.size, 0, none⟩) 0 0) [] := Own8.fresh _ _ #[] 0 rfl (by unfold maxLen; omega)
                  refine wpAnyH_ready (rs := [16]) (by kernel_rfl) (by simp) ?_
                  refine AllReadyH.cons rfl (fun K hK => ?_) AllReadyH.nil
                  refine stepOf_append8s rfl (.tmp 23) (.tmp 38) Tryd.t8 rfl (.slice (some ⟨w1.heap.size, 0, none⟩) 0 0) [] rfl ho0 _ _ _ ((xs.drop J).take L) rfl (by first | exact hrp' | (rw [hrp]; omega)) (by rw [HX0.out]; exact Rd8.nil _ _) (by simp; omega) ?_
                  intro A2 c2' w2 ho2 hf2 hm2
                  have hfr2 : Fresh w1 w2 (.slice A2 (0 + ((xs.drop J).take L).length) c2') := Fresh.step (v1 := .slice (some ⟨w1.heap.size, 0, none⟩) 0 0) (Fresh.put hHeld (Nat.le_refl _)) hf2 hm2
                  simp only [List.length_nil, Nat.zero_add, List.nil_append, hrp] at ho2 hfr2 ⊢
                  refine hK.out _ _ hfr2.1 (fun hHeld => ?_)
                  clear hK K hf2 hm2 ho0
                  try change wpAnyH _ _ _ _ _ _ _ (Act.put _ (some 39) _) _
                  try simp only [Act.put, List.setIfInBounds_toArray, List.set_cons_zero, List.set_cons_succ]
                  refine wpAnyH_takeD (i := 17) (v := ?_) (some 9) rfl rfl (by kernel_rfl) (by kernel_rfl) (by kernel_rfl) (fun _ _ _ h => h) (Or.inl ⟨by rfl, ?_⟩) (by assumption) ?_
                  rotate_left
                  · intro w' hSw
                    go_simp
                    first | done | with_reducible rfl
                  try simp only [Act.put, List.setIfInBounds_toArray, List.set_cons_zero, List.set_cons_succ]
                  refine wpAnyH_done (by kernel_rfl) ?_ _
                  have hr2 := hr1.quiet hfr2.1
                  have d1 : w2.cell? ⟨g, 1, none⟩ = some (.int .i64 J) := hr2.bk.cell 1
                  have f1 : w2.frozen? ⟨g, 1, none⟩ = false := hr2.bk.frozen 1
                  have hne : ∀ k, (Value.slice A2 L c2').ownBlock = some k → k ≠ g := fun k hk e => by
                    have := hfr2.2 k hk
                    have := hr1.bk.lt
                    omega
                  have HE := Lib.hid (And.intro hf1 (And.intro hr2 (And.intro ho2 (And.intro hfr2 hne))))
                  clear hf1 hr2 ho2 hfr2 hne hr1
                  go_wp2
                  go_ret
                  obtain ⟨hf1, hr2, ho2, hfr2, hne⟩ := HE.out
                  exact ⟨_, rfl, ⟨A2, c2', by rw [hrp]; rfl, by rw [hrp]; exact ho2.fr (fr_set (g := g) (i := 1)) (fun k hk e => hne k hk e), fun k hk => Nat.le_trans hf1.size (hfr2.2 k hk)⟩, ⟨by omega, _, _, by rw [Int.natCast_add]; exact hr2.set _⟩, hf1.trans ((hfr2.1.mono (fun _ _ h => h.elim)).trans fr_set (fun _ _ h => h)) (fun _ _ h => h)⟩

              · obtain ⟨ad, hA, hsp, -⟩ := hr1.rd (by omega)
                obtain ⟨b, o, sp⟩ := ad
                cases hsp
                subst hA
                have HC0 := Lib.hid (fun w' (hf : Fr (fun _ => False) w1 w') => show w'.cell? ⟨g, 0, none⟩ = some (.slice (some ⟨b, o, none⟩) n c) from (hr1.quiet hf).bk.cell 0)
                have HC1 := Lib.hid (fun w' (hf : Fr (fun _ => False) w1 w') => show w'.cell? ⟨g, 1, none⟩ = some (.int .i64 J) from (hr1.quiet hf).bk.cell 1)
                refine wp_region_held_drew (S := fun w' => Fr (fun _ => False) w1 w') (by kernel_rfl) (((Fr.refl _ _).drewN nq).drew) (fun hHeld => ?_)
                refine wpAnyH_takeD (i := 1) (v := ?_) (some 24) rfl rfl (by kernel_rfl) (by kernel_rfl) (by kernel_rfl) (fun _ _ _ h => h) (Or.inl ⟨by rfl, ?_⟩) (by assumption) ?_
                rotate_left
                · intro w' hSw
                  go_simp
                  first | done | with_reducible rfl
                try simp only [Act.put, List.setIfInBounds_toArray, List.set_cons_zero, List.set_cons_succ]
                refine wpAnyH_takeD (i := 2) (v := ?_) (some 25) rfl rfl (by kernel_rfl) (by kernel_rfl) (by kernel_rfl) (fun _ _ _ h => h) (Or.inl ⟨by rfl, ?_⟩) (by assumption) ?_
                rotate_left
                · intro w' hSw
                  go_simp
                  first | done | with_reducible rfl
                try simp only [Act.put, List.setIfInBounds_toArray, List.set_cons_zero, List.set_cons_succ]
                refine wpAnyH_takeD (i := 3) (v := ?_) (some 26) rfl rfl (by kernel_rfl) (by kernel_rfl) (by kernel_rfl) (fun _ _ _ h => h) (Or.inl ⟨by rfl, ?_⟩) (by assumption) ?_
                rotate_left
                · intro w' hSw
                  go_simp
                  first | done | with_reducible rfl
                try simp only [Act.put, List.setIfInBounds_toArray, List.set_cons_zero, List.set_cons_succ]
                refine wpAnyH_takeD (i := 4) (v := ?_) (some 27) rfl rfl (by kernel_rfl) (by kernel_rfl) (by kernel_rfl) (fun _ _ _ h => h) (Or.inl ⟨by rfl, ?_⟩) (by assumption) ?_
                rotate_left
                · intro w' hSw
                  have q0 := HC0.out w' hSw
                  go_simp
                  first | done | with_reducible rfl
                try simp only [Act.put, List.setIfInBounds_toArray, List.set_cons_zero, List.set_cons_succ]
                refine wpAnyH_takeD (i := 5) (v := ?_) (some 28) rfl rfl (by kernel_rfl) (by kernel_rfl) (by kernel_rfl) (fun _ _ _ h => h) (Or.inl ⟨by rfl, ?_⟩) (by assumption) ?_
                rotate_left
                · intro w' hSw
                  go_simp
                  first | done | with_reducible rfl
                try simp only [Act.put, List.setIfInBounds_toArray, List.set_cons_zero, List.set_cons_succ]
                refine wpAnyH_takeD (i := 6) (v := ?_) (some 29) rfl rfl (by kernel_rfl) (by kernel_rfl) (by kernel_rfl) (fun _ _ _ h => h) (Or.inl ⟨by rfl, ?_⟩) (by assumption) ?_
                rotate_left
                · intro w' hSw
                  go_simp
                  first | done | with_reducible rfl
                try simp only [Act.put, List.setIfInBounds_toArray, List.set_cons_zero, List.set_cons_succ]
                refine wpAnyH_takeD (i := 7) (v := ?_) (some 30) rfl rfl (by kernel_rfl) (by kernel_rfl) (by kernel_rfl) (fun _ _ _ h => h) (Or.inl ⟨by rfl, ?_⟩) (by assumption) ?_
                rotate_left
                · intro w' hSw
                  go_simp
                  first | done | with_reducible rfl
                try simp only [Act.put, List.setIfInBounds_toArray, List.set_cons_zero, List.set_cons_succ]
                refine wpAnyH_takeD (i := 8) (v := ?_) (some 31) rfl rfl (by kernel_rfl) (by kernel_rfl) (by kernel_rfl) (fun _ _ _ h => h) (Or.inl ⟨by rfl, ?_⟩) (by assumption) ?_
                rotate_left
                · intro w' hSw
                  have q1 := HC1.out w' hSw
                  go_simp
                  first | done | with_reducible rfl
                try simp only [Act.put, List.setIfInBounds_toArray, List.set_cons_zero, List.set_cons_succ]
                refine wpAnyH_takeD (i := 9) (v := ?_) (some 32) rfl rfl (by kernel_rfl) (by kernel_rfl) (by kernel_rfl) (fun _ _ _ h => h) (Or.inl ⟨by rfl, ?_⟩) (by assumption) ?_
                rotate_left
                · intro w' hSw
                  go_simp
                  first | done | with_reducible rfl
                try simp only [Act.put, List.setIfInBounds_toArray, List.set_cons_zero, List.set_cons_succ]
                refine wpAnyH_takeD (i := 10) (v := ?_) (some 33) rfl rfl (by kernel_rfl) (by kernel_rfl) (by kernel_rfl) (fun _ _ _ h => h) (Or.inl ⟨by rfl, ?_⟩) (by assumption) ?_
                rotate_left
                · intro w' hSw
                  go_simp
                  first | done | with_reducible rfl
                try simp only [Act.put, List.setIfInBounds_toArray, List.set_cons_zero, List.set_cons_succ]
                refine wpAnyH_takeD (i := 11) (v := ?_) (some 34) rfl rfl (by kernel_rfl) (by kernel_rfl) (by kernel_rfl) (fun _ _ _ h => h) (Or.inl ⟨by rfl, ?_⟩) (by assumption) ?_
                rotate_left
                · intro w' hSw
                  go_simp
                  first | done | with_reducible rfl
                try simp only [Act.put, List.setIfInBounds_toArray, List.set_cons_zero, List.set_cons_succ]
                refine wpAnyH_takeD (i := 12) (v := ?_) (some 35) rfl rfl (by kernel_rfl) (by kernel_rfl) (by kernel_rfl) (fun _ _ _ h => h) (Or.inl ⟨by rfl, ?_⟩) (by assumption) ?_
                rotate_left
                · intro w' hSw
                  have q1 := HC1.out w' hSw
                  go_simp
                  first | done | with_reducible rfl
                try simp only [Act.put, List.setIfInBounds_toArray, List.set_cons_zero, List.set_cons_succ]
                refine wpAnyH_takeD (i := 13) (v := ?_) (some 36) rfl rfl (by kernel_rfl) (by kernel_rfl) (by kernel_rfl) (fun _ _ _ h => h) (Or.inl ⟨by rfl, ?_⟩) (by assumption) ?_
                rotate_left
                · intro w' hSw
                  go_simp
                  first | done | with_reducible rfl
                try simp only [Act.put, List.setIfInBounds_toArray, List.set_cons_zero, List.set_cons_succ]
                refine wpAnyH_takeD (i := 14) (v := ?_) (some 37) rfl rfl (by kernel_rfl) (by kernel_rfl) (by kernel_rfl) (fun _ _ _ h => h) (Or.inl ⟨by rfl, ?_⟩) (by assumption) ?_
                rotate_left
                · intro w' hSw
                  go_simp
                  first | done | with_reducible rfl
                try simp only [Act.put, List.setIfInBounds_toArray, List.set_cons_zero, List.set_cons_succ]
                refine wpAnyH_takeD (i := 15) (v := ?_) (some 38) rfl rfl (by kernel_rfl) (by kernel_rfl) (by kernel_rfl) (fun _ _ _ h => h) (Or.inl ⟨by rfl, ?_⟩) (by assumption) ?_
                rotate_left
                · intro w' hSw
                  go_simp
                  first | done | with_reducible rfl
                try simp only [Act.put, List.setIfInBounds_toArray, List.set_cons_zero, List.set_cons_succ]
                refine wpAnyH_ready (rs := [0]) (by kernel_rfl) (by simp) ?_
                refine AllReadyH.cons rfl (fun K hK => ?_) AllReadyH.nil
                go_simp
                refine hK.out _ _ (Fr.alloc hHeld _) (fun hHeld => ?_)
                clear hK K
                try change wpAnyH _ _ _ _ _ _ _ (Act.put _ (some 23) _) _
                try simp only [Act.put, List.setIfInBounds_toArray, List.set_cons_zero, List.set_cons_succ]
                have ho0 : Own8 ((w1.drewN (nq + 1)).alloc (.cells #[] 5)) 5 (.slice (some ⟨(w1.drewN (nq + 1)).heap.size, 0, none⟩) 0 0) [] := Own8.fresh _ _ #[] 0 rfl (by unfold maxLen; omega)
                refine wpAnyH_ready (rs := [16]) (by kernel_rfl) (by simp) ?_
                refine AllReadyH.cons rfl (fun K hK => ?_) AllReadyH.nil
                refine stepOf_append8s rfl (.tmp 23) (.tmp 38) Tryd.t8 rfl (.slice (some ⟨w1.heap.size, 0, none⟩) 0 0) [] rfl ho0 _ _ _ ((xs.drop J).take L) rfl (by first | exact hrp' | (rw [hrp]; omega)) ((hr1.quiet hHeld).rd.part J L) (by simp; omega) ?_
                intro A2 c2' w2 ho2 hf2 hm2
                have hfr2 : Fresh w1 w2 (.slice A2 (0 + ((xs.drop J).take L).length) c2') := Fresh.step (v1 := .slice (some ⟨w1.heap.size, 0, none⟩) 0 0) (Fresh.put hHeld (Nat.le_refl _)) hf2 hm2
                simp only [List.length_nil, Nat.zero_add, List.nil_append, hrp] at ho2 hfr2 ⊢
                refine hK.out _ _ hfr2.1 (fun hHeld => ?_)
                clear hK K hf2 hm2 ho0
                try change wpAnyH _ _ _ _ _ _ _ (Act.put _ (some 39) _) _
                try simp only [Act.put, List.setIfInBounds_toArray, List.set_cons_zero, List.set_cons_succ]
                refine wpAnyH_takeD (i := 17) (v := ?_) (some 9) rfl rfl (by kernel_rfl) (by kernel_rfl) (by kernel_rfl) (fun _ _ _ h => h) (Or.inl ⟨by rfl, ?_⟩) (by assumption) ?_
                rotate_left
                · intro w' hSw
                  go_simp
                  first | done | with_reducible rfl
                try simp only [Act.put, List.setIfInBounds_toArray, List.set_cons_zero, List.set_cons_succ]
                refine wpAnyH_done (by kernel_rfl) ?_ _
                have hr2 := hr1.quiet hfr2.1
                have d1 : w2.cell? ⟨g, 1, none⟩ = some (.int .i64 J) := hr2.bk.cell 1
                have f1 : w2.frozen? ⟨g, 1, none⟩ = false := hr2.bk.frozen 1
                have hne : ∀ k, (Value.slice A2 L c2').ownBlock = some k → k ≠ g := fun k hk e => by
                  have := hfr2.2 k hk
                  have := hr1.bk.lt
                  omega
                have HE := Lib.hid (And.intro hf1 (And.intro hr2 (And.intro ho2 (And.intro hfr2 hne))))
                clear hf1 hr2 ho2 hfr2 hne hr1
                go_wp2
                go_ret
                obtain ⟨hf1, hr2, ho2, hfr2, hne⟩ := HE.out
                exact ⟨_, rfl, ⟨A2, c2', by rw [hrp]; rfl, by rw [hrp]; exact ho2.fr (fr_set (g := g) (i := 1)) (fun k hk e => hne k hk e), fun k hk => Nat.le_trans hf1.size (hfr2.2 k hk)⟩, ⟨by omega, _, _, by rw [Int.natCast_add]; exact hr2.set _⟩, hf1.trans ((hfr2.1.mono (fun _ _ h => h.elim)).trans fr_set (fun _ _ h => h)) (fun _ _ h => h)⟩

end Go.Proofs.YtblfnbmgijppmaaDoor
