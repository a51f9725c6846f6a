/- The walk of DrawsSource. -/
import Derived.Test.YtlfopangocjpfaaTh
import Derived.Test.YtlfopangocjpfaaGt
import Derived.Deep.QuietTactic
namespace Go.Proofs.Ytlfopangocjpfaa
open Go.RowKit Go.Maps

structure Dr where
  kind : Int
  a : Int
  b : Int
structure DrAt (w : World) (g o : Nat) (x : Dr) : Prop where
  c0 : w.cell? ⟨g, o, none⟩ = some (.int .i64 x.kind)
  c1 : w.cell? ⟨g, o + 1, none⟩ = some (.int .i64 x.a)
  c2 : w.cell? ⟨g, o + 2, none⟩ = some (.int .i64 x.b)
  lo : x.a ≤ 9223372036854775807
theorem DrAt.fr {S : Nat → Prop} {w w' : World} {g o : Nat} {x : Dr} (h : DrAt w g o x) (hf : Fr S w w') (hS : ∀ k, k < w.heap.size → ¬ S k) : DrAt w' g o x :=
  { h with
    c0 := (hf.cell (World.block_lt_of_cell? w _ h.c0) (hS _ (World.block_lt_of_cell? w _ h.c0))).trans h.c0
    c1 := (hf.cell (World.block_lt_of_cell? w _ h.c1) (hS _ (World.block_lt_of_cell? w _ h.c1))).trans h.c1
    c2 := (hf.cell (World.block_lt_of_cell? w _ h.c2) (hS _ (World.block_lt_of_cell? w _ h.c2))).trans h.c2 }
def Drs (w : World) (A : Option Addr) (l : List Dr) : Prop := 0 < l.length → ∃ g o, A = some ⟨g, o, none⟩ ∧ ∀ i (h : i < l.length), DrAt w g (o + i * 3) l[i]

theorem count_still (g s k : Nat) (w : World) (h : Src w g s k) :
    Calls Try.prog 17 #[.pointer (some ⟨g, 0, none⟩)] w fun e w' => e = .returned (.int .i64 (k : Int)) ∧ w' = w := (count_any g s k w h).mono fun _ _ ⟨h, k⟩ => ⟨h, k.symm⟩

set_option maxRecDepth 100000 in
set_option maxHeartbeats 8000000 in
theorem source_any (seed : Nat) (A : Option Addr) (n c : Nat) (l : List Dr) (w : World) (h : Drs w A l) (hn : l.length = n) :
    Calls Try.prog 3 #[.int .u64 seed, .slice A n c] w fun e w' => e = .returned (.bool true) ∧ Fr (fun _ => False) w w' := by
  generalize hB : w.heap.size = B at *
  have HB := Lib.hid hB
  clear hB
  by_cases h4 : (400 : Int) < n
  · go_enter Try.func3, Try.ntmps3
    go_wp2_with fail
    refine (known_any w).mono ?_; rintro e w1 ⟨rfl, hf1⟩
    go_wp2
    go_ret
    exact ⟨rfl, hf1⟩
  · have hn4 : (n : Int) ≤ 400 := by omega
    clear h4
    go_enter Try.func3, Try.ntmps3
    go_wp2_with fail
    refine (known_any w).mono ?_; rintro e w1 ⟨rfl, hf1⟩
    go_wp2_with fail
    refine (new_any seed w1).mono ?_; rintro e w2 ⟨rfl, hw2⟩
    have hs2 : Src w2 w1.heap.size seed 0 := by rw [hw2]; exact src_new w1 seed
    have hf2 : Fr (fun _ => False) w w2 := hf1.trans (by rw [hw2]; exact (Fr.refl _ _).alloc _) (fun _ _ h => h)
    have hgB : B ≤ w1.heap.size := by have := hf1.size; have := HB.out; omega
    have hz2 : w2.heap.size = w1.heap.size + 1 := by rw [hw2]; simp
    clear hw2 hf1
    generalize w1.heap.size = g at *
    have HZ2 := Lib.hid hz2
    have HGB := Lib.hid hgB
    clear hz2 hgB
    go_wp2_with fail
    have hf3 : Fr (fun _ => False) w (w2.alloc (.cells #[.int .u64 seed, .int .i64 0] 29)) := hf2.alloc _
    have hs3 : Src (w2.alloc (.cells #[.int .u64 seed, .int .i64 0] 29)) g seed 0 := hs2.fr ((Fr.refl (fun _ => False) w2).alloc _) (fun h => h)
    have hr3 : RSrc (w2.alloc (.cells #[.int .u64 seed, .int .i64 0] 29)) w2.heap.size seed 0 := Bk.new w2 29 #[.int .u64 seed, .int .i64 0]
    have HGR := Lib.hid (show B ≤ w2.heap.size by have := HGB.out; have := HZ2.out; omega)
    clear hs2 hf2 HZ2
    generalize w2.alloc (.cells #[.int .u64 seed, .int .i64 0] 29) = w3 at *
    generalize w2.heap.size = gr at *
    go_loopw [5, 7] (fun s i wr => ∃ (k gs st c0 : Nat), k ≤ n ∧ i = .int .i64 k ∧ s = .pointer (some ⟨gs, 0, none⟩) ∧ Src wr gs st c0 ∧ RSrc wr gr st c0 ∧ c0 ≤ k ∧ B ≤ gs ∧ Fr (fun _ => False) w wr) (fun _ i _ => n - (intOf i).toNat)
    case atStart => exact ⟨0, g, seed, 0, by omega, rfl, rfl, hs3, hr3, by omega, HGB.out, hf3⟩
    case round =>
      clear hs3 hr3 hf3
      obtain ⟨k, gs, st, c0, hk, rfl, rfl, hs, hr, hc0, hgs, hf⟩ := hrel
      have HS := Lib.hid hs
      have HR := Lib.hid hr
      have HF := Lib.hid hf
      have HGS := Lib.hid hgs
      have HNE := Lib.hid (show gs ≠ gr from Bk.ne hs hr (by decide))
      clear hs hr hf hgs
      by_cases hlt : (k : Int) < n
      · obtain ⟨g2, o2, rfl, hx⟩ := h (by omega)
        have hat := hx k (by omega)
        generalize (l[k]'(by omega)) = d at *
        clear hx
        have hFS : ∀ w', Fr (fun x => x = gs ∨ x = gr) wr w' → Fr (fun _ => False) w w' := fun w' hf => HF.out.trans hf (fun x hx e => by
          have h1 := HB.out
          have h2 := HGS.out
          have h3 := HGR.out
          rcases e with e | e <;> omega)
        have HFS := Lib.hid hFS
        clear hFS
        have CL := Lib.hid (fun w' hf => hat.fr (HFS.out w' hf) (fun _ _ h => h))
        have d0 := (CL.out wr (Fr.refl _ _)).c0
        have hla := hat.lo
        clear hat
        obtain ⟨kd, da, db⟩ := d
        simp only at CL d0 hla
        by_cases h1 : kd = 1
        · subst h1
          have C1 := Lib.hid (fun w' h => next_any gs st c0 w' h (by omega))
          have C2 := Lib.hid (fun w' h => refnext_any gr st c0 w' h (by omega))
          generalize hashN (stepN st) = hv at *
          go_wp2_with fail
          refine (C1.out _ HS.out).mono ?_; rintro e w4 ⟨rfl, hs4, hf4⟩
          have HR4 := Lib.hid (HR.out.fr hf4 (fun e => HNE.out e.symm))
          have HF4 := Lib.hid (HF.out.trans hf4 (fun x hx e => by have h1 := HB.out; have h2 := HGS.out; have h3 := HGR.out; omega))
          have HS4 := Lib.hid hs4
          clear hs4 hf4 d0
          go_wp2_with fail
          refine (C2.out _ HR4.out).mono ?_; rintro e w5 ⟨rfl, hr5, hf5⟩
          have HS5 := Lib.hid (HS4.out.fr hf5 (fun e => HNE.out e))
          have HF5 := Lib.hid (HF4.out.trans hf5 (fun x hx e => by have h1 := HB.out; have h2 := HGS.out; have h3 := HGR.out; omega))
          have HR5 := Lib.hid hr5
          clear hr5 hf5 C1 C2
          have cN : w5.cell? ⟨gr, 1, none⟩ = some (.int .i64 ((c0 + 1) : Nat)) := HR5.out.cell 1
          have CC := Lib.hid (fun m => count_still gs (stepN st) (c0 + 1) (w5.drewN m) HS5.out)
          go_wp2_with fail
          go_quiet (first | (go_at_call 17; exact Calls.quiet_of_same (CC.out _)))
          go_wp2
          go_roundw
          case rel => exact ⟨k + 1, gs, (stepN st), (c0 + 1), by omega, by go_num, rfl, HS5.out, HR5.out, by omega, HGS.out, HF5.out.drewN _⟩
          case measure => simp [intOf]; omega
        · have h1' : (kd == 1) = false := by simpa using h1
          by_cases h2 : kd = 2
          · subst h2
            have CB := Lib.hid (fun w' h => below_any gs st c0 da w' h (by omega) hla)
            have CR := Lib.hid (fun w' h => refbelow_any gr st c0 da w' h (by omega) hla)
            have hle := belowK_le c0 da
            generalize belowV st da = z at *
            generalize belowS st da = s' at *
            generalize belowK c0 da = c' at *
            go_wp2_with fail
            refine wp_region_held_drew (S := fun w' => Fr (fun x => x = gs ∨ x = gr) wr w') (by kernel_rfl) ((Fr.refl _ _).drew) (fun hHeld => ?_)
            refine wpAnyH_takeD (i := 0) (v := ?_) (some 41) rfl rfl (by kernel_rfl) (by kernel_rfl) (by kernel_rfl) (fun _ _ _ h => h) (Or.inl ⟨by rfl, ?_⟩) (by assumption) ?_
            rotate_left
            · intro w' hSw
              go_simp
              first | done | with_reducible rfl
            try simp only [Act.put, List.setIfInBounds_toArray, List.set_cons_zero, List.set_cons_succ]
            refine wpAnyH_takeD (i := 1) (v := ?_) (some 42) rfl rfl (by kernel_rfl) (by kernel_rfl) (by kernel_rfl) (fun _ _ _ h => h) (Or.inl ⟨by rfl, ?_⟩) (by assumption) ?_
            rotate_left
            · intro w' hSw
              go_simp
              first | done | with_reducible rfl
            try simp only [Act.put, List.setIfInBounds_toArray, List.set_cons_zero, List.set_cons_succ]
            refine wpAnyH_takeD (i := 2) (v := ?_) (some 43) rfl rfl (by kernel_rfl) (by kernel_rfl) (by kernel_rfl) (fun _ _ _ h => h) (Or.inl ⟨by rfl, ?_⟩) (by assumption) ?_
            rotate_left
            · intro w' hSw
              go_simp
              first | done | with_reducible rfl
            try simp only [Act.put, List.setIfInBounds_toArray, List.set_cons_zero, List.set_cons_succ]
            refine wpAnyH_takeD (i := 3) (v := ?_) (some 44) rfl rfl (by kernel_rfl) (by kernel_rfl) (by kernel_rfl) (fun _ _ _ h => h) (Or.inl ⟨by rfl, ?_⟩) (by assumption) ?_
            rotate_left
            · intro w' hSw
              go_simp
              first | done | with_reducible rfl
            try simp only [Act.put, List.setIfInBounds_toArray, List.set_cons_zero, List.set_cons_succ]
            refine wpAnyH_takeD (i := 4) (v := ?_) (some 45) rfl rfl (by kernel_rfl) (by kernel_rfl) (by kernel_rfl) (fun _ _ _ h => h) (Or.inl ⟨by rfl, ?_⟩) (by assumption) ?_
            rotate_left
            · intro w' hSw
              go_simp
              first | done | with_reducible rfl
            try simp only [Act.put, List.setIfInBounds_toArray, List.set_cons_zero, List.set_cons_succ]
            refine wpAnyH_takeD (i := 5) (v := ?_) (some 46) rfl rfl (by kernel_rfl) (by kernel_rfl) (by kernel_rfl) (fun _ _ _ h => h) (Or.inl ⟨by rfl, ?_⟩) (by assumption) ?_
            rotate_left
            · intro w' hSw
              have q1 := (CL.out _ hSw).c1
              go_simp
              first | done | with_reducible rfl
            try simp only [Act.put, List.setIfInBounds_toArray, List.set_cons_zero, List.set_cons_succ]
            refine wpAnyH_takeD (i := 7) (v := ?_) (some 48) rfl rfl (by kernel_rfl) (by kernel_rfl) (by kernel_rfl) (fun _ _ _ h => h) (Or.inl ⟨by rfl, ?_⟩) (by assumption) ?_
            rotate_left
            · intro w' hSw
              go_simp
              first | done | with_reducible rfl
            try simp only [Act.put, List.setIfInBounds_toArray, List.set_cons_zero, List.set_cons_succ]
            refine wpAnyH_takeD (i := 8) (v := ?_) (some 49) rfl rfl (by kernel_rfl) (by kernel_rfl) (by kernel_rfl) (fun _ _ _ h => h) (Or.inl ⟨by rfl, ?_⟩) (by assumption) ?_
            rotate_left
            · intro w' hSw
              go_simp
              first | done | with_reducible rfl
            try simp only [Act.put, List.setIfInBounds_toArray, List.set_cons_zero, List.set_cons_succ]
            refine wpAnyH_takeD (i := 9) (v := ?_) (some 50) rfl rfl (by kernel_rfl) (by kernel_rfl) (by kernel_rfl) (fun _ _ _ h => h) (Or.inl ⟨by rfl, ?_⟩) (by assumption) ?_
            rotate_left
            · intro w' hSw
              go_simp
              first | done | with_reducible rfl
            try simp only [Act.put, List.setIfInBounds_toArray, List.set_cons_zero, List.set_cons_succ]
            refine wpAnyH_takeD (i := 10) (v := ?_) (some 51) rfl rfl (by kernel_rfl) (by kernel_rfl) (by kernel_rfl) (fun _ _ _ h => h) (Or.inl ⟨by rfl, ?_⟩) (by assumption) ?_
            rotate_left
            · intro w' hSw
              go_simp
              first | done | with_reducible rfl
            try simp only [Act.put, List.setIfInBounds_toArray, List.set_cons_zero, List.set_cons_succ]
            refine wpAnyH_takeD (i := 11) (v := ?_) (some 52) rfl rfl (by kernel_rfl) (by kernel_rfl) (by kernel_rfl) (fun _ _ _ h => h) (Or.inl ⟨by rfl, ?_⟩) (by assumption) ?_
            rotate_left
            · intro w' hSw
              go_simp
              first | done | with_reducible rfl
            try simp only [Act.put, List.setIfInBounds_toArray, List.set_cons_zero, List.set_cons_succ]
            refine wpAnyH_takeD (i := 12) (v := ?_) (some 53) rfl rfl (by kernel_rfl) (by kernel_rfl) (by kernel_rfl) (fun _ _ _ h => h) (Or.inl ⟨by rfl, ?_⟩) (by assumption) ?_
            rotate_left
            · intro w' hSw
              have q1 := (CL.out _ hSw).c1
              go_simp
              first | done | with_reducible rfl
            try simp only [Act.put, List.setIfInBounds_toArray, List.set_cons_zero, List.set_cons_succ]
            refine wpAnyH_ready (rs := [6]) (by kernel_rfl) (by simp) ?_
            refine AllReadyH.cons rfl (fun K hK => ?_) AllReadyH.nil
            go_simp
            refine (CB.out wr.drew HS.out).mono ?_; rintro e w3 ⟨rfl, hs3, hf3⟩
            try go_simp
            refine hK.out _ _ (hHeld.trans hf3 (fun _ _ e => .inl e)) (fun hHeld => ?_)
            clear hK K
            try change wpAnyH _ _ _ _ _ _ _ (Act.put _ (some 47) _) _
            try simp only [Act.put, List.setIfInBounds_toArray, List.set_cons_zero, List.set_cons_succ]
            refine wpAnyH_ready (rs := [13]) (by kernel_rfl) (by simp) ?_
            refine AllReadyH.cons rfl (fun K hK => ?_) AllReadyH.nil
            go_simp
            refine (CR.out _ (RSrc.fr (show RSrc wr.drew gr st c0 from HR.out) hf3 (fun e => HNE.out e.symm))).mono ?_; rintro e w4 ⟨rfl, hr4, hf4⟩
            try go_simp
            refine hK.out _ _ (hHeld.trans hf4 (fun _ _ e => .inr e)) (fun hHeld => ?_)
            clear hK K
            try change wpAnyH _ _ _ _ _ _ _ (Act.put _ (some 54) _) _
            try simp only [Act.put, List.setIfInBounds_toArray, List.set_cons_zero, List.set_cons_succ]
            refine wpAnyH_takeD (i := 14) (v := ?_) (some 55) rfl rfl (by kernel_rfl) (by kernel_rfl) (by kernel_rfl) (fun _ _ _ h => h) (Or.inl ⟨by rfl, ?_⟩) (by assumption) ?_
            rotate_left
            · intro w' hSw
              go_simp
              first | done | with_reducible rfl
            try simp only [Act.put, List.setIfInBounds_toArray, List.set_cons_zero, List.set_cons_succ]
            refine wpAnyH_done (by kernel_rfl) ?_ _
            have HS5 := Lib.hid (hs3.fr hf4 (fun e => HNE.out e))
            have HF5 := Lib.hid (HFS.out _ hHeld)
            have HR5 := Lib.hid hr4
            clear hr4 hf4 hs3 hf3 hHeld CB CR d0
            have cN : w4.cell? ⟨gr, 1, none⟩ = some (.int .i64 (c' : Nat)) := HR5.out.cell 1
            have CC := Lib.hid (fun m => count_still gs s' c' (w4.drewN m) HS5.out)
            go_wp2_with fail
            go_quiet (first | (go_at_call 17; exact Calls.quiet_of_same (CC.out _)))
            go_wp2
            go_roundw
            case rel => exact ⟨k + 1, gs, s', c', by omega, by go_num, rfl, HS5.out, HR5.out, by omega, HGS.out, HF5.out.drewN _⟩
            case measure => simp [intOf]; omega
          · have h2' : (kd == 2) = false := by simpa using h2
            by_cases h3 : kd = 3
            · subst h3
              have CB := Lib.hid (fun w' h => between_any gs st c0 da db w' h (by omega))
              have CR := Lib.hid (fun w' h => refbetween_any gr st c0 da db w' h (by omega))
              have hle := betK_le c0 da db
              generalize betV st da db = z at *
              generalize betS st da db = s' at *
              generalize betK c0 da db = c' at *
              go_wp2_with fail
              refine wp_region_held_drew (S := fun w' => Fr (fun x => x = gs ∨ x = gr) wr w') (by kernel_rfl) ((Fr.refl _ _).drew) (fun hHeld => ?_)
              refine wpAnyH_takeD (i := 0) (v := ?_) (some 58) rfl rfl (by kernel_rfl) (by kernel_rfl) (by kernel_rfl) (fun _ _ _ h => h) (Or.inl ⟨by rfl, ?_⟩) (by assumption) ?_
              rotate_left
              · intro w' hSw
                go_simp
                first | done | with_reducible rfl
              try simp only [Act.put, List.setIfInBounds_toArray, List.set_cons_zero, List.set_cons_succ]
              refine wpAnyH_takeD (i := 1) (v := ?_) (some 59) rfl rfl (by kernel_rfl) (by kernel_rfl) (by kernel_rfl) (fun _ _ _ h => h) (Or.inl ⟨by rfl, ?_⟩) (by assumption) ?_
              rotate_left
              · intro w' hSw
                go_simp
                first | done | with_reducible rfl
              try simp only [Act.put, List.setIfInBounds_toArray, List.set_cons_zero, List.set_cons_succ]
              refine wpAnyH_takeD (i := 2) (v := ?_) (some 60) rfl rfl (by kernel_rfl) (by kernel_rfl) (by kernel_rfl) (fun _ _ _ h => h) (Or.inl ⟨by rfl, ?_⟩) (by assumption) ?_
              rotate_left
              · intro w' hSw
                go_simp
                first | done | with_reducible rfl
              try simp only [Act.put, List.setIfInBounds_toArray, List.set_cons_zero, List.set_cons_succ]
              refine wpAnyH_takeD (i := 3) (v := ?_) (some 61) rfl rfl (by kernel_rfl) (by kernel_rfl) (by kernel_rfl) (fun _ _ _ h => h) (Or.inl ⟨by rfl, ?_⟩) (by assumption) ?_
              rotate_left
              · intro w' hSw
                go_simp
                first | done | with_reducible rfl
              try simp only [Act.put, List.setIfInBounds_toArray, List.set_cons_zero, List.set_cons_succ]
              refine wpAnyH_takeD (i := 4) (v := ?_) (some 62) rfl rfl (by kernel_rfl) (by kernel_rfl) (by kernel_rfl) (fun _ _ _ h => h) (Or.inl ⟨by rfl, ?_⟩) (by assumption) ?_
              rotate_left
              · intro w' hSw
                go_simp
                first | done | with_reducible rfl
              try simp only [Act.put, List.setIfInBounds_toArray, List.set_cons_zero, List.set_cons_succ]
              refine wpAnyH_takeD (i := 5) (v := ?_) (some 63) rfl rfl (by kernel_rfl) (by kernel_rfl) (by kernel_rfl) (fun _ _ _ h => h) (Or.inl ⟨by rfl, ?_⟩) (by assumption) ?_
              rotate_left
              · intro w' hSw
                have q1 := (CL.out _ hSw).c1
                go_simp
                first | done | with_reducible rfl
              try simp only [Act.put, List.setIfInBounds_toArray, List.set_cons_zero, List.set_cons_succ]
              refine wpAnyH_takeD (i := 6) (v := ?_) (some 64) rfl rfl (by kernel_rfl) (by kernel_rfl) (by kernel_rfl) (fun _ _ _ h => h) (Or.inl ⟨by rfl, ?_⟩) (by assumption) ?_
              rotate_left
              · intro w' hSw
                go_simp
                first | done | with_reducible rfl
              try simp only [Act.put, List.setIfInBounds_toArray, List.set_cons_zero, List.set_cons_succ]
              refine wpAnyH_takeD (i := 7) (v := ?_) (some 65) rfl rfl (by kernel_rfl) (by kernel_rfl) (by kernel_rfl) (fun _ _ _ h => h) (Or.inl ⟨by rfl, ?_⟩) (by assumption) ?_
              rotate_left
              · intro w' hSw
                go_simp
                first | done | with_reducible rfl
              try simp only [Act.put, List.setIfInBounds_toArray, List.set_cons_zero, List.set_cons_succ]
              refine wpAnyH_takeD (i := 8) (v := ?_) (some 66) rfl rfl (by kernel_rfl) (by kernel_rfl) (by kernel_rfl) (fun _ _ _ h => h) (Or.inl ⟨by rfl, ?_⟩) (by assumption) ?_
              rotate_left
              · intro w' hSw
                go_simp
                first | done | with_reducible rfl
              try simp only [Act.put, List.setIfInBounds_toArray, List.set_cons_zero, List.set_cons_succ]
              refine wpAnyH_takeD (i := 9) (v := ?_) (some 67) rfl rfl (by kernel_rfl) (by kernel_rfl) (by kernel_rfl) (fun _ _ _ h => h) (Or.inl ⟨by rfl, ?_⟩) (by assumption) ?_
              rotate_left
              · intro w' hSw
                go_simp
                first | done | with_reducible rfl
              try simp only [Act.put, List.setIfInBounds_toArray, List.set_cons_zero, List.set_cons_succ]
              refine wpAnyH_takeD (i := 10) (v := ?_) (some 68) rfl rfl (by kernel_rfl) (by kernel_rfl) (by kernel_rfl) (fun _ _ _ h => h) (Or.inl ⟨by rfl, ?_⟩) (by assumption) ?_
              rotate_left
              · intro w' hSw
                have q1 := (CL.out _ hSw).c2
                go_simp
                first | done | with_reducible rfl
              try simp only [Act.put, List.setIfInBounds_toArray, List.set_cons_zero, List.set_cons_succ]
              refine wpAnyH_takeD (i := 12) (v := ?_) (some 70) rfl rfl (by kernel_rfl) (by kernel_rfl) (by kernel_rfl) (fun _ _ _ h => h) (Or.inl ⟨by rfl, ?_⟩) (by assumption) ?_
              rotate_left
              · intro w' hSw
                go_simp
                first | done | with_reducible rfl
              try simp only [Act.put, List.setIfInBounds_toArray, List.set_cons_zero, List.set_cons_succ]
              refine wpAnyH_takeD (i := 13) (v := ?_) (some 71) rfl rfl (by kernel_rfl) (by kernel_rfl) (by kernel_rfl) (fun _ _ _ h => h) (Or.inl ⟨by rfl, ?_⟩) (by assumption) ?_
              rotate_left
              · intro w' hSw
                go_simp
                first | done | with_reducible rfl
              try simp only [Act.put, List.setIfInBounds_toArray, List.set_cons_zero, List.set_cons_succ]
              refine wpAnyH_takeD (i := 14) (v := ?_) (some 72) rfl rfl (by kernel_rfl) (by kernel_rfl) (by kernel_rfl) (fun _ _ _ h => h) (Or.inl ⟨by rfl, ?_⟩) (by assumption) ?_
              rotate_left
              · intro w' hSw
                go_simp
                first | done | with_reducible rfl
              try simp only [Act.put, List.setIfInBounds_toArray, List.set_cons_zero, List.set_cons_succ]
              refine wpAnyH_takeD (i := 15) (v := ?_) (some 73) rfl rfl (by kernel_rfl) (by kernel_rfl) (by kernel_rfl) (fun _ _ _ h => h) (Or.inl ⟨by rfl, ?_⟩) (by assumption) ?_
              rotate_left
              · intro w' hSw
                go_simp
                first | done | with_reducible rfl
              try simp only [Act.put, List.setIfInBounds_toArray, List.set_cons_zero, List.set_cons_succ]
              refine wpAnyH_takeD (i := 16) (v := ?_) (some 74) rfl rfl (by kernel_rfl) (by kernel_rfl) (by kernel_rfl) (fun _ _ _ h => h) (Or.inl ⟨by rfl, ?_⟩) (by assumption) ?_
              rotate_left
              · intro w' hSw
                go_simp
                first | done | with_reducible rfl
              try simp only [Act.put, List.setIfInBounds_toArray, List.set_cons_zero, List.set_cons_succ]
              refine wpAnyH_takeD (i := 17) (v := ?_) (some 75) rfl rfl (by kernel_rfl) (by kernel_rfl) (by kernel_rfl) (fun _ _ _ h => h) (Or.inl ⟨by rfl, ?_⟩) (by assumption) ?_
              rotate_left
              · intro w' hSw
                have q1 := (CL.out _ hSw).c1
                go_simp
                first | done | with_reducible rfl
              try simp only [Act.put, List.setIfInBounds_toArray, List.set_cons_zero, List.set_cons_succ]
              refine wpAnyH_takeD (i := 18) (v := ?_) (some 76) rfl rfl (by kernel_rfl) (by kernel_rfl) (by kernel_rfl) (fun _ _ _ h => h) (Or.inl ⟨by rfl, ?_⟩) (by assumption) ?_
              rotate_left
              · intro w' hSw
                go_simp
                first | done | with_reducible rfl
              try simp only [Act.put, List.setIfInBounds_toArray, List.set_cons_zero, List.set_cons_succ]
              refine wpAnyH_takeD (i := 19) (v := ?_) (some 77) rfl rfl (by kernel_rfl) (by kernel_rfl) (by kernel_rfl) (fun _ _ _ h => h) (Or.inl ⟨by rfl, ?_⟩) (by assumption) ?_
              rotate_left
              · intro w' hSw
                go_simp
                first | done | with_reducible rfl
              try simp only [Act.put, List.setIfInBounds_toArray, List.set_cons_zero, List.set_cons_succ]
              refine wpAnyH_takeD (i := 20) (v := ?_) (some 78) rfl rfl (by kernel_rfl) (by kernel_rfl) (by kernel_rfl) (fun _ _ _ h => h) (Or.inl ⟨by rfl, ?_⟩) (by assumption) ?_
              rotate_left
              · intro w' hSw
                go_simp
                first | done | with_reducible rfl
              try simp only [Act.put, List.setIfInBounds_toArray, List.set_cons_zero, List.set_cons_succ]
              refine wpAnyH_takeD (i := 21) (v := ?_) (some 79) rfl rfl (by kernel_rfl) (by kernel_rfl) (by kernel_rfl) (fun _ _ _ h => h) (Or.inl ⟨by rfl, ?_⟩) (by assumption) ?_
              rotate_left
              · intro w' hSw
                go_simp
                first | done | with_reducible rfl
              try simp only [Act.put, List.setIfInBounds_toArray, List.set_cons_zero, List.set_cons_succ]
              refine wpAnyH_takeD (i := 22) (v := ?_) (some 80) rfl rfl (by kernel_rfl) (by kernel_rfl) (by kernel_rfl) (fun _ _ _ h => h) (Or.inl ⟨by rfl, ?_⟩) (by assumption) ?_
              rotate_left
              · intro w' hSw
                have q1 := (CL.out _ hSw).c2
                go_simp
                first | done | with_reducible rfl
              try simp only [Act.put, List.setIfInBounds_toArray, List.set_cons_zero, List.set_cons_succ]
              refine wpAnyH_ready (rs := [11]) (by kernel_rfl) (by simp) ?_
              refine AllReadyH.cons rfl (fun K hK => ?_) AllReadyH.nil
              go_simp
              refine (CB.out wr.drew HS.out).mono ?_; rintro e w3 ⟨rfl, hs3, hf3⟩
              try go_simp
              refine hK.out _ _ (hHeld.trans hf3 (fun _ _ e => .inl e)) (fun hHeld => ?_)
              clear hK K
              try change wpAnyH _ _ _ _ _ _ _ (Act.put _ (some 69) _) _
              try simp only [Act.put, List.setIfInBounds_toArray, List.set_cons_zero, List.set_cons_succ]
              refine wpAnyH_ready (rs := [23]) (by kernel_rfl) (by simp) ?_
              refine AllReadyH.cons rfl (fun K hK => ?_) AllReadyH.nil
              go_simp
              refine (CR.out _ (RSrc.fr (show RSrc wr.drew gr st c0 from HR.out) hf3 (fun e => HNE.out e.symm))).mono ?_; rintro e w4 ⟨rfl, hr4, hf4⟩
              try go_simp
              refine hK.out _ _ (hHeld.trans hf4 (fun _ _ e => .inr e)) (fun hHeld => ?_)
              clear hK K
              try change wpAnyH _ _ _ _ _ _ _ (Act.put _ (some 81) _) _
              try simp only [Act.put, List.setIfInBounds_toArray, List.set_cons_zero, List.set_cons_succ]
              refine wpAnyH_takeD (i := 24) (v := ?_) (some 82) rfl rfl (by kernel_rfl) (by kernel_rfl) (by kernel_rfl) (fun _ _ _ h => h) (Or.inl ⟨by rfl, ?_⟩) (by assumption) ?_
              rotate_left
              · intro w' hSw
                go_simp
                first | done | with_reducible rfl
              try simp only [Act.put, List.setIfInBounds_toArray, List.set_cons_zero, List.set_cons_succ]
              refine wpAnyH_done (by kernel_rfl) ?_ _
              have HS5 := Lib.hid (hs3.fr hf4 (fun e => HNE.out e))
              have HF5 := Lib.hid (HFS.out _ hHeld)
              have HR5 := Lib.hid hr4
              clear hr4 hf4 hs3 hf3 hHeld CB CR d0
              have cN : w4.cell? ⟨gr, 1, none⟩ = some (.int .i64 (c' : Nat)) := HR5.out.cell 1
              have CC := Lib.hid (fun m => count_still gs s' c' (w4.drewN m) HS5.out)
              go_wp2_with fail
              go_quiet (first | (go_at_call 17; exact Calls.quiet_of_same (CC.out _)))
              go_wp2
              go_roundw
              case rel => exact ⟨k + 1, gs, s', c', by omega, by go_num, rfl, HS5.out, HR5.out, by omega, HGS.out, HF5.out.drewN _⟩
              case measure => simp [intOf]; omega
            · have h3' : (kd == 3) = false := by simpa using h3
              by_cases h4 : kd = 4
              · subst h4
                go_wp2_with fail
                refine (twin_any gs st c0 wr HS.out).mono ?_; rintro e w4 ⟨rfl, ht4, hf4⟩
                have hgt : B ≤ wr.heap.size := by have := HF.out.size; have := HB.out; omega
                have hgl : gs < wr.heap.size := HS.out.lt
                have hne : wr.heap.size ≠ gs := by omega
                have HS4 := Lib.hid (HS.out.fr hf4 (fun h => h))
                have HR4 := Lib.hid (HR.out.fr hf4 (fun h => h))
                have HF4 := Lib.hid (HF.out.trans hf4 (fun _ _ h => h))
                have HT4 := Lib.hid ht4
                clear ht4 hf4 d0 hgl
                generalize wr.heap.size = gt at *
                have HGT := Lib.hid hgt
                have HNT := Lib.hid hne
                clear hgt hne
                go_wp2_with fail
                refine (next_any gs st c0 w4 HS4.out (by omega)).mono ?_; rintro e w5 ⟨rfl, hs5, hf5⟩
                have HS5 := Lib.hid (HT4.out.fr hf5 (fun e => HNT.out e))
                have HR5 := Lib.hid (HR4.out.fr hf5 (fun e => HNE.out e.symm))
                have HF5 := Lib.hid (HF4.out.trans hf5 (fun x hx e => by have h1 := HB.out; have h2 := HGS.out; have h3 := HGR.out; omega))
                clear hs5 hf5
                have cN : w5.cell? ⟨gr, 1, none⟩ = some (.int .i64 (c0 : Nat)) := HR5.out.cell 1
                have CC := Lib.hid (fun m => count_still gt st c0 (w5.drewN m) HS5.out)
                go_wp2_with fail
                go_quiet (first | (go_at_call 17; exact Calls.quiet_of_same (CC.out _)))
                go_wp2
                go_roundw
                case rel => exact ⟨k + 1, gt, st, c0, by omega, by go_num, rfl, HS5.out, HR5.out, by omega, HGT.out, HF5.out.drewN _⟩
                case measure => simp [intOf]; omega
              · have h4' : (kd == 4) = false := by simpa using h4
                clear h1 h2 h3 h4
                have cN : wr.cell? ⟨gr, 1, none⟩ = some (.int .i64 (c0 : Nat)) := HR.out.cell 1
                have CC := Lib.hid (fun m => count_still gs st c0 (wr.drewN m) HS.out)
                go_wp2_with fail
                go_quiet (first | (go_at_call 17; exact Calls.quiet_of_same (CC.out _)))
                go_wp2
                go_roundw
                case rel => exact ⟨k + 1, gs, st, c0, by omega, by go_num, rfl, HS.out, HR.out, by omega, HGS.out, HF.out.drewN _⟩
                case measure => simp [intOf]; omega
      · have : k = n := by omega
        subst this
        go_wp2
        go_ret
        exact ⟨rfl, HF.out⟩
end Go.Proofs.Ytlfopangocjpfaa
