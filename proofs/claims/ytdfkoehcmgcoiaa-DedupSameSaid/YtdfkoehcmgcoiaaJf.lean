/- dedup: kind, Look. -/
import Derived.Test.YtdfkoehcmgcoiaaJe
namespace Go.Proofs.Ytdfkoehcmgcoiaa
open Go.RowKit Go.Maps

set_option maxRecDepth 100000 in
set_option maxHeartbeats 4000000 in
theorem kind_any {g ba br : Nat} {F : Nat → Prop} {t : DT} {Da Dr : DV} {w : World} (h : TabM w g ba br F t Da Dr) (ok : t.ok) {c s : Int} (hc : I64 c) (hs : I64 s) :
    Calls Try.prog 18 #[.pointer (some ⟨g, 0, none⟩), kyV c s] w fun e w' => e = .returned (.int .i64 (t.kind c s)) ∧ Fr (fun _ => False) w w' := by
  have hlen : (t.row c).length ≤ 1048576 := by have := ok.len c; have := ok.w2; omega
  have CM := Lib.hid (fun w' (hf : Fr (fun _ => False) w w') => mayHave_any (h.fr hf (fun _ _ h => h)) ok.w1 c s)
  have CL := Lib.hid (fun w' (hf : Fr (fun _ => False) w w') n => least_any ((h.fr hf (fun _ _ h => h)).fr ((Fr.refl (fun _ => False) w').drewN n) (fun _ _ h => h)) ok.took0 hc hlen)
  obtain ⟨va, HLK⟩ : ∃ va, Hid (∀ w', Fr (fun _ => False) w w' → ∀ n, (Instr.lookup 53 (.map (some ba)) (kyV c s) true).run Try.prog (w'.drewN n) = .ok (.tuple #[va, .bool (decide (s ∈ t.row c))]) (w'.drewN n)) := by
    have hM := fun w' (hf : Fr (fun _ => False) w w') n => (h.fr hf (fun _ _ h => h)).fr ((Fr.refl (fun _ => False) w').drewN n) (fun _ _ h => h)
    by_cases hm : s ∈ t.row c
    · obtain ⟨A, cap, h1, _⟩ := h.ans c s hc hs hm
      exact ⟨_, Lib.hid (fun w' hf n => by rw [decide_eq_true hm]; exact ((hM w' hf n).ma.at1 kKey tKey (zeroAns _) (ky_of hc hs) h1).1)⟩
    · exact ⟨_, Lib.hid (fun w' hf n => by rw [decide_eq_false hm]; exact ((hM w' hf n).ma.at0 kKey tKey (zeroAns _) (ky_of hc hs) (h.noAns c s hc hs hm)).1)⟩
  have HB := Lib.hid h.blk
  have HK : Hid (t.kind c s = if mayR c s = false then 3 else if s < t.least c then 2 else if s ∈ t.row c then 1 else 0) := Lib.hid rfl
  generalize mayR c s = mr at *
  generalize t.least c = lst at *
  obtain ⟨g0, hg0⟩ : ∃ g0, w.heap.size = g0 := ⟨_, rfl⟩
  obtain ⟨W, hW⟩ : ∃ W, w.alloc (.cells #[.int .i64 c, .int .i64 s] 48) = W := ⟨_, rfl⟩
  have KW : Hid (Bk W g0 48 #[.int .i64 c, .int .i64 s]) := Lib.hid (by rw [← hW, ← hg0]; exact Bk.new _ _ _)
  have FW : Hid (Fr (fun _ => False) w W) := Lib.hid (by rw [← hW]; exact (Fr.refl _ _).alloc _)
  clear h ok hlen hc hs
  unfold kyV at *
  have c0 := KW.out.cell 0
  have c1 := KW.out.cell 1
  cases mr with
  | false =>
    go_enter Try.func18, Try.ntmps18
    go_wp2_with fail
    clear c0 c1
    refine (CM.out W FW.out).mono ?_; rintro e w1 ⟨rfl, hf1⟩
    go_wp2
    go_ret
    refine ⟨?_, FW.out.trans hf1 (fun _ _ h => h)⟩
    rw [HK.out, if_pos (by trivial)]; rfl
  | true =>
    by_cases h2 : s < lst
    · have d2 : decide (s < lst) = true := decide_eq_true h2
      go_enter Try.func18, Try.ntmps18
      go_wp2_with fail
      clear c0 c1
      refine (CM.out W FW.out).mono ?_; rintro e w1 ⟨rfl, hf1⟩
      have F1 := Lib.hid (FW.out.trans hf1 (fun _ _ h => h))
      have k1 := KW.out.fr hf1 (fun h => h)
      have c0 := k1.cell 0
      have c1 := k1.cell 1
      clear k1 hf1
      go_wp2_with fail
      go_quiet (first
        | (go_at_call 33; exact Calls.quiet_of (CL.out w1 F1.out _)))
      go_wp2
      go_ret
      refine ⟨?_, F1.out.drewN _⟩
      rw [HK.out, if_neg (by simp), if_pos h2]; rfl
    · have d2 : decide (s < lst) = false := decide_eq_false h2
      by_cases hm : s ∈ t.row c
      · have dm : decide (s ∈ t.row c) = true := decide_eq_true hm
        rw [dm] at HLK
        clear dm
        go_enter Try.func18, Try.ntmps18
        go_wp2_with fail
        clear c0 c1
        refine (CM.out W FW.out).mono ?_; rintro e w1 ⟨rfl, hf1⟩
        have F1 := Lib.hid (FW.out.trans hf1 (fun _ _ h => h))
        have k1 := KW.out.fr hf1 (fun h => h)
        have c0 := k1.cell 0
        have c1 := k1.cell 1
        have c2 : w1.cell? ⟨g, 1, none⟩ = some (.map (some ba)) := (HB.out.fr F1.out (fun h => h)).cell 1
        clear k1 hf1
        go_wp2_with fail
        go_quiet (first
          | (go_at_call 33; exact Calls.quiet_of (CL.out w1 F1.out _)))
        have hlk := fun n => HLK.out w1 F1.out n
        have hlk2 := fun n => HLK.out (w1.drewN nq) (F1.out.drewN nq) n
        go_wp2_with fail
        go_quiet (fail)
        clear hlk hlk2
        go_wp2
        go_ret
        refine ⟨?_, (F1.out.drewN _).drewN _⟩
        rw [HK.out, if_neg (by simp), if_neg (by omega), if_pos hm]; rfl
      · have dm : decide (s ∈ t.row c) = false := decide_eq_false hm
        rw [dm] at HLK
        clear dm
        go_enter Try.func18, Try.ntmps18
        go_wp2_with fail
        clear c0 c1
        refine (CM.out W FW.out).mono ?_; rintro e w1 ⟨rfl, hf1⟩
        have F1 := Lib.hid (FW.out.trans hf1 (fun _ _ h => h))
        have k1 := KW.out.fr hf1 (fun h => h)
        have c0 := k1.cell 0
        have c1 := k1.cell 1
        have c2 : w1.cell? ⟨g, 1, none⟩ = some (.map (some ba)) := (HB.out.fr F1.out (fun h => h)).cell 1
        clear k1 hf1
        go_wp2_with fail
        go_quiet (first
          | (go_at_call 33; exact Calls.quiet_of (CL.out w1 F1.out _)))
        have hlk := fun n => HLK.out w1 F1.out n
        have hlk2 := fun n => HLK.out (w1.drewN nq) (F1.out.drewN nq) n
        go_wp2_with fail
        go_quiet (fail)
        clear hlk hlk2
        go_wp2
        go_ret
        refine ⟨?_, (F1.out.drewN _).drewN _⟩
        rw [HK.out, if_neg (by simp), if_neg (by omega), if_neg hm]; rfl
end Go.Proofs.Ytdfkoehcmgcoiaa
