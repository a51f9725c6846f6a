/- chunk: Done. -/
import Derived.Test.YtacafjbbdklleaaDoorAl
namespace Go.Proofs.YtacafjbbdklleaaDoor
open Go.RowKit Go.Extern.Stop Go.Stop Go.Extern

set_option maxRecDepth 100000 in
set_option maxHeartbeats 2000000 in
theorem is_errno (k t : Int) (w : World) :
    Calls Tryd.prog 26 #[.iface 63 (.int .i64 k), .iface 63 (.int .i64 t)] w fun e w' => e = .returned (.bool (k == t)) ∧ w = w' := by
  obtain ⟨i, hi, hcmp⟩ := Option.map_eq_some_iff.1 Tryd.isCompN
  have tT := Tryd.isTypeOfN
  have cT := Tryd.isComparableN
  have mC := Tryd.isMethodComparable
  have heq := run_eql_ints (P := Tryd.prog) w k t Tryd.underlying26 Tryd.underlying63 hi hcmp
  clear hi hcmp
  have n3 := Tryd.noIsN
  have n4 := Tryd.noUnwrapN
  have n5 := Tryd.noUnwrapsN
  cases hq : (k == t) with
  | true =>
    rw [hq] at heq
    clear hq
    go_enter Tryd.func26, Tryd.ntmps26
    go_wp2
    refine wp_loop_rounds 1 ?_
    rw [rounds_succ]
    go_wp2
    go_ret
    exact ⟨rfl, rfl⟩
  | false =>
    rw [hq] at heq
    clear hq
    go_enter Tryd.func26, Tryd.ntmps26
    go_wp2
    refine wp_loop_rounds 1 ?_
    rw [rounds_succ]
    go_wp2
    go_ret
    exact ⟨rfl, rfl⟩

/-- What Done makes. -/
def DoneE (b : Nat) (s : BSt) (v : Value) (w : World) (e : Ending) (w' : World) : Prop :=
  ∃ x, e = .returned (.tuple #[if s.doneE = 0 then v else .slice none 0 0, x]) ∧ BrkV s.id s.doneE w w' x ∧ Bd w' b s.done (if s.doneE = 6 then v else .slice none 0 0) ∧ Fr (fun x => x = b) w w'
theorem BSt.doneE_cases (s : BSt) : s.doneE = 0 ∨ s.doneE = 6 ∨ s.doneE = 9 := by
  unfold BSt.doneE; split
  · exact .inr (.inl rfl)
  · split
    · exact .inr (.inr rfl)
    · exact .inl rfl

set_option maxRecDepth 100000 in
set_option maxHeartbeats 4000000 in
theorem done_any (b : Nat) (s : BSt) (v : Value) (w : World) (hb : Bd w b s v) (hbB : 3 ≤ b) (hE : ErrT w) (hT : Tab w) :
    Calls Tryd.prog 14 #[.pointer (some ⟨b, 0, none⟩)] w (DoneE b s v w) := by
  have HBD := Lib.hid hb
  have HBB := Lib.hid hbB
  have HET := Lib.hid hE
  have hlen := hb.1.len
  obtain ⟨A, c, rfl, _, _⟩ := hb.own.slice
  have CB := Lib.hid (built_any hb)
  have CV : Hid (∀ w', Fr (fun _ => False) w w' → _) := Lib.hid (fun w' hf => verdict_any s A s.data.length c w' (hT.fr hf (fun h => h)) ((hb.own.rd).fr hf (fun _ _ _ h => h)) rfl (by omega))
  have HDN : Hid (s.done = if s.doneE = 6 then s else BSt.none) := Lib.hid rfl
  have HCA := Lib.hid s.doneE_cases
  have HNW : Hid (Own8 w 5 (.slice A s.data.length c) s.data) := Lib.hid hb.own
  unfold BSt.v at CB
  unfold DoneE
  rw [HDN.out]
  obtain ⟨E, hEE⟩ : ∃ E, s.doneE = E := ⟨_, rfl⟩
  rw [hEE] at CV HCA ⊢
  obtain ⟨n, hn⟩ : ∃ n, s.data.length = n := ⟨_, rfl⟩
  rw [hn] at CB CV HBD HNW ⊢
  clear hb hbB hE hT hEE HDN hlen hn
  have CI := Lib.hid (fun w' => is_errno E 6 w')
  go_enter Tryd.func14, Tryd.ntmps14
  go_wp2_with fail
  refine CB.out.mono ?_; rintro e w1 ⟨rfl, hf1⟩
  obtain ⟨g, hg⟩ : ∃ g, w1.heap.size = g := ⟨_, rfl⟩
  obtain ⟨W, hW⟩ : ∃ W, w1.alloc (.cells #[.int .i64 s.id, .int .i64 0, .int .i64 s.total, .int .u32 s.sum, .slice A n c] 36) = W := ⟨_, rfl⟩
  have KW : Hid (Bk W g 36 #[.int .i64 s.id, .int .i64 0, .int .i64 s.total, .int .u32 s.sum, .slice A n c]) := Lib.hid (by rw [← hW, ← hg]; exact Bk.new _ _ _)
  have FW : Hid (Fr (fun _ => False) w W) := Lib.hid (by rw [← hW]; exact hf1.alloc _)
  have CV1 := Lib.hid (CV.out W FW.out)
  have c0 := KW.out.cell 0
  have c1 := KW.out.cell 1
  have c2 := KW.out.cell 2
  have c3 := KW.out.cell 3
  have c4 := KW.out.cell 4
  clear hf1 CB CV
  go_wp2_with fail
  clear hW hg c0 c1 c2 c3 c4
  refine CV1.out.mono ?_; rintro e w2 ⟨rfl, hf2⟩
  have F2 := Lib.hid (FW.out.trans hf2 (fun _ _ h => h))
  have K2 := Lib.hid (KW.out.fr hf2 (fun h => h))
  clear hf2 CV1 KW FW
  go_wp2_with fail
  refine (CI.out _).mono ?_; rintro e w3 ⟨rfl, rfl⟩
  have HB2 := Lib.hid (HBD.out.fr0 F2.out)
  rcases HCA.out with h | h | h
  · subst h
    have d1 : ((0 : Int) == 6) = false := rfl
    go_wp2_with fail
    refine (drop_any HB2.out).mono ?_; rintro e w3 ⟨rfl, hb3, hf3⟩
    have F3 := Lib.hid (((F2.out.mono (fun _ _ h => h.elim)).trans hf3 (fun _ _ h => h)) : Fr (fun x => x = b) w w3)
    have HB3 := Lib.hid hb3
    obtain ⟨cb, hcb⟩ := HB2.out.bk
    have K3 := Lib.hid (K2.out.fr hf3 (fun e => by subst e; exact Bk.ne K2.out hcb (by decide) rfl))
    have CK := Lib.hid (broken_any s.id 0 w3 (HET.out.fr F3.out (fun e => by have := HBB.out; have e' : 0 = b := e; omega)))
    have c0 := K3.out.cell 0
    have c4 := K3.out.cell 4
    clear hb3 hf3 hcb
    go_wp2_with fail
    refine CK.out.mono ?_; rintro e w4 ⟨xv, rfl, hbv, hf4⟩
    obtain rfl : xv = .nilIface := by unfold BrkV at hbv; rw [if_pos rfl] at hbv; exact hbv
    have F4 := Lib.hid hf4
    have K4 := Lib.hid (K3.out.fr hf4 (fun h => h))
    clear c0 c4
    have c0 := K4.out.cell 0
    have c4 := K4.out.cell 4
    clear hbv hf4 CK
    go_wp2
    go_ret2
    refine ⟨.nilIface, ?_, ?_, ?_, F3.out.trans F4.out (fun _ _ h => h.elim)⟩
    · rfl
    · unfold BrkV; rw [if_pos rfl]
    · exact HB3.out.fr0 F4.out
  · subst h
    have d1 : ((6 : Int) == 6) = true := rfl
    have CK := Lib.hid (broken_any s.id 6 w2 (HET.out.fr F2.out (fun e => e)))
    have c0 := K2.out.cell 0
    have c4 := K2.out.cell 4
    go_wp2_with fail
    refine CK.out.mono ?_; rintro e w4 ⟨xv, rfl, hbv, hf4⟩
    have HBV := Lib.hid (hbv.less F2.out.size)
    unfold BrkV at hbv
    rw [if_neg (by decide)] at hbv
    obtain ⟨gx, rfl, _, _⟩ := hbv
    have F4 := Lib.hid hf4
    clear c0 c4 hf4 CK
    go_wp2
    go_ret2
    refine ⟨_, ?_, HBV.out, ?_, (F2.out.trans F4.out (fun _ _ h => h)).mono (fun _ _ h => h.elim)⟩
    · rfl
    · exact HB2.out.fr0 F4.out
  · subst h
    have d1 : ((9 : Int) == 6) = false := rfl
    go_wp2_with fail
    refine (drop_any HB2.out).mono ?_; rintro e w3 ⟨rfl, hb3, hf3⟩
    have F3 := Lib.hid (((F2.out.mono (fun _ _ h => h.elim)).trans hf3 (fun _ _ h => h)) : Fr (fun x => x = b) w w3)
    have HB3 := Lib.hid hb3
    obtain ⟨cb, hcb⟩ := HB2.out.bk
    have K3 := Lib.hid (K2.out.fr hf3 (fun e => by subst e; exact Bk.ne K2.out hcb (by decide) rfl))
    have CK := Lib.hid (broken_any s.id 9 w3 (HET.out.fr F3.out (fun e => by have := HBB.out; have e' : 0 = b := e; omega)))
    have c0 := K3.out.cell 0
    have c4 := K3.out.cell 4
    clear hb3 hf3 hcb
    go_wp2_with fail
    refine CK.out.mono ?_; rintro e w4 ⟨xv, rfl, hbv, hf4⟩
    have HBV := Lib.hid (hbv.less F3.out.size)
    unfold BrkV at hbv
    rw [if_neg (by decide)] at hbv
    obtain ⟨gx, rfl, _, _⟩ := hbv
    have F4 := Lib.hid hf4
    clear c0 c4 hf4 CK
    go_wp2
    go_ret2
    refine ⟨_, ?_, HBV.out, ?_, F3.out.trans F4.out (fun _ _ h => h.elim)⟩
    · rfl
    · exact HB3.out.fr0 F4.out
end Go.Proofs.YtacafjbbdklleaaDoor
