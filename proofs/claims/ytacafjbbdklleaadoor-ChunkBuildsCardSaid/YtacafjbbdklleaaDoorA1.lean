/- ChunkBuilds: both builders side by side. -/
import Derived.Test.YtacafjbbdklleaaDoorAz
import Derived.Test.YtacafjbbdklleaaDoorAx
namespace Go.Proofs.YtacafjbbdklleaaDoor
open Go.RowKit

/-- The program's builder at s, the reference's at t. -/
structure PI (B : Nat) (w0 wr : World) (b : Nat) (s : BSt) (v : Value) (rb : Nat) (t : BSt) (rv : Value) : Prop where
  bi : BI B w0 wr b s v
  ri : RB wr rb t rv
  lr : B ≤ rb
  lrv : ∀ x, rv.ownBlock = some x → B ≤ x
  ne : ∀ x, v.ownBlock = some x → rv.ownBlock ≠ some x
theorem PI.fr0 {B : Nat} {w0 wr w' : World} {b : Nat} {s : BSt} {v : Value} {rb : Nat} {t : BSt} {rv : Value} (h : PI B w0 wr b s v rb t rv) (hf : Fr (fun _ => False) wr w') : PI B w0 w' b s v rb t rv := ⟨h.bi.fr0 hf, h.ri.fr0 hf, h.lr, h.lrv, h.ne⟩
theorem PI.apart {B : Nat} {w0 wr : World} {b : Nat} {s : BSt} {v : Value} {rb : Nat} {t : BSt} {rv : Value} (h : PI B w0 wr b s v rb t rv) : rb ≠ b ∧ v.ownBlock ≠ some rb ∧ rv.ownBlock ≠ some b := by
  obtain ⟨cs, hcs⟩ := h.bi.bd.bk
  refine ⟨fun e => ?_, h.bi.bd.own.ne h.ri.2.1 (by decide), h.ri.2.2.ne hcs (by decide)⟩
  subst e
  exact Bk.ne hcs h.ri.2.1 (by decide) rfl
/-- The program's side moves. -/
theorem PI.left {B : Nat} {w0 wr w' : World} {b : Nat} {s s' : BSt} {v v' : Value} {rb : Nat} {t : BSt} {rv : Value} (h : PI B w0 wr b s v rb t rv) (hb : Bd w' b s' v') (hf : Fr (fun x => x = b ∨ v.ownBlock = some x) wr w') (hm : ∀ x, v'.ownBlock = some x → v.ownBlock = some x ∨ wr.heap.size ≤ x) : PI B w0 w' b s' v' rb t rv := by
  obtain ⟨a1, a2, a3⟩ := h.apart
  refine ⟨⟨hb, h.bi.fr.trans hf (fun y hy e => ?_), h.bi.lb, fun y hy => ?_, h.bi.gb, h.bi.sz⟩, h.ri.fr hf (fun e => ?_) (fun k hk e => ?_), h.lr, h.lrv, fun x hx e => ?_⟩
  · rcases e with e | e
    · rw [e]; exact h.bi.lb
    · exact h.bi.lv y e
  · rcases hm y hy with h1 | h1
    · exact h.bi.lv y h1
    · have := h.bi.fr.size; have := h.bi.sz; omega
  · rcases e with e | e
    · exact a1 e
    · exact a2 e
  · rcases e with e | e
    · exact a3 (e ▸ hk)
    · exact h.ne k e hk
  · rcases hm x hx with h1 | h1
    · exact h.ne x h1 e
    · have := h.ri.2.2.lt e; omega
/-- The reference's side moves. -/
theorem PI.right {B : Nat} {w0 wr w' : World} {b : Nat} {s : BSt} {v : Value} {rb : Nat} {t t' : BSt} {rv rv' : Value} (h : PI B w0 wr b s v rb t rv) (hb : RB w' rb t' rv') (hf : Fr (fun x => x = rb) wr w') (hm : ∀ x, rv'.ownBlock = some x → rv.ownBlock = some x ∨ wr.heap.size ≤ x) : PI B w0 w' b s v rb t' rv' := by
  obtain ⟨a1, a2, a3⟩ := h.apart
  refine ⟨⟨h.bi.bd.fr hf (fun e => a1 e.symm) (fun k hk e => ?_) (fun k hk hl => ?_), h.bi.fr.trans hf (fun y hy e => by rw [e]; exact h.lr), h.bi.lb, h.bi.lv, h.bi.gb, h.bi.sz⟩, hb, h.lr, fun x hx => ?_, fun x hx e => ?_⟩
  · have e' : k = rb := e
    subst e'
    exact a2 hk
  · have e' : k = rb := hk
    subst e'
    exact ⟨_, _, h.ri.2.1, by decide⟩
  · rcases hm x hx with h1 | h1
    · exact h.lrv x h1
    · have := h.bi.fr.size; have := h.bi.sz; omega
  · rcases hm x e with h1 | h1
    · exact h.ne x hx h1
    · have := h.bi.bd.own.lt hx; omega
theorem BSt.addE_cases (s : BSt) (p : Pc) : s.addE p = 0 ∨ Bad5 (s.addE p) := by
  unfold BSt.addE
  split; · exact .inr (.inl rfl)
  split; · exact .inr (.inr (.inl rfl))
  split; · exact .inr (.inr (.inr (.inl rfl)))
  split; · exact .inr (.inr (.inl rfl))
  exact .inl rfl
theorem BSt.add_id {s : BSt} {p : Pc} (hs : -1 ≤ s.id ∧ s.id ≤ 9223372036854775807) (hp : p.id ≤ 9223372036854775807) : -1 ≤ (s.add p).id ∧ (s.add p).id ≤ 9223372036854775807 := by
  unfold BSt.add
  split
  · unfold BSt.put BSt.begin
    split
    · simp only; omega
    · simp only; omega
  · exact hs
theorem BSt.done_id {s : BSt} (hs : -1 ≤ s.id ∧ s.id ≤ 9223372036854775807) : -1 ≤ s.done.id ∧ s.done.id ≤ 9223372036854775807 := by
  unfold BSt.done
  split
  · exact hs
  · simp [BSt.none]

set_option maxRecDepth 100000 in
set_option maxHeartbeats 8000000 in
theorem builds_any (A : Option Addr) (n c F : Nat) (f : Nat → Ca) (w : World) (hG : Gl w) (hc : Cas w F A n f) (hF : F ≤ w.heap.size) (hnb : (n : Int) ≤ 9223372036854775807) :
    Calls Tryd.prog 4 #[.slice A n c] w fun e w' => e = .returned (.bool true) ∧ Fr (fun _ => False) w w' := by
  have HG := Lib.hid hG
  have HC := Lib.hid hc
  have HFW := Lib.hid hF
  have HNB := Lib.hid hnb
  have CK := Lib.hid (known_any w hG)
  clear hG hc hF hnb
  go_enter Tryd.func4, Tryd.ntmps4
  go_wp2_with fail
  refine CK.out.mono ?_; rintro e w1 ⟨rfl, hf1⟩
  have F1 := Lib.hid hf1
  have CF := Lib.hid (few_any A n c F f w1 (HC.out.fr hf1 (fun _ _ h => h)) HNB.out)
  clear hf1
  go_wp2_with fail
  refine CF.out.mono ?_; rintro e w3 ⟨q, rfl, hf3⟩
  have FW3 := Lib.hid (F1.out.trans hf3 (fun _ _ h => h))
  clear hf3 CF
  cases q with
  | false =>
    go_wp2
    go_ret
    exact ⟨rfl, FW3.out⟩
  | true =>
    have HG3 := Lib.hid (HG.out.fr0 FW3.out)
    obtain ⟨B, hB⟩ : ∃ B, w3.heap.size = B := ⟨_, rfl⟩
    have HBS := Lib.hid hB
    have HFB : Hid (F ≤ B) := Lib.hid (by have h1 := FW3.out.size; have h2 := HFW.out; omega)
    have HCS := Lib.hid (HC.out.fr FW3.out (fun _ _ h => h))
    clear hB
    go_wp2_with fail
    refine (newBuilder_any w3).mono ?_; rintro e w4 ⟨b, rfl, hb4, hf4, hbl⟩
    obtain ⟨rb0, hrb0⟩ : ∃ rb0, w4.heap.size = rb0 := ⟨_, rfl⟩
    obtain ⟨W5, hW5⟩ : ∃ W5, w4.alloc (.cells #[.int .i64 (-1), .int .i64 0, .int .u32 0, .slice none 0 0] 45) = W5 := ⟨_, rfl⟩
    have HPI0 : Hid (PI B w3 W5 b BSt.none (.slice none 0 0) rb0 BSt.none (.slice none 0 0)) := Lib.hid (by
      have hfa : Fr (fun _ => False) w4 W5 := by rw [← hW5]; exact (Fr.refl _ _).alloc _
      have hbi := BI.new hb4 hf4 hbl HG3.out
      rw [HBS.out] at hbi
      refine ⟨hbi.fr0 hfa, rb_none (by rw [← hW5, ← hrb0]; exact Bk.new _ _ _), by have h1 := hf4.size; have h2 := HBS.out; omega, fun x hx => by simp [Value.ownBlock] at hx, fun x hx => by simp [Value.ownBlock] at hx⟩)
    have HWE := Lib.hid hW5
    clear hb4 hf4 hbl hW5
    go_wp2_with fail
    rw [HWE.out]
    clear hrb0 HWE
    go_loopw [5, 4] (fun a r wr => ∃ (j : Nat) (s : BSt) (v : Value) (rb : Nat) (rv : Value), a = .int .i64 (j : Int) ∧ r = .pointer (some ⟨rb, 0, none⟩) ∧ j ≤ n ∧ Hid (PI B w3 wr b s v rb s rv) ∧ Hid (-1 ≤ s.id ∧ s.id ≤ 9223372036854775807)) (fun a _ _ => n - (intOf a).toNat)
    case atStart => exact ⟨0, BSt.none, .slice none 0 0, rb0, .slice none 0 0, rfl, rfl, Nat.zero_le _, HPI0, Lib.hid (by simp [BSt.none])⟩
    case round =>
      obtain ⟨j, s, v, rb, rv, rfl, rfl, hj, HPI, HID⟩ := hrel
      by_cases hlt : j < n
      · have g1 : decide (j < n) = true := decide_eq_true hlt
        have g1' : decide ((j : Int) < (n : Int)) = true := decide_eq_true (by omega)
        have hlt' : (j : Int) < (n : Int) := by omega
        have hj0 : (0 : Int) ≤ (j : Int) := by omega
        have hn63 : (n : Int) ≤ 9223372036854775807 := HNB.out
        have HCA : Hid (∀ w', Fr (fun x => B ≤ x) w3 w' → Cas w' F A n f) := Lib.hid (fun w' hf => HCS.out.fr hf (fun k hk => by show ¬ B ≤ k; have := HFB.out; omega))
        obtain ⟨ab, ao, rfl, hat⟩ := HCA.out wr HPI.out.bi.fr j hlt
        obtain ⟨op, hop⟩ : ∃ op, (f j).op = op := ⟨_, rfl⟩
        have a0 := hat.c0
        rw [hop] at a0
        have HAT := Lib.hid hat
        clear hat hop
        by_cases h2 : op = 2
        · subst h2
          have HIDX : Hid (-1 ≤ s.done.id ∧ s.done.id ≤ 9223372036854775807) := Lib.hid (BSt.done_id HID.out)
          have CD := Lib.hid (done_any b s v wr HPI.out.bi.bd (by have := HPI.out.bi.lb; have := HPI.out.bi.gb; omega) (HPI.out.bi.gl HG3.out).err (HPI.out.bi.gl HG3.out).tab)
          unfold DoneE at CD
          obtain ⟨E, hE⟩ : ∃ E, s.doneE = E := ⟨_, rfl⟩
          have HEE := Lib.hid hE
          rw [hE] at CD
          obtain ⟨A7, c7, hv7, _, _⟩ := HPI.out.bi.bd.own.slice
          subst hv7
          obtain ⟨A8, c8, hv8, _, _⟩ := HPI.out.ri.2.2.slice
          subst hv8
          obtain ⟨ln, hln⟩ : ∃ ln, s.data.length = ln := ⟨_, rfl⟩
          have HLN := Lib.hid hln
          rw [hln] at CD HPI
          have HAP := Lib.hid HPI.out.apart
          have HOV := Lib.hid HPI.out.bi.bd.own
          have HRV := Lib.hid HPI.out.ri.2.2
          have HE3 : Hid (E = 0 ∨ E = 6 ∨ E = 9) := Lib.hid (by rw [← hE]; exact s.doneE_cases)
          clear hE hln
          go_wp2_with fail
          refine CD.out.mono ?_; rintro e w5 ⟨xv, rfl, hbv, hb5, hf5⟩
          have HV5 := Lib.hid hbv
          obtain ⟨cb, hcb⟩ := HPI.out.bi.bd.bk
          have HO5 := Lib.hid (HOV.out.fr hf5 (fun x hx e => HOV.out.ne hcb (by decide) (e ▸ hx)))
          have HP5 := Lib.hid (HPI.out.left hb5 (hf5.mono (fun _ _ h => .inl h)) (fun x hx => by
            split at hx
            · exact .inl hx
            · simp [Value.ownBlock] at hx))
          have CR := Lib.hid (refDone_any rb s _ w5 HP5.out.ri)
          unfold RDoneE at CR
          rw [HEE.out] at CR
          have HXV : Hid (∃ xi, xv = xi ∧ (xi = .nilIface ∨ ∃ g, xi = .iface 67 (.pointer (some ⟨g, 0, none⟩)))) := Lib.hid ⟨xv, rfl, by
            unfold BrkV at hbv
            by_cases h0 : E = 0
            · rw [if_pos h0] at hbv; exact .inl hbv
            · rw [if_neg h0] at hbv; obtain ⟨g, e, _⟩ := hbv; exact .inr ⟨g, e⟩⟩
          clear hbv hb5 hf5 hcb CD
          have HP5q := HP5
          have HRV5 := Lib.hid HP5.out.ri.2.2
          rcases HE3.out with h | h | h
          · subst h
            simp only [show ((0 : Int) = 0) = True from by decide, show ((0 : Int) = 6) = False from by decide, if_true, if_false] at CR HP5 ⊢
            go_wp2_with fail
            refine CR.out.mono ?_; rintro e w6 ⟨rfl, hr6, hf6⟩
            have HP6 := Lib.hid (HP5.out.right hr6 hf6 (fun x hx => by simp [Value.ownBlock] at hx))
            have HV6 := Lib.hid (HV5.out.fr hf6 (fun x hx _ => by
              have e' : x = rb := hx
              subst e'
              exact ⟨_, _, HP5.out.ri.2.1, by decide⟩))
            have CL := Lib.hid (lawBroken_any s.id 0 wr w6 xv HV6.out (.inl rfl) (by have := HID.out; omega) HID.out.2 (HP6.out.bi.gl HG3.out).pow (HP6.out.bi.gl HG3.out).err)
            have t1 := run_str8 Tryd.t8 Tryd.underlying5 Tryd.underlying9 c7 (((HO5.out.fr hf6 (fun x hx e => HAP.out.2.1 (e ▸ hx)))).rd) HLN.out
            have t2 := run_str8 Tryd.t8 Tryd.underlying5 Tryd.underlying9 c8 ((HRV5.out.fr hf6 (fun x hx e => HRV5.out.ne HP5q.out.ri.2.1 (by decide) (e ▸ hx))).rd) HLN.out
            obtain ⟨st, hst⟩ : ∃ st, strOf s.data = st := ⟨_, rfl⟩
            rw [hst] at t1 t2
            have t3 : (st.toList != st.toList) = false := by simp
            clear hr6 hf6 CR
            go_wp2_with fail
            refine CL.out.mono ?_; rintro e w7 ⟨rfl, hf7⟩
            have HPI' := Lib.hid (HP6.out.fr0 hf7)
            clear hf7 CL HPI HP5 HP6
            have HPI := HPI'
            clear HPI'
            clear t1 t2 t3
            -- Next, and what is there
            have CN := Lib.hid (next_any HPI.out.bi.bd)
            have hrt0 := HPI.out.ri.2.1
            go_wp2_with fail
            refine CN.out.mono ?_; rintro e w21 ⟨rfl, hf21⟩
            replace HPI := Lib.hid (HPI.out.fr0 hf21)
            have hk21 := HPI.out.ri.2.1
            obtain ⟨R7, rc7, hr7, _, _⟩ := HPI.out.ri.2.2.slice
            rw [hr7] at hk21
            have x0 := hk21.cell 0
            have x3 := hk21.cell 3
            have b1 : (s.done.id != s.done.id) = false := by simp
            have b2 : ((s.done.data.length : Int) != (s.done.data.length : Int)) = false := by simp
            have HSZ := Lib.hid hr7
            clear hrt0 hf21 hk21 hr7 CN
            go_wp2
            refine ⟨⟨j + 1, s.done, _, _, _, by simp, rfl, by omega, HPI, HIDX⟩, ?_⟩
            first | omega | (show _ < _; simp [intOf]; omega)
          · subst h
            simp only [show ((6 : Int) = 0) = False from by decide, show ((6 : Int) = 6) = True from by decide, if_true, if_false] at CR HP5 ⊢
            go_wp2_with fail
            refine CR.out.mono ?_; rintro e w6 ⟨rfl, hr6, hf6⟩
            have HP6 := Lib.hid (HP5.out.right hr6 hf6 (fun x hx => by exact .inl (by simpa using hx)))
            have HV6 := Lib.hid (HV5.out.fr hf6 (fun x hx _ => by
              have e' : x = rb := hx
              subst e'
              exact ⟨_, _, HP5.out.ri.2.1, by decide⟩))
            have CL := Lib.hid (lawBroken_any s.id 6 wr w6 xv HV6.out (.inr (.inr (.inl rfl))) (by have := HID.out; omega) HID.out.2 (HP6.out.bi.gl HG3.out).pow (HP6.out.bi.gl HG3.out).err)
            have t1 := run_str8 Tryd.t8 Tryd.underlying5 Tryd.underlying9 (n := 0) 0 (Rd8.nil w6 none) rfl
            have t3 : ((strOf []).toList != (strOf []).toList) = false := by simp
            clear hr6 hf6 CR
            go_wp2_with fail
            refine CL.out.mono ?_; rintro e w7 ⟨rfl, hf7⟩
            have HPI' := Lib.hid (HP6.out.fr0 hf7)
            clear hf7 CL HPI HP5 HP6
            have HPI := HPI'
            clear HPI'
            clear t1 t3
            -- Next, and what is there
            have CN := Lib.hid (next_any HPI.out.bi.bd)
            have hrt0 := HPI.out.ri.2.1
            go_wp2_with fail
            refine CN.out.mono ?_; rintro e w21 ⟨rfl, hf21⟩
            replace HPI := Lib.hid (HPI.out.fr0 hf21)
            have hk21 := HPI.out.ri.2.1
            obtain ⟨R7, rc7, hr7, _, _⟩ := HPI.out.ri.2.2.slice
            rw [hr7] at hk21
            have x0 := hk21.cell 0
            have x3 := hk21.cell 3
            have b1 : (s.done.id != s.done.id) = false := by simp
            have b2 : ((s.done.data.length : Int) != (s.done.data.length : Int)) = false := by simp
            have HSZ := Lib.hid hr7
            clear hrt0 hf21 hk21 hr7 CN
            go_wp2
            refine ⟨⟨j + 1, s.done, _, _, _, by simp, rfl, by omega, HPI, HIDX⟩, ?_⟩
            first | omega | (show _ < _; simp [intOf]; omega)
          · subst h
            simp only [show ((9 : Int) = 0) = False from by decide, show ((9 : Int) = 6) = False from by decide, if_true, if_false] at CR HP5 ⊢
            go_wp2_with fail
            refine CR.out.mono ?_; rintro e w6 ⟨rfl, hr6, hf6⟩
            have HP6 := Lib.hid (HP5.out.right hr6 hf6 (fun x hx => by simp [Value.ownBlock] at hx))
            have HV6 := Lib.hid (HV5.out.fr hf6 (fun x hx _ => by
              have e' : x = rb := hx
              subst e'
              exact ⟨_, _, HP5.out.ri.2.1, by decide⟩))
            have CL := Lib.hid (lawBroken_any s.id 9 wr w6 xv HV6.out (.inr (.inr (.inr (.inr (.inl rfl))))) (by have := HID.out; omega) HID.out.2 (HP6.out.bi.gl HG3.out).pow (HP6.out.bi.gl HG3.out).err)
            have t1 := run_str8 Tryd.t8 Tryd.underlying5 Tryd.underlying9 (n := 0) 0 (Rd8.nil w6 none) rfl
            have t3 : ((strOf []).toList != (strOf []).toList) = false := by simp
            clear hr6 hf6 CR
            go_wp2_with fail
            refine CL.out.mono ?_; rintro e w7 ⟨rfl, hf7⟩
            have HPI' := Lib.hid (HP6.out.fr0 hf7)
            clear hf7 CL HPI HP5 HP6
            have HPI := HPI'
            clear HPI'
            clear t1 t3
            -- Next, and what is there
            have CN := Lib.hid (next_any HPI.out.bi.bd)
            have hrt0 := HPI.out.ri.2.1
            go_wp2_with fail
            refine CN.out.mono ?_; rintro e w21 ⟨rfl, hf21⟩
            replace HPI := Lib.hid (HPI.out.fr0 hf21)
            have hk21 := HPI.out.ri.2.1
            obtain ⟨R7, rc7, hr7, _, _⟩ := HPI.out.ri.2.2.slice
            rw [hr7] at hk21
            have x0 := hk21.cell 0
            have x3 := hk21.cell 3
            have b1 : (s.done.id != s.done.id) = false := by simp
            have b2 : ((s.done.data.length : Int) != (s.done.data.length : Int)) = false := by simp
            have HSZ := Lib.hid hr7
            clear hrt0 hf21 hk21 hr7 CN
            go_wp2
            refine ⟨⟨j + 1, s.done, _, _, _, by simp, rfl, by omega, HPI, HIDX⟩, ?_⟩
            first | omega | (show _ < _; simp [intOf]; omega)
        · have k2 : (op == 2) = false := by rw [beq_eq_false_iff_ne]; exact h2
          by_cases h3 : op = 3
          · subst h3
            have HIDX : Hid (-1 ≤ BSt.none.id ∧ BSt.none.id ≤ 9223372036854775807) := Lib.hid (by simp [BSt.none])
            have CD := Lib.hid (drop_any HPI.out.bi.bd)
            clear k2 h2
            go_wp2_with fail
            refine CD.out.mono ?_; rintro e w5 ⟨rfl, hb5, hf5⟩
            have HP5 := Lib.hid (HPI.out.left hb5 (hf5.mono (fun _ _ h => .inl h)) (fun x hx => by simp [Value.ownBlock] at hx))
            obtain ⟨rb2, hrb2⟩ : ∃ rb2, w5.heap.size = rb2 := ⟨_, rfl⟩
            obtain ⟨W6, hW6⟩ : ∃ W6, w5.alloc (.cells #[.int .i64 (-1), .int .i64 0, .int .u32 0, .slice none 0 0] 45) = W6 := ⟨_, rfl⟩
            have HPI6 : Hid (PI B w3 W6 b BSt.none (.slice none 0 0) rb2 BSt.none (.slice none 0 0)) := Lib.hid (by
              have hfa : Fr (fun _ => False) w5 W6 := by rw [← hW6]; exact (Fr.refl _ _).alloc _
              refine ⟨HP5.out.bi.fr0 hfa, rb_none (by rw [← hW6, ← hrb2]; exact Bk.new _ _ _), by have h1 := HP5.out.bi.fr.size; have h2 := HP5.out.bi.sz; omega, fun x hx => by simp [Value.ownBlock] at hx, fun x hx => by simp [Value.ownBlock] at hx⟩)
            have HWE := Lib.hid hW6
            clear hb5 hf5 CD HPI HP5 hW6
            have HPI := HPI6
            have CN := Lib.hid (next_any HPI.out.bi.bd)
            go_wp2_with fail
            rw [HWE.out]
            clear hrb2
            refine CN.out.mono ?_; rintro e w21 ⟨rfl, hf21⟩
            replace HPI := Lib.hid (HPI.out.fr0 hf21)
            have hk21 := HPI.out.ri.2.1
            obtain ⟨R7, rc7, hr7, _, _⟩ := HPI.out.ri.2.2.slice
            rw [hr7] at hk21
            have x0 := hk21.cell 0
            have x3 := hk21.cell 3
            have b1 : (BSt.none.id != BSt.none.id) = false := by simp
            have b2 : ((BSt.none.data.length : Int) != (BSt.none.data.length : Int)) = false := by simp
            have HSZ := Lib.hid hr7
            clear hf21 hk21 hr7 CN
            go_wp2
            refine ⟨⟨j + 1, BSt.none, _, _, _, by simp, rfl, by omega, HPI, HIDX⟩, ?_⟩
            first | omega | (show _ < _; simp [intOf]; omega)
          · have k3 : (op == 3) = false := by rw [beq_eq_false_iff_ne]; exact h3
            clear h2 h3
            have HIDX0 : Hid (-1 ≤ (s.add (f j).p).id ∧ (s.add (f j).p).id ≤ 9223372036854775807) := Lib.hid (BSt.add_id HID.out HAT.out.i1)
            have HPC : Hid (∀ w', Fr (fun x => B ≤ x) w3 w' → ∃ D dm dk, w'.cell? ⟨ab, ao + j * 6 + 1, none⟩ = some (.int .i64 (f j).p.id) ∧ w'.cell? ⟨ab, ao + j * 6 + 1 + 1, none⟩ = some (.int .i64 (f j).p.at_) ∧ w'.cell? ⟨ab, ao + j * 6 + 1 + 2, none⟩ = some (.int .i64 (f j).p.total) ∧ w'.cell? ⟨ab, ao + j * 6 + 1 + 3, none⟩ = some (.int .u32 (f j).p.sum) ∧ w'.cell? ⟨ab, ao + j * 6 + 1 + 4, none⟩ = some (.slice D dm dk) ∧ Sl8 w' F D dm dk (f j).p.data) := Lib.hid (fun w' hf => by
              obtain ⟨b9, o9, e9, h9⟩ := HCA.out w' hf j hlt
              injection e9 with e9
              injection e9 with e9a e9b
              subst e9a e9b
              obtain ⟨D, dm, dk, q0, q1, q2, q3, q4, q5, _⟩ := h9.pc
              exact ⟨D, dm, dk, q0, q1, q2, q3, q4, q5⟩)
            obtain ⟨D, dm, dk, q0, q1, q2, q3, q4, hsl⟩ := HPC.out wr HPI.out.bi.fr
            have HDM : Hid ((dm : Int) ≤ 140737488355328) := Lib.hid (by have h1 := hsl.1; have h2 := HAT.out.ln; omega)
            have HSU := Lib.hid HAT.out.su
            have HLNP := Lib.hid HAT.out.ln
            have HI0 := Lib.hid HAT.out.i0
            have HI1 := Lib.hid HAT.out.i1
            obtain ⟨p, hp⟩ : ∃ p, (f j).p = p := ⟨_, rfl⟩
            rw [hp] at q0 q1 q2 q3 hsl HPC HSU HLNP HI0 HI1 HIDX0
            have HIDX := HIDX0
            have CA := Lib.hid (add_any b s v p D dm dk F wr HPI.out.bi.bd (fun x hx => by have := HPI.out.bi.lv x hx; have := HPI.out.bi.gb; omega) hsl HDM.out HSU.out (HPI.out.bi.gl HG3.out).err)
            unfold AddE at CA
            have HEC := Lib.hid (s.addE_cases p)
            obtain ⟨E, hE⟩ : ∃ E, s.addE p = E := ⟨_, rfl⟩
            obtain ⟨Bq, hBq⟩ : ∃ Bq, s.addB p = Bq := ⟨_, rfl⟩
            have HEE := Lib.hid hE
            have HBB := Lib.hid hBq
            rw [hE] at CA HEC
            rw [hBq] at CA
            unfold Pc.v at CA
            obtain ⟨A8, c8, hv8, _, _⟩ := HPI.out.ri.2.2.slice
            subst hv8
            clear hp hsl hE hBq
            go_wp2_with fail
            clear q0 q1 q2 q3 q4
            refine CA.out.mono ?_; rintro e w5 ⟨xv, v', rfl, hbv, hb5, hf5, hm5⟩
            have HV5 := Lib.hid hbv
            have HP5 := Lib.hid (HPI.out.left hb5 hf5 hm5)
            have HXV : Hid (xv = .nilIface ∨ ∃ g, xv = .iface 67 (.pointer (some ⟨g, 0, none⟩))) := Lib.hid (by
              unfold BrkV at hbv
              by_cases h0 : E = 0
              · rw [if_pos h0] at hbv; exact .inl hbv
              · rw [if_neg h0] at hbv; obtain ⟨g, e, _⟩ := hbv; exact .inr ⟨g, e⟩)
            obtain ⟨D5, dm5, dk5, q0, q1, q2, q3, q4, hsl5⟩ := HPC.out w5 HP5.out.bi.fr
            have COF := Lib.hid (of_any p D5 dm5 dk5 w5)
            unfold Pc.v at COF
            have HS5 := Lib.hid hsl5
            clear hbv hb5 hf5 hm5 hsl5 CA
            go_wp2_with fail
            clear q0 q1 q2 q3 q4
            refine COF.out.mono ?_; rintro e w6 ⟨rfl, hf6⟩
            have HP6 := Lib.hid (HP5.out.fr0 hf6)
            have HV6 := Lib.hid (HV5.out.fr0 hf6)
            have HDM5 : Hid ((dm5 : Int) ≤ 140737488355328) := Lib.hid (by have h1 := HS5.out.1; have h2 := HLNP.out; omega)
            have CR := Lib.hid (refAdd_any rb s p A8 s.data.length c8 D5 dm5 dk5 F w6 HP6.out.ri (HS5.out.fr hf6 (fun _ _ h => h)) (by have h1 := HPI.out.lr; have h2 := HFB.out; omega) HDM5.out HSU.out)
            unfold RAddE Pc.v at CR
            rw [HEE.out, HBB.out] at CR
            clear hf6 COF
            go_wp2_with fail
            refine CR.out.mono ?_; rintro e w7 ⟨rv', rfl, hr7, hf7, hm7⟩
            have HP7 := Lib.hid (HP6.out.right hr7 hf7 hm7)
            have HV7 := Lib.hid (HV6.out.fr hf7 (fun x hx _ => by
              have e' : x = rb := hx
              subst e'
              exact ⟨_, _, HP6.out.ri.2.1, by decide⟩))
            have CL := Lib.hid (lawBroken_any p.id E wr w7 xv HV7.out HEC.out HI0.out HI1.out (HP7.out.bi.gl HG3.out).pow (HP7.out.bi.gl HG3.out).err)
            obtain ⟨D7, dm7, dk7, q0, q1, q2, q3, q4, hsl7⟩ := HPC.out w7 HP7.out.bi.fr
            have t9 : (Bq == Bq) = true := by cases Bq <;> rfl
            clear hr7 hf7 hm7 CR hsl7
            go_wp2_with fail
            clear q0 q1 q2 q3 q4 t9
            refine CL.out.mono ?_; rintro e w8 ⟨rfl, hf8⟩
            have HPI' := Lib.hid (HP7.out.fr0 hf8)
            clear hf8 CL HPI HP5 HP6 HP7
            have HPI := HPI'
            clear HPI'
            obtain ⟨sn, hsn⟩ : ∃ sn, s.add p = sn := ⟨_, rfl⟩
            rw [hsn] at HPI HIDX
            clear hsn
            -- Next, and what is there
            have CN := Lib.hid (next_any HPI.out.bi.bd)
            have hrt0 := HPI.out.ri.2.1
            go_wp2_with fail
            refine CN.out.mono ?_; rintro e w21 ⟨rfl, hf21⟩
            replace HPI := Lib.hid (HPI.out.fr0 hf21)
            have hk21 := HPI.out.ri.2.1
            obtain ⟨R7, rc7, hr7, _, _⟩ := HPI.out.ri.2.2.slice
            rw [hr7] at hk21
            have x0 := hk21.cell 0
            have x3 := hk21.cell 3
            have b1 : (sn.id != sn.id) = false := by simp
            have b2 : ((sn.data.length : Int) != (sn.data.length : Int)) = false := by simp
            have HSZ := Lib.hid hr7
            clear hrt0 hf21 hk21 hr7 CN
            go_wp2
            refine ⟨⟨j + 1, sn, _, _, _, by simp, rfl, by omega, HPI, HIDX⟩, ?_⟩
            first | omega | (show _ < _; simp [intOf]; omega)
      · obtain rfl : j = n := by omega
        go_wp2
        go_ret
        exact ⟨rfl, FW3.out.trans HPI.out.bi.fr (fun x hx h => by have h1 := FW3.out.size; have h2 := HBS.out; have h' : B ≤ x := h; omega)⟩
end Go.Proofs.YtacafjbbdklleaaDoor
