/- event: Check. -/
import Derived.Test.YtkinbcmnfpkncaaDoorMi
namespace Go.Proofs.YtkinbcmnfpkncaaDoor
open Go.RowKit Go.Maps

theorem wordW_zero : wordW 0 = ⟨#[]⟩ := rfl
theorem wordW_ne {c : Nat} (h : c ≠ 0) : (!(wordW c).toList.isEmpty) = true := by
  unfold wordW
  split
  · exact absurd rfl h
  all_goals first | kernel_rfl | simp [wTask, wId, ByteArray.toList, ByteArray.toList.loop] | decide +kernel
/-- What Check answers. -/
def BrkE (w w' : World) (v : Value) (r : Option (Nat × Nat)) : Prop := match r with
  | none => v = .nilIface
  | some (p, c) => ∃ g, v = .iface 113 (.pointer (some ⟨g, 0, none⟩)) ∧ Bk w' g 119 #[.int .i64 (p : Int), .string (wordW c), .iface 27 (.int .i64 8)] ∧ w.heap.size ≤ g
theorem BrkE.fr0 {w w' w2 : World} {v : Value} {r : Option (Nat × Nat)} (h : BrkE w w' v r) (hf : Fr (fun _ => False) w' w2) : BrkE w w2 v r := by
  unfold BrkE at h ⊢
  cases r with
  | none => exact h
  | some x =>
    obtain ⟨g, e, hb, hl⟩ := h
    exact ⟨g, e, hb.fr hf (fun h => h), hl⟩
def evs (ps : List VL) : List Ev := ps.map VL.e
/-- The book behind the first k events. -/
def bookK (ps : List VL) (k : Nat) : Bo := ((evs ps).take k).foldl Bo.add Bo.new
theorem bookK_zero (ps : List VL) : bookK ps 0 = Bo.new := by unfold bookK; simp
theorem bookK_succ {ps : List VL} {k : Nat} (h : k < ps.length) : bookK ps (k + 1) = (bookK ps k).add (ps.getD k default).e := by
  unfold bookK evs
  rw [List.take_add_one, List.getElem?_map, List.getElem?_eq_getElem h]
  simp [List.getD, h]
theorem count_add (b : Bo) (e : Ev) : (b.add e).count = b.count + 1 := rfl
theorem bookK_count (ps : List VL) : ∀ k, k ≤ ps.length → (bookK ps k).count = k
  | 0, _ => by rw [bookK_zero]; rfl
  | k + 1, h => by rw [bookK_succ (by omega), count_add, bookK_count ps k (by omega)]
theorem check_at {ps : List VL} {k : Nat} (h : k < ps.length) : (bookK ps k).check ((evs ps).drop k) = if (bookK ps k).misfit (ps.getD k default).e ≠ 0 then some (k + 1, (bookK ps k).misfit (ps.getD k default).e) else (bookK ps (k + 1)).check ((evs ps).drop (k + 1)) := by
  have hl : k < (evs ps).length := by unfold evs; simpa using h
  rw [List.drop_eq_getElem_cons hl]
  rw [Bo.check, bookK_count ps k (by omega)]
  have e : (evs ps)[k] = (ps.getD k default).e := by simp only [evs, List.getElem_map]; simp [List.getD, h]
  rw [e, bookK_succ h]

set_option maxRecDepth 100000 in
set_option maxHeartbeats 8000000 in
theorem check_any (A : Option Addr) (n c : Nat) (ps : List VL) (F : Nat → Prop) (w : World) (h : Vs w A n ps F) (hn : n ≤ 1048576) :
    Calls Tryd.prog 25 #[.slice A n c] w fun e w' => ∃ v, e = .returned v ∧ BrkE w w' v (Bo.new.check (evs ps)) ∧ Fr (fun _ => False) w w' := by
  have HN := Lib.hid (newBook_any w)
  obtain ⟨R, hR⟩ : ∃ R, Bo.new.check (evs ps) = R := ⟨_, rfl⟩
  rw [hR]
  have H0 : Hid ((bookK ps 0).check ((evs ps).drop 0) = R) := Lib.hid (by rw [bookK_zero]; simpa using hR)
  have HL := Lib.hid h.len
  have HVS := Lib.hid h
  have hnI : (n : Int) ≤ 1048576 := by omega
  clear hR h
  go_enter Tryd.func25, Tryd.ntmps25
  go_wp2_with fail
  refine HN.out.mono ?_; rintro e w1 ⟨g, bo, bu, rfl, hb1, hf1, hg1⟩
  have HB1 := Lib.hid hb1
  have HF1 := Lib.hid hf1
  have HG1 := Lib.hid hg1
  clear hb1 hf1 hg1 HN
  go_wp2_with fail
  go_loopw [10] (fun i wr => ∃ (k : Nat), i = .int .i64 (k : Int) ∧ k ≤ n ∧ Hid ((bookK ps k).check ((evs ps).drop k) = R ∧ Book wr g bo bu (bookK ps k) ∧ Fr (fun _ => False) w wr)) (fun i _ => n - (intOf i).toNat)
  case atStart => exact ⟨0, rfl, Nat.zero_le _, ⟨H0.out, by rw [bookK_zero]; exact HB1.out, HF1.out⟩⟩
  case round =>
    obtain ⟨k, rfl, hk, HK⟩ := hrel
    clear H0 HB1 HF1
    have hk0 : (0 : Int) ≤ (k : Int) := by omega
    by_cases hlt : k < n
    · have hlt' : (k : Int) < n := by omega
      have hkI : (k : Int) ≤ 1048576 := by omega
      obtain ⟨b, off, rfl, -, hcs, hrd⟩ := (HVS.out.fr0 HK.out.2.2).at hlt
      have hnx := check_at (ps := ps) (k := k) (by rw [HL.out]; exact hlt)
      have hsu := bookK_succ (ps := ps) (k := k) (by rw [HL.out]; exact hlt)
      have hct := bookK_count ps k (by rw [HL.out]; exact hk)
      generalize ps.getD k default = p at *
      have hrel := HK.out.1.symm.trans hnx
      have HBK := Lib.hid HK.out.2.1
      have HFK := Lib.hid HK.out.2.2
      have HOK := Lib.hid hrd.ok
      generalize bookK ps k = bk at *
      have CM := Lib.hid (fun w' (hf : Fr (fun _ => False) wr w') => misfit_any (HBK.out.fr0 hf) p hrd.ok)
      have CA := Lib.hid (fun w' (hf : Fr (fun _ => False) wr w') => add_any (HBK.out.fr0 hf) p hrd.ok (by omega))
      have HC0 : Hid (∀ w', Fr (fun _ => False) wr w' → w'.cell? ⟨g, 0, none⟩ = some (.int .i64 (k : Int))) := Lib.hid (fun w' hf => by
        obtain ⟨Do, Du, hb⟩ := HBK.out.fr0 hf
        have := hb.blk.cell 0
        rw [hct] at this
        exact this)
      have hv : p.val = .agg #[.int .i64 p.e.k, .int .i64 p.e.a, .int .i64 p.e.r, .int .i64 p.e.i, .int .i64 p.e.l, .int .i64 p.e.n, .slice p.A p.e.d.length p.c] := rfl
      rw [hv] at CM CA
      have q0 : wr.cell? ⟨b, off + k * 7, none⟩ = some (.int .i64 p.e.k) := hcs 0 _ rfl
      have q1 : wr.cell? ⟨b, off + k * 7 + 1, none⟩ = some (.int .i64 p.e.a) := hcs 1 _ rfl
      have q2 : wr.cell? ⟨b, off + k * 7 + 2, none⟩ = some (.int .i64 p.e.r) := hcs 2 _ rfl
      have q3 : wr.cell? ⟨b, off + k * 7 + 3, none⟩ = some (.int .i64 p.e.i) := hcs 3 _ rfl
      have q4 : wr.cell? ⟨b, off + k * 7 + 4, none⟩ = some (.int .i64 p.e.l) := hcs 4 _ rfl
      have q5 : wr.cell? ⟨b, off + k * 7 + 5, none⟩ = some (.int .i64 p.e.n) := hcs 5 _ rfl
      have q6 : wr.cell? ⟨b, off + k * 7 + 6, none⟩ = some (.slice p.A p.e.d.length p.c) := hcs 6 _ rfl
      have HSU := Lib.hid hsu
      have w1 : IntKind.i64.wrap ((k : Int) + 1) = (k : Int) + 1 := IntWalk.i64_in _ (by omega)
      have hbsz := World.block_lt_of_cell? wr _ q0
      clear hcs hrd hv hnx hsu hct HK
      obtain ⟨mf, hmf⟩ : ∃ mf, bk.misfit p.e = mf := ⟨_, rfl⟩
      rw [hmf] at CM hrel
      clear hmf
      obtain ⟨bn, hbn⟩ : ∃ bn, bk.add p.e = bn := ⟨_, rfl⟩
      rw [hbn] at CA HSU
      clear hbn
      generalize p.e.k = ek at *
      generalize p.e.a = ea at *
      generalize p.e.r = er at *
      generalize p.e.i = ei at *
      generalize p.e.l = el at *
      generalize p.e.n = en at *
      generalize p.e.d.length = ed at *
      generalize p.A = pA at *
      generalize p.c = pc at *
      obtain ⟨gw, hgw⟩ : ∃ gw, wr.heap.size = gw := ⟨_, rfl⟩
      obtain ⟨W, hW⟩ : ∃ W, wr.alloc (.cells #[.int .i64 ek, .int .i64 ea, .int .i64 er, .int .i64 ei, .int .i64 el, .int .i64 en, .slice pA ed pc] 75) = W := ⟨_, rfl⟩
      have FW : Hid (Fr (fun _ => False) wr W) := Lib.hid (by rw [← hW]; exact (Fr.refl _ _).alloc _)
      have KW : Hid (Bk W gw 75 #[.int .i64 ek, .int .i64 ea, .int .i64 er, .int .i64 ei, .int .i64 el, .int .i64 en, .slice pA ed pc]) := Lib.hid (by rw [← hW, ← hgw]; exact Bk.new _ _ _)
      have m0 : W.cell? ⟨gw, 0, none⟩ = some (.int .i64 ek) := KW.out.cell 0
      have m1 : W.cell? ⟨gw, 1, none⟩ = some (.int .i64 ea) := KW.out.cell 1
      have m2 : W.cell? ⟨gw, 2, none⟩ = some (.int .i64 er) := KW.out.cell 2
      have m3 : W.cell? ⟨gw, 3, none⟩ = some (.int .i64 ei) := KW.out.cell 3
      have m4 : W.cell? ⟨gw, 4, none⟩ = some (.int .i64 el) := KW.out.cell 4
      have m5 : W.cell? ⟨gw, 5, none⟩ = some (.int .i64 en) := KW.out.cell 5
      have m6 : W.cell? ⟨gw, 6, none⟩ = some (.slice pA ed pc) := KW.out.cell 6
      have HREL := Lib.hid hrel
      clear hrel
      go_wp2_with fail
      clear hW hgw q0 q1 q2 q3 q4 q5 q6 m0 m1 m2 m3 m4 m5 m6
      refine (CM.out _ FW.out).mono ?_; rintro e w2 ⟨rfl, hf2⟩
      have HF2 := Lib.hid (FW.out.trans hf2 (fun _ _ h => h))
      have HF2W := Lib.hid hf2
      clear hf2 CM
      by_cases hm : mf = 0
      · subst hm
        have hs0 : wordW 0 = ⟨#[]⟩ := rfl
        have hs1 : ((⟨#[]⟩ : ByteArray) != ⟨#[]⟩) = false := by decide
        rw [hs0]
        have K2 := KW.out.fr HF2W.out (fun h => h)
        have m0 : w2.cell? ⟨gw, 0, none⟩ = some (.int .i64 ek) := K2.cell 0
        have m1 : w2.cell? ⟨gw, 1, none⟩ = some (.int .i64 ea) := K2.cell 1
        have m2 : w2.cell? ⟨gw, 2, none⟩ = some (.int .i64 er) := K2.cell 2
        have m3 : w2.cell? ⟨gw, 3, none⟩ = some (.int .i64 ei) := K2.cell 3
        have m4 : w2.cell? ⟨gw, 4, none⟩ = some (.int .i64 el) := K2.cell 4
        have m5 : w2.cell? ⟨gw, 5, none⟩ = some (.int .i64 en) := K2.cell 5
        have m6 : w2.cell? ⟨gw, 6, none⟩ = some (.slice pA ed pc) := K2.cell 6
        clear K2
        go_wp2_with fail
        clear m0 m1 m2 m3 m4 m5 m6
        refine (CA.out _ HF2.out).mono ?_; rintro e w3 ⟨rfl, hb3, hf3⟩
        have HB3 := Lib.hid hb3
        have HF3 : Hid (Fr (fun _ => False) w w3) := Lib.hid ((HFK.out.trans HF2.out (fun _ _ h => h)).trans hf3 (fun x hx e => by
          rcases e with e | e | e
          · have := HG1.out x (.inl e); omega
          · have := HG1.out x (.inr (.inl e)); omega
          · have := HG1.out x (.inr (.inr e)); omega))
        clear hb3 hf3 CA
        go_wp2
        go_roundw
        case rel => exact ⟨k + 1, by first | rfl | (go_num; done) | (congr 1; omega), by omega, ⟨by rw [HREL.out]; simp, by rw [HSU.out]; exact HB3.out, HF3.out⟩⟩
        case measure => (simp [intOf]) <;> omega
      · obtain ⟨s, hs⟩ : ∃ s, wordW mf = s := ⟨_, rfl⟩
        have hs1 : (!s.toList.isEmpty) = true := by rw [← hs]; exact wordW_ne hm
        rw [hs]
        have HM := Lib.hid hm
        have HS := Lib.hid hs
        have c0 := HC0.out w2 HF2.out
        clear hs hm HC0 CA
        go_wp2
        go_ret
        refine ⟨_, rfl, ?_, (HFK.out.trans HF2.out (fun _ _ h => h)).trans ((Fr.refl (fun _ => False) _).alloc _) (fun _ _ h => h)⟩
        rw [HREL.out, if_pos HM.out]
        have hz := (HFK.out.trans HF2.out (fun _ _ h => h)).size
        exact ⟨w2.heap.size, rfl, by rw [HS.out]; exact Bk.new _ _ _, hz⟩
    · obtain rfl : k = n := by omega
      have hd : (evs ps).drop k = [] := by rw [← HL.out]; unfold evs; simp
      have hr := HK.out.1
      rw [hd] at hr
      have HR := Lib.hid hr
      have HF := Lib.hid HK.out.2.2
      clear hd hr HK hlt
      go_wp2
      go_ret
      refine ⟨_, rfl, ?_, HF.out⟩
      rw [← HR.out]; rfl
end Go.Proofs.YtkinbcmnfpkncaaDoor
