/- event: Open; how much is open. -/
import Derived.Test.YtbopmboigcdjpaaDoorMs
namespace Go.Proofs.YtbopmboigcdjpaaDoor
open Go.RowKit Go.Maps

/-! ### how much is open -/
def stepK (k : Int) : Int := if k = 7 ∨ k = 12 ∨ k = 17 then 1 else if k = 9 ∨ k = 10 ∨ k = 11 ∨ k = 13 ∨ k = 14 ∨ k = 18 then -1 else 0
def cntO : List Ev → Int
  | [] => 0
  | e :: l => stepK e.k + cntO l
theorem cntO_snoc (l : List Ev) (e : Ev) : cntO (l ++ [e]) = cntO l + stepK e.k := by
  induction l with
  | nil => simp [cntO]
  | cons a l ih => simp only [List.cons_append, cntO, ih]; omega
def cU (u : List (Int × Int)) : Nat := u.countP (fun t => t.1 != 2)
theorem cU_erase {u : List (Int × Int)} {t : Int × Int} (ht : t ∈ u) : (cU (u.erase t) : Int) = cU u - (if t.1 = 2 then 0 else 1) := by
  unfold cU
  induction u with
  | nil => cases ht
  | cons a u ih =>
    by_cases e : a = t
    · subst e
      rw [List.erase_cons_head, List.countP_cons]
      by_cases h2 : a.1 = 2 <;> simp [h2]
    · rw [List.erase_cons_tail (by simpa using e), List.countP_cons, List.countP_cons]
      rcases List.mem_cons.1 ht with h | h
      · exact absurd h.symm e
      · have := ih h
        omega
theorem used_kind {l : List Ev} {b : Bo} (I : Inv l b) {t : Int × Int} (ht : t ∈ b.used) : t.1 = 2 ∨ t.1 = 7 ∨ t.1 = 12 ∨ t.1 = 17 := by
  by_cases h : t.1 = 2
  · exact .inl h
  · obtain ⟨p, h1, _, h3⟩ := (I.uId t.1 t.2 h).1 ht
    have := open_kind h3
    omega
theorem Hist.count {l : List Ev} {b : Bo} (h : Hist l b) : (cU b.used : Int) = cntO l := by
  induction h with
  | nil => rfl
  | @snoc l b e hh hf ih =>
    have I := hh.inv
    obtain ⟨hr, _, _, _, hl⟩ := misfit_zero hf
    obtain ⟨lz1, lz2⟩ := lacks_zero hl
    obtain ⟨a2, a3, a7, a8, a12, a17, a0⟩ := ask_of e.k
    rw [cntO_snoc, ← ih]
    simp only [Bo.add]
    by_cases ho : opensK e.k = true
    · have hk := (opens_of _).1 ho
      have ha : askK e.k = 0 := by rcases hk with h | h | h | h <;> simp [askK, h]
      have hn := (lz2 ha).2 ho
      rw [if_pos ho, if_neg hn]
      unfold cU
      rw [List.countP_cons]
      by_cases k2 : e.k = 2
      · have ht : thingOf e = (2, 0) := by unfold thingOf; rw [if_pos k2]
        rw [ht, k2]; simp [stepK]
      · have ht : thingOf e = (e.k, e.i) := by unfold thingOf; rw [if_neg k2]
        have hs : stepK e.k = 1 := by unfold stepK; rw [if_pos (by omega)]
        rw [ht, hs]; simp [k2]
    · rw [if_neg ho]
      have hno : ¬ (e.k = 7 ∨ e.k = 12 ∨ e.k = 17) := fun h => ho ((opens_of _).2 (.inr h))
      by_cases h38 : e.k = 3 ∨ e.k = 8
      · rw [if_pos h38]
        have hs : stepK e.k = 0 := by unfold stepK; rw [if_neg hno, if_neg (by omega)]
        rw [hs]; omega
      · rw [if_neg h38]
        rcases a0 with a | a | a | a | a | a | a
        · have hs : stepK e.k = 0 := by
            unfold stepK
            rw [if_neg hno, if_neg]
            rintro (h | h | h | h | h | h) <;> rw [h] at a <;> simp [askK] at a
          rw [I.opn0 hl a, hs]
          have : ((Sta.none.tk, Sta.none.ti) : Int × Int) ∉ b.used := fun hm => by have := used_kind I hm; simp [Sta.none] at this
          rw [List.erase_of_not_mem this]; omega
        · exact absurd (a2.1 a) (fun h => h38 (.inl h))
        · have h3 := lz1 (by omega)
          have ht := I.t23 e.r (.inr (by omega))
          have htask := (I.j3 e.r).1 (by omega)
          have hm : ((b.opn e.r).tk, (b.opn e.r).ti) ∈ b.used := by rw [ht.1, ht.2, I.uTask, htask]; simp
          have hs : stepK e.k = 0 := by unfold stepK; have := a3.1 a; rw [if_neg hno, if_neg (by omega)]
          rw [cU_erase hm, hs, ht.1]; simp
        · exact absurd (a7.1 a) (fun h => h38 (.inr h))
        · have h8 : (b.opn e.r).k = 8 := by rw [lz1 (by omega)]; exact a
          have j := (I.j8 e.r).1 h8
          have t := I.t8 e.r h8
          have w := I.wk e.r j.1
          have hm : ((b.opn e.r).tk, (b.opn e.r).ti) ∈ b.used := by
            rw [t.1, t.2]; exact (I.uId 7 _ (by decide)).2 ⟨_, w.1, rfl, j.2⟩
          have hs : stepK e.k = -1 := by unfold stepK; have := a8.1 a; rw [if_neg hno, if_pos (by omega)]
          rw [cU_erase hm, hs, t.1]; simp; omega
        · have h12 : (b.opn e.r).k = 12 := by rw [lz1 (by omega)]; exact a
          have j := (I.j12 e.r).1 h12
          have t := I.t7 e.r (.inr (.inl h12))
          have hm : ((b.opn e.r).tk, (b.opn e.r).ti) ∈ b.used := by
            rw [t.1, t.2, h12]; exact (I.uId 12 _ (by decide)).2 ⟨_, j.1, rfl, j.2⟩
          have hs : stepK e.k = -1 := by unfold stepK; have := a12.1 a; rw [if_neg hno, if_pos (by omega)]
          rw [cU_erase hm, hs, t.1, h12]; simp; omega
        · have h17 : (b.opn e.r).k = 17 := by rw [lz1 (by omega)]; exact a
          have j := (I.j17 e.r).1 h17
          have t := I.t7 e.r (.inr (.inr h17))
          have hm : ((b.opn e.r).tk, (b.opn e.r).ti) ∈ b.used := by
            rw [t.1, t.2, h17]; exact (I.uId 17 _ (by decide)).2 ⟨_, j.1, rfl, j.2⟩
          have hs : stepK e.k = -1 := by unfold stepK; have := a17.1 a; rw [if_neg hno, if_pos (by omega)]
          rw [cU_erase hm, hs, t.1, h17]; simp; omega
theorem ids_len {u : List (Int × Int)} (hn : u.Nodup) {k : Int} {zs : List Int} (h : IdsOf u k zs) : zs.length = u.countP (fun t => t.1 == k) := by
  have h1 : zs.Nodup := h.1.imp (fun h e => by omega)
  have h2 : ((u.filter fun t => t.1 == k).map (·.2)).Nodup := by
    rw [List.nodup_iff_pairwise_ne, List.pairwise_map]
    refine ((hn.filter _).imp_of_mem ?_)
    intro a b ha hb hab e
    have e1 := (List.mem_filter.1 ha).2
    have e2 := (List.mem_filter.1 hb).2
    simp at e1 e2
    exact hab (Prod.ext (e1.trans e2.symm) e)
  have hp : zs.Perm ((u.filter fun t => t.1 == k).map (·.2)) := (List.perm_ext_iff_of_nodup h1 h2).2 (fun x => by
    rw [h.2 x, List.mem_map]
    constructor
    · intro hx; exact ⟨(k, x), List.mem_filter.2 ⟨hx, by simp⟩, rfl⟩
    · rintro ⟨⟨a, b⟩, hm, rfl⟩
      obtain ⟨hm1, hm2⟩ := List.mem_filter.1 hm
      simp at hm2; subst hm2; exact hm1)
  rw [hp.length_eq, List.length_map, List.countP_eq_length_filter]
theorem cU_split {u : List (Int × Int)} (h : ∀ t ∈ u, t.1 = 2 ∨ t.1 = 7 ∨ t.1 = 12 ∨ t.1 = 17) : cU u = u.countP (fun t => t.1 == 7) + u.countP (fun t => t.1 == 12) + u.countP (fun t => t.1 == 17) := by
  unfold cU
  induction u with
  | nil => rfl
  | cons a u ih =>
    have := ih (fun t ht => h t (List.mem_cons_of_mem _ ht))
    rw [List.countP_cons, List.countP_cons, List.countP_cons, List.countP_cons]
    rcases h a (List.mem_cons_self ..) with e | e | e | e <;> simp [e] <;> omega
/-- WHAT IS OPEN IS AS MUCH AS WAS OPENED, LESS WHAT WAS ENDED. -/
theorem open_count {l : List Ev} (h : Bo.new.check l = none) {a t c : List Int} (ha : IdsOf (bookOf l).used 7 a) (ht : IdsOf (bookOf l).used 12 t) (hc : IdsOf (bookOf l).used 17 c) : ((a.length : Int) + t.length + c.length) = cntO l := by
  have hh := hist_of h
  have I := hh.inv
  rw [← hh.count, ids_len I.nodup ha, ids_len I.nodup ht, ids_len I.nodup hc, cU_split (fun t ht => used_kind I ht)]
  omega

/-! ### Open -/
theorem bookK_all (ps : List VL) (n : Nat) (h : ps.length = n) : bookK ps n = bookOf (evs ps) := by
  unfold bookK bookOf; rw [List.take_of_length_le (by unfold evs; simp [h])]
set_option maxRecDepth 100000 in
set_option maxHeartbeats 8000000 in
theorem open_any (A : Option Addr) (n c : Nat) (ps : List VL) (F : Nat → Prop) (w : World) (h : Vs w A n ps F) (hn : n ≤ 1048576) :
    Calls Tryd.prog 14 #[.slice A n c] w fun e w' => ∃ va vt vc za zt zc, e = .returned (.tuple #[va, vt, vc]) ∧ IdsOf (bookOf (evs ps)).used 7 za ∧ IdsOf (bookOf (evs ps)).used 12 zt ∧ IdsOf (bookOf (evs ps)).used 17 zc ∧ IdR w' va za ∧ IdR w' vt zt ∧ IdR w' vc zc ∧ Fr (fun _ => False) w w' := by
  have HN := Lib.hid (newBook_any w)
  have HL := Lib.hid h.len
  have HVS := Lib.hid h
  have HALL := Lib.hid (bookK_all ps n h.len)
  have hnI : (n : Int) ≤ 1048576 := by omega
  clear h
  go_enter Tryd.func14, Tryd.ntmps14
  go_wp2_with fail
  refine HN.out.mono ?_; rintro e w1 ⟨g, bo, bu, rfl, hb1, hf1, hg1⟩
  have HB1 := Lib.hid hb1
  have HF1 := Lib.hid hf1
  have HG1 := Lib.hid hg1
  clear hb1 hf1 hg1 HN
  go_wp2_with fail
  go_loopw [11] (fun i wr => ∃ (k : Nat), i = .int .i64 (k : Int) ∧ k ≤ n ∧ Hid (Book wr g bo bu (bookK ps k) ∧ Fr (fun _ => False) w wr)) (fun i _ => n - (intOf i).toNat)
  case atStart => exact ⟨0, rfl, Nat.zero_le _, ⟨by rw [bookK_zero]; exact HB1.out, HF1.out⟩⟩
  case round =>
    obtain ⟨k, rfl, hk, HK⟩ := hrel
    clear HB1 HF1
    have hk0 : (0 : Int) ≤ (k : Int) := by omega
    by_cases hlt : k < n
    · have hlt' : (k : Int) < n := by omega
      have hkI : (k : Int) ≤ 1048576 := by omega
      obtain ⟨b, off, rfl, -, hcs, hrd⟩ := (HVS.out.fr0 HK.out.2).at hlt
      have hsu := bookK_succ (ps := ps) (k := k) (by rw [HL.out]; exact hlt)
      have hct := bookK_count ps k (by rw [HL.out]; exact hk)
      generalize ps.getD k default = p at *
      have HBK := Lib.hid HK.out.1
      have HFK := Lib.hid HK.out.2
      generalize bookK ps k = bk at *
      have CA := Lib.hid (fun w' (hf : Fr (fun _ => False) wr w') => add_any (HBK.out.fr0 hf) p hrd.ok (by omega))
      have hv : p.val = .agg #[.int .i64 p.e.k, .int .i64 p.e.a, .int .i64 p.e.r, .int .i64 p.e.i, .int .i64 p.e.l, .int .i64 p.e.n, .slice p.A p.e.d.length p.c] := rfl
      rw [hv] at CA
      have q0 : wr.cell? ⟨b, off + k * 7, none⟩ = some (.int .i64 p.e.k) := hcs 0 _ rfl
      have q1 : wr.cell? ⟨b, off + k * 7 + 1, none⟩ = some (.int .i64 p.e.a) := hcs 1 _ rfl
      have q2 : wr.cell? ⟨b, off + k * 7 + 2, none⟩ = some (.int .i64 p.e.r) := hcs 2 _ rfl
      have q3 : wr.cell? ⟨b, off + k * 7 + 3, none⟩ = some (.int .i64 p.e.i) := hcs 3 _ rfl
      have q4 : wr.cell? ⟨b, off + k * 7 + 4, none⟩ = some (.int .i64 p.e.l) := hcs 4 _ rfl
      have q5 : wr.cell? ⟨b, off + k * 7 + 5, none⟩ = some (.int .i64 p.e.n) := hcs 5 _ rfl
      have q6 : wr.cell? ⟨b, off + k * 7 + 6, none⟩ = some (.slice p.A p.e.d.length p.c) := hcs 6 _ rfl
      have HSU := Lib.hid hsu
      have w1 : IntKind.i64.wrap ((k : Int) + 1) = (k : Int) + 1 := IntWalk.i64_in _ (by omega)
      have hbsz := World.block_lt_of_cell? wr _ q0
      clear hcs hrd hv hsu hct HK
      obtain ⟨bn, hbn⟩ : ∃ bn, bk.add p.e = bn := ⟨_, rfl⟩
      rw [hbn] at CA HSU
      clear hbn
      generalize p.e.k = ek at *
      generalize p.e.a = ea at *
      generalize p.e.r = er at *
      generalize p.e.i = ei at *
      generalize p.e.l = el at *
      generalize p.e.n = en at *
      generalize p.e.d.length = ed at *
      generalize p.A = pA at *
      generalize p.c = pc at *
      obtain ⟨gw, hgw⟩ : ∃ gw, wr.heap.size = gw := ⟨_, rfl⟩
      obtain ⟨W, hW⟩ : ∃ W, wr.alloc (.cells #[.int .i64 ek, .int .i64 ea, .int .i64 er, .int .i64 ei, .int .i64 el, .int .i64 en, .slice pA ed pc] 47) = W := ⟨_, rfl⟩
      have FW : Hid (Fr (fun _ => False) wr W) := Lib.hid (by rw [← hW]; exact (Fr.refl _ _).alloc _)
      have KW : Hid (Bk W gw 47 #[.int .i64 ek, .int .i64 ea, .int .i64 er, .int .i64 ei, .int .i64 el, .int .i64 en, .slice pA ed pc]) := Lib.hid (by rw [← hW, ← hgw]; exact Bk.new _ _ _)
      have m0 : W.cell? ⟨gw, 0, none⟩ = some (.int .i64 ek) := KW.out.cell 0
      have m1 : W.cell? ⟨gw, 1, none⟩ = some (.int .i64 ea) := KW.out.cell 1
      have m2 : W.cell? ⟨gw, 2, none⟩ = some (.int .i64 er) := KW.out.cell 2
      have m3 : W.cell? ⟨gw, 3, none⟩ = some (.int .i64 ei) := KW.out.cell 3
      have m4 : W.cell? ⟨gw, 4, none⟩ = some (.int .i64 el) := KW.out.cell 4
      have m5 : W.cell? ⟨gw, 5, none⟩ = some (.int .i64 en) := KW.out.cell 5
      have m6 : W.cell? ⟨gw, 6, none⟩ = some (.slice pA ed pc) := KW.out.cell 6
      go_wp2_with fail
      clear hW hgw q0 q1 q2 q3 q4 q5 q6 m0 m1 m2 m3 m4 m5 m6
      refine (CA.out _ FW.out).mono ?_; rintro e w3 ⟨rfl, hb3, hf3⟩
      have HB3 := Lib.hid hb3
      have HF3 : Hid (Fr (fun _ => False) w w3) := Lib.hid ((HFK.out.trans FW.out (fun _ _ h => h)).trans hf3 (fun x hx e => by
        rcases e with e | e | e
        · have := HG1.out x (.inl e); omega
        · have := HG1.out x (.inr (.inl e)); omega
        · have := HG1.out x (.inr (.inr e)); omega))
      clear hb3 hf3 CA
      go_wp2
      go_roundw
      case rel => exact ⟨k + 1, by first | rfl | (go_num; done) | (congr 1; omega), by omega, ⟨by rw [HSU.out]; exact HB3.out, HF3.out⟩⟩
      case measure => (simp [intOf]) <;> omega
    · obtain rfl : k = n := by omega
      have hct := bookK_count ps k (by rw [HL.out]; exact Nat.le_refl _)
      have HBB : Hid (Book wr g bo bu (bookOf (evs ps))) := Lib.hid (by rw [← HALL.out]; exact HK.out.1)
      have hcc : (bookOf (evs ps)).count ≤ 1048576 := by rw [← HALL.out, hct]; exact hn
      have CI := Lib.hid (fun (kind : Int) (h : I64 kind) w' (hf : Fr (fun _ => False) wr w') => ids_any (HBB.out.fr0 hf) h hcc)
      have HF := Lib.hid HK.out.2
      clear HK hlt hct hcc HALL HBB
      go_wp2_with fail
      refine (CI.out 7 ⟨by decide, by decide⟩ _ (Fr.refl _ _)).mono ?_; rintro e w2 ⟨va, za, rfl, ia, ra, hf2⟩
      have HA := Lib.hid (And.intro ia ra)
      have HF2 := Lib.hid hf2
      clear ia ra hf2
      go_wp2_with fail
      refine (CI.out 12 ⟨by decide, by decide⟩ _ HF2.out).mono ?_; rintro e w3 ⟨vt, zt, rfl, it, rt, hf3⟩
      have HT := Lib.hid (And.intro it rt)
      have HF3 := Lib.hid hf3
      clear it rt hf3
      go_wp2_with fail
      refine (CI.out 17 ⟨by decide, by decide⟩ _ (HF2.out.trans HF3.out (fun _ _ h => h))).mono ?_; rintro e w4 ⟨vc, zc, rfl, ic, rc, hf4⟩
      have HC := Lib.hid (And.intro ic rc)
      have HF4 := Lib.hid hf4
      clear ic rc hf4 CI
      go_wp2
      refine bodyPost_ret (v := .tuple #[va, vt, vc]) (by simp [results, Tryd.results14, go_sem]) rfl ?_
      exact ⟨va, vt, vc, za, zt, zc, rfl, HA.out.1, HT.out.1, HC.out.1, (HA.out.2.fr0 HF3.out).fr0 HF4.out, HT.out.2.fr0 HF4.out, HC.out.2, ((HF.out.trans HF2.out (fun _ _ h => h)).trans HF3.out (fun _ _ h => h)).trans HF4.out (fun _ _ h => h)⟩

set_option maxRecDepth 100000 in
set_option maxHeartbeats 4000000 in
theorem rises_any (v : Value) (zs : List Int) (w : World) (h : IdR w v zs) (hr : zs.Pairwise (· < ·)) (hl : zs.length ≤ 1048576) : Calls Tryd.prog 26 #[v] w fun e w' => e = .returned (.bool true) ∧ Fr (fun _ => False) w w' := by
  obtain ⟨A, cap, rfl, hc⟩ := h
  obtain ⟨n, hn⟩ : ∃ n, zs.length = n := ⟨_, rfl⟩
  have HC : Hid (∀ k, 1 ≤ k → k < n → ∃ d x y, A = some ⟨d, 0, none⟩ ∧ (∀ m, (w.drewN m).cell? ⟨d, k, none⟩ = some (.int .i64 x)) ∧ (∀ m, (w.drewN m).cell? ⟨d, k - 1, none⟩ = some (.int .i64 y)) ∧ y < x) := Lib.hid (fun k h1 hk => by
    obtain ⟨d, e, hcc⟩ := hc (by omega)
    refine ⟨d, zs[k], zs[k - 1], e, fun m => ?_, fun m => ?_, ?_⟩
    · exact hcc k (by omega)
    · exact hcc (k - 1) (by omega)
    · exact List.pairwise_iff_getElem.1 hr (k - 1) k (by omega) (by omega) (by omega))
  rw [hn] at hl ⊢
  have hnI : (n : Int) ≤ 1048576 := by omega
  clear hc hr hn
  go_enter Tryd.func26, Tryd.ntmps26
  go_wp2_with fail
  go_loopw [3] (fun i wr => ∃ (k : Nat), i = .int .i64 (k : Int) ∧ 1 ≤ k ∧ k ≤ n + 1 ∧ Hid (∃ m, wr = w.drewN m)) (fun i _ => n + 1 - (intOf i).toNat)
  case atStart => exact ⟨1, rfl, by omega, by omega, ⟨0, rfl⟩⟩
  case round =>
    obtain ⟨k, rfl, hk1, hkn, HW⟩ := hrel
    have hk0 : (0 : Int) ≤ (k : Int) := by omega
    by_cases hlt : k < n
    · have hlt' : (k : Int) < n := by omega
      obtain ⟨d, x, y, rfl, cx, cy, hxy⟩ := HC.out k hk1 hlt
      obtain ⟨j, hj⟩ : ∃ j, k - 1 = j := ⟨_, rfl⟩
      rw [hj] at cy
      have w1 : IntKind.i64.wrap ((k : Int) - 1) = (j : Int) := by rw [IntWalk.i64_in _ (by omega)]; omega
      have w2 : IntKind.i64.wrap ((k : Int) + 1) = (k : Int) + 1 := IntWalk.i64_in _ (by omega)
      have d0 : decide (x ≤ y) = false := decide_eq_false (by omega)
      have hj0 : (0 : Int) ≤ (j : Int) := by omega
      have hjn : (j : Int) < (n : Int) := by omega
      have cx' : ∀ q, (wr.drewN q).cell? ⟨d, k, none⟩ = some (.int .i64 x) := fun _ => by obtain ⟨m, e⟩ := HW.out; subst e; exact cx 0
      have cy' : ∀ q, (wr.drewN q).cell? ⟨d, j, none⟩ = some (.int .i64 y) := fun _ => by obtain ⟨m, e⟩ := HW.out; subst e; exact cy 0
      have HJ := Lib.hid hj
      clear cx cy hxy hj
      go_wp2_with fail
      go_quiet (fail)
      go_wp2
      go_roundw
      case rel => exact ⟨k + 1, by first | rfl | (go_num; done) | (congr 1; omega), by omega, by omega, by obtain ⟨m, e⟩ := HW.out; exact ⟨m + nq, by rw [e]; simp [World.drewN, Nat.add_assoc]⟩⟩
      case measure => (simp [intOf]) <;> omega
    · have hlt' : ¬ (k : Int) < (n : Int) := by omega
      clear hlt
      go_wp2
      go_ret
      obtain ⟨m, e⟩ := HW.out
      exact ⟨rfl, by rw [e]; exact (Fr.refl _ _).drewN _⟩
end Go.Proofs.YtbopmboigcdjpaaDoor
