/- DedupWindow: the walk. -/
import Derived.Test.YtdfkoehcmgcoiaaJv
import Derived.Test.YtdfkoehcmgcoiaaJn
namespace Go.Proofs.Ytdfkoehcmgcoiaa
open Go.RowKit Go.Maps

/-- Over a map, a range under way. -/
def RngW (w : World) (b r n : Nat) (D : DataW Unit) (left : Lit → Bool) (cnt : Nat) : Prop := w.ranges Try.prog 3 (plainElem Try.prog 3) b r n D left cnt
theorem RngW.fr {S : Nat → Prop} {w w' : World} {b r n cnt : Nat} {D : DataW Unit} {left : Lit → Bool} (h : RngW w b r n D left cnt) (hf : Fr S w w') (hb : ¬ S b) (hr : ¬ S r) : RngW w' b r n D left cnt := by
  have h1 := World.ownsMap.lt (World.ranges.owns h)
  have h2 := World.ranges.lt h
  obtain ⟨es, clock, since, seen, c0, e1, e2, e3, e4, e5, rest⟩ := h
  exact ⟨es, clock, since, seen, c0, (hf.block b h1 hb).trans e1, e2, e3, e4, (hf.block r h2 hr).trans e5, rest⟩
theorem callW (args : Array Value) (W : World) : (callFunc 14 args).run Try.prog W = .ok (.enter 14 args) W := by
  go_simp
theorem take_snoc {α : Type} {l : List α} {i : Nat} (h : i < l.length) : l.take (i + 1) = l.take i ++ [l[i]] := by
  rw [List.take_add_one, List.getElem?_eq_getElem h]; rfl
/-- What the function has made by the i-th step. -/
def WinJ (t : DT) (nb okb : Nat) (W1 : World) (i : Nat) (W : World) : Prop :=
  Fr (fun k => k = nb ∨ k = okb) W1 W ∧ Bk W okb 4 #[.bool true] ∧ ∃ D m, AM W nb m D ∧ m ≤ i ∧ Cnt D (t.lst.take i)
theorem win_each {w0 w : World} {g nbx nb okb tb wb : Nat} {t : DT} {F : Nat → Prop} {win : Int} (hR : RunT w0 w g t F) (hwin : t.win = win)
    (hn : Bk w nbx 39 #[.map (some nb)]) (ho : Bk w okb 4 #[.bool true]) (ht : Bk w tb 25 #[.pointer (some ⟨g, 0, none⟩)]) (hw : Bk w wb 3 #[.int .i64 win]) (hm : AM w nb 0 (.map []))
    (hnF : ¬ F nb) (hoF : ¬ F okb) (hn0 : w0.heap.size ≤ nb) (ho0 : w0.heap.size ≤ okb) :
    EachW w F t 14 #[.pointer (some ⟨nbx, 0, none⟩), .pointer (some ⟨okb, 0, none⟩), .pointer (some ⟨tb, 0, none⟩), .pointer (some ⟨wb, 0, none⟩)] (fun k => k = nb ∨ k = okb) (WinJ t nb okb) (fun _ _ => False) := by
  refine ⟨callW, fun W1 hf => ⟨Fr.refl _ _, ho.fr hf (fun h => h), _, 0, AM.fr hm hf (fun h => h), Nat.le_refl _, by simpa using Cnt.start⟩, fun W1 i W hJ => hJ.1, ?_, ?_, ?_⟩
  · rintro k (rfl | rfl)
    · exact ⟨AM.lt hm, hnF⟩
    · exact ⟨ho.lt, hoF⟩
  · rintro W1 i W W' ⟨h1, h2, D, m, h3, h4, h5⟩ hf
    exact ⟨h1.trans hf (fun _ _ h => h.elim), h2.fr hf (fun h => h), D, m, AM.fr h3 hf (fun h => h), h4, h5⟩
  · rintro W1 hf1 i hi W ⟨h1, h2, D, m, h3, h4, h5⟩ A cap _ _
    have hi2 : t.lst.length ≤ 4294971392 := by rw [lst_len]; exact hR.ok.n_le
    have hmem : t.lst[i].1 ∈ t.cs ∧ t.lst[i].2 ∈ t.row t.lst[i].1 := mem_lst.1 (List.getElem_mem hi)
    have hcr := hR.ok.crng _ hmem.1
    have dn : ∀ {b : Nat} {T : TypeId} {cs : Array Value}, Bk w b T cs → T ≠ 4 → ¬ (b = nb ∨ b = okb) := fun hb hT => by
      rintro (e | e)
      · exact AM.ne hm hb e
      · exact Bk.ne hb ho hT e
    have hRW : RunT w0 W g t F := (hR.on0 hf1).on h1 (fun k e => by
      rcases e with rfl | rfl
      · exact ⟨hn0, hnF⟩
      · exact ⟨ho0, hoF⟩)
    refine (win1_any (c := t.lst[i].1) (s := t.lst[i].2) (l := t.lst.take i) (v := .slice A (t.ans t.lst[i].1 t.lst[i].2).length cap) ((hn.fr hf1 (fun h => h)).fr h1 (dn hn (by decide))) h2 ((ht.fr hf1 (fun h => h)).fr h1 (dn ht (by decide))) ((hw.fr hf1 (fun h => h)).fr h1 (dn hw (by decide)))
      hRW h3 h5 (by omega) (by rw [List.length_take]; omega) (I64.of (by omega) (by omega)) hwin hnF hoF (le_topR (hR.ok.rise _) _ hmem.2) (by rw [← hwin]; exact hR.ok.inw _ _ hmem.2)).mono ?_
    rintro e W' ⟨rfl, k1, k2, k3⟩
    refine ⟨true, rfl, fun _ => ⟨h1.trans k3 (fun _ _ h => h), k2, _, m + 1, k1, by omega, ?_⟩, fun h => by cases h⟩
    rw [take_snoc hi]
    exact h5.step (World.ownsMap.isMap h3) t.lst[i]
theorem cnt_lst {t : DT} (ok : t.ok) (c : Int) : cntL t.lst c = (t.row c).length := by
  have h := cntL_flat t c t.cs ok.csr
  have e : cntL t.lst c = cntL (t.cs.flatMap fun x => (t.row x).map fun s => (x, s)) c := rfl
  rw [e, h]
  by_cases hc : c ∈ t.cs
  · rw [if_pos hc]
  · rw [if_neg hc]
    have : t.row c = [] := Classical.byContradiction (fun hne => hc ((ok.cl c).2 hne))
    rw [this]; rfl
theorem Cnt.size {t : DT} {w : World} {b n : Nat} {D : DataW Unit} (h : AM w b n D) (hC : Cnt D t.lst) (ok : t.ok) : Maps.size D = t.cs.length := by
  obtain ⟨es, hD, hpw, _⟩ := World.ownsMap.entries h kInt
  obtain ⟨es', hD', hko⟩ := World.ownsMap.keysOf h
  obtain rfl : es = es' := by rw [hD] at hD'; simpa using hD'
  have hk : ∀ p ∈ es, ∃ x, p.1 = .int .i64 x ∧ I64 x := fun p hp => by
    obtain ⟨v, hv⟩ := hko p hp
    obtain ⟨x, _, hx, hw⟩ := Maps.keyOf_i64 Try.underlying3 hv
    exact ⟨x, hx, by
      have : (Lit.int .i64 x).wf = true := hw
      simp [Lit.wf, IntKind.min, IntKind.max, IntKind.signed, IntKind.bits] at this
      constructor <;> omega⟩
  have hm : ∀ x, x ∈ t.cs ↔ has D (.int .i64 x) = true := fun x => by
    constructor
    · intro hx
      have hr := ok.crng x hx
      rw [hC.has_ x (I64.of (by omega) (by omega)), cnt_lst ok]
      have := (ok.cl x).1 hx
      exact List.length_pos_iff.2 this
    · intro hx
      have hI : I64 x := by
        rw [hD, has_eq, List.any_eq_true] at hx
        obtain ⟨p, hp', hs⟩ := hx
        obtain ⟨a, ha, hI⟩ := hk p hp'
        rw [ha] at hs
        have : a = x := by simpa [Lit.sameKey] using hs
        exact this ▸ hI
      refine (ok.cl x).2 (fun e => ?_)
      have := (hC.has_ x hI).1 hx
      rw [cnt_lst ok, e] at this
      simp at this
  have hq := perm_intKeys (H := Unit) (es := es) hpw (fun p hp => (hk p hp).imp fun _ h => h.1) (ok.csr.imp (fun h e => by omega)) (by rw [← hD]; exact hm)
  have := hq.length_eq
  rw [this, hD]
  simp [Maps.size_eq, intKeys]

set_option maxRecDepth 100000 in
set_option maxHeartbeats 16000000 in
theorem window_any (win : Int) {A : Option Addr} {n cap : Nat} {f : Nat → Dc} {w : World} (h : Dcs w w.heap.size A n f) (hl : ∀ j, (f j).a.length ≤ 140737488355328) (hn : (n : Int) ≤ 9223372036854775807) :
    Calls Try.prog 5 #[.int .i64 win, .slice A n cap] w fun e w' => e = .returned (.bool true) ∧ Fr (fun _ => False) w w' := by
  have CK := Lib.hid (fun w' => known_any w')
  have CF := Lib.hid (fun (w' : World) (hf : Fr (fun _ => False) w w') => few_any (cap := cap) (h.fr hf (fun _ _ h => h)) hl hn)
  have H := Lib.hid h
  have HL := Lib.hid hl
  clear h hl
  obtain ⟨fb, hfb⟩ : ∃ fb, fewB n f = fb := ⟨_, rfl⟩
  rw [hfb] at CF
  clear hfb
  obtain ⟨wb, hwb⟩ : ∃ wb, w.heap.size = wb := ⟨_, rfl⟩
  obtain ⟨W, hW⟩ : ∃ W, w.alloc (.cells #[.int .i64 win] 3) = W := ⟨_, rfl⟩
  have KW : Hid (Bk W wb 3 #[.int .i64 win]) := Lib.hid (by rw [← hW, ← hwb]; exact Bk.new _ _ _)
  have FW : Hid (Fr (fun _ => False) w W) := Lib.hid (by rw [← hW]; exact (Fr.refl _ _).alloc _)
  cases fb with
  | false =>
    go_enter Try.func5, Try.ntmps5
    go_wp2_with fail
    clear hW hwb
    refine (CK.out W).mono ?_; rintro e w1 ⟨rfl, hf1⟩
    have HF1 := Lib.hid hf1
    clear hf1 CK
    go_wp2_with fail
    refine (CF.out w1 (FW.out.trans HF1.out (fun _ _ h => h))).mono ?_; rintro e w2 ⟨rfl, hf2⟩
    have HF2 := Lib.hid (HF1.out.trans hf2 (fun _ _ h => h))
    clear hf2 CF HF1
    have cw : w2.cell? ⟨wb, 0, none⟩ = some (.int .i64 win) := (KW.out.fr HF2.out (fun h => h)).cell 0
    go_wp2
    go_ret
    exact ⟨rfl, FW.out.trans HF2.out (fun _ _ h => h)⟩
  | true =>
    by_cases g0 : win < 1
    · have e0 : decide (win < 1) = true := decide_eq_true g0
      go_enter Try.func5, Try.ntmps5
      go_wp2_with fail
      clear hW hwb
      refine (CK.out W).mono ?_; rintro e w1 ⟨rfl, hf1⟩
      have HF1 := Lib.hid hf1
      clear hf1 CK
      go_wp2_with fail
      refine (CF.out w1 (FW.out.trans HF1.out (fun _ _ h => h))).mono ?_; rintro e w2 ⟨rfl, hf2⟩
      have HF2 := Lib.hid (HF1.out.trans hf2 (fun _ _ h => h))
      clear hf2 CF HF1
      have cw : w2.cell? ⟨wb, 0, none⟩ = some (.int .i64 win) := (KW.out.fr HF2.out (fun h => h)).cell 0
      go_wp2
      go_ret
      exact ⟨rfl, FW.out.trans HF2.out (fun _ _ h => h)⟩
    · have e0 : decide (win < 1) = false := decide_eq_false g0
      by_cases g1 : 50 < win
      · have e1 : decide (50 < win) = true := decide_eq_true g1
        go_enter Try.func5, Try.ntmps5
        go_wp2_with fail
        clear hW hwb
        refine (CK.out W).mono ?_; rintro e w1 ⟨rfl, hf1⟩
        have HF1 := Lib.hid hf1
        clear hf1 CK
        go_wp2_with fail
        refine (CF.out w1 (FW.out.trans HF1.out (fun _ _ h => h))).mono ?_; rintro e w2 ⟨rfl, hf2⟩
        have HF2 := Lib.hid (HF1.out.trans hf2 (fun _ _ h => h))
        clear hf2 CF HF1
        have cw : w2.cell? ⟨wb, 0, none⟩ = some (.int .i64 win) := (KW.out.fr HF2.out (fun h => h)).cell 0
        go_wp2
        go_ret
        exact ⟨rfl, FW.out.trans HF2.out (fun _ _ h => h)⟩
      · have e1 : decide (50 < win) = false := decide_eq_false g1
        have HW : Hid (1 ≤ win ∧ win ≤ 50) := Lib.hid (by omega)
        go_enter Try.func5, Try.ntmps5
        go_wp2_with fail
        clear hW hwb
        refine (CK.out W).mono ?_; rintro e w1 ⟨rfl, hf1⟩
        have HF1 := Lib.hid hf1
        clear hf1 CK
        go_wp2_with fail
        refine (CF.out w1 (FW.out.trans HF1.out (fun _ _ h => h))).mono ?_; rintro e w2 ⟨rfl, hf2⟩
        have HF2 := Lib.hid (HF1.out.trans hf2 (fun _ _ h => h))
        clear hf2 CF HF1
        have cw : w2.cell? ⟨wb, 0, none⟩ = some (.int .i64 win) := (KW.out.fr HF2.out (fun h => h)).cell 0
        have hmm := @run_makeMap Try.prog
        go_wp2_with fail
        clear g0 g1 e0 e1
        refine (RunT.made win W w2 HF2.out HW.out.1 (by have := HW.out.2; omega)).mono ?_; rintro e w3 ⟨g, F, rfl, h3, hlow⟩
        clear cw
        obtain ⟨tb, htb⟩ : ∃ tb, w3.heap.size = tb := ⟨_, rfl⟩
        obtain ⟨W3, hW3⟩ : ∃ W3, w3.alloc (.cells #[.pointer (some ⟨g, 0, none⟩)] 25) = W3 := ⟨_, rfl⟩
        have f3 : Fr (fun _ => False) w3 W3 := by rw [← hW3]; exact (Fr.refl _ _).alloc _
        have H3 := Lib.hid (h3.on0 f3)
        have KT : Hid (Bk W3 tb 25 #[.pointer (some ⟨g, 0, none⟩)]) := Lib.hid (by rw [← hW3, ← htb]; exact Bk.new _ _ _)
        have HTF : Hid (¬ F tb ∧ W.heap.size ≤ tb) := Lib.hid ⟨fun e => by have := h3.lt e; omega, by have h1 := h3.fr.size; omega⟩
        have ct : W3.cell? ⟨tb, 0, none⟩ = some (.pointer (some ⟨g, 0, none⟩)) := KT.out.cell 0
        clear h3 hlow f3 HF2
        have H4 : Hid (∃ t F', RunT W W3 g t F' ∧ t.win = win ∧ ¬ F' tb ∧ Bk W3 tb 25 #[.pointer (some ⟨g, 0, none⟩)]) := Lib.hid ⟨_, F, H3.out, rfl, HTF.out.1, KT.out⟩
        have HTW := Lib.hid HTF.out.2
        clear H3 KT HTF
        go_wp2_with fail
        clear hW3 htb ct
        go_loopw [7] (fun i wr => ∃ j : Nat, j ≤ n ∧ i = .int .i64 (j : Int) ∧ Hid (∃ t F', RunT W wr g t F' ∧ t.win = win ∧ ¬ F' tb ∧ Bk wr tb 25 #[.pointer (some ⟨g, 0, none⟩)])) (fun i _ => n - (intOf i).toNat)
        case atStart => exact ⟨0, Nat.zero_le _, rfl, H4⟩
        case round =>
          obtain ⟨j, hj, rfl, hq⟩ := hrel
          have hj0 : (0 : Int) ≤ (j : Int) := by omega
          by_cases hlt : j < n
          · have hj1 : (j : Int) < (n : Int) := by omega
            obtain ⟨t, F5, HR, HTWN, HNF, HBT⟩ := hq.out
            replace HR := Lib.hid HR
            replace HTWN := Lib.hid HTWN
            replace HNF := Lib.hid HNF
            replace HBT := Lib.hid HBT
            clear hq H4
            obtain ⟨b, o, B, m, rfl, hc⟩ := (H.out.fr (FW.out.trans HR.out.fr (fun _ _ h => h)) (fun _ _ h => h)) j hlt
            obtain ⟨p, hp⟩ : ∃ p, f j = p := ⟨_, rfl⟩
            rw [hp] at hc
            have HD := Lib.hid hc
            clear hc hp
            have HC : Hid (∀ w', Fr (fun _ => False) wr w' → w'.cell? ⟨b, o + j * 4 + 1, none⟩ = some (.int .i64 p.c) ∧ w'.cell? ⟨b, o + j * 4 + 2, none⟩ = some (.int .i64 p.s) ∧ w'.cell? ⟨b, o + j * 4 + 3, none⟩ = some (.slice B p.a.length m) ∧ w'.cell? ⟨tb, 0, none⟩ = some (.pointer (some ⟨g, 0, none⟩))) := Lib.hid (fun w' hf => by
              have := HD.out.fr hf (fun _ _ h => h)
              exact ⟨this.c1, this.c2, this.c3, (HBT.out.fr hf (fun h => h)).cell 0⟩)
            have CP := Lib.hid (fun (w' : World) (hf : Fr (fun _ => False) wr w') => (HR.out.on0 hf).putC HD.out.i1 HD.out.i2 (cap := m) (HD.out.rd.fr hf (fun _ _ _ h => h)) rfl HD.out.ln)
            have HW5 : Hid ((t.put p.c p.s p.a).win = win) := Lib.hid ((DT.put_win _ _ _).trans HTWN.out)
            obtain ⟨t', ht'⟩ : ∃ t', t.put p.c p.s p.a = t' := ⟨_, rfl⟩
            rw [ht'] at CP HW5
            generalize t.kind p.c p.s = kd at *
            obtain ⟨pn, hpn⟩ : ∃ pn, p.a.length = pn := ⟨_, rfl⟩
            rw [hpn] at HC CP
            generalize p.c = pc at *
            generalize p.s = ps at *
            have hw1 : IntKind.i64.wrap ((j : Int) + 1) = (j : Int) + 1 := IntWalk.i64_in _ (by omega)
            clear ht' hpn
            go_wp2_with fail
            refine wp_region_Z [16] (fun w' => Fr (fun _ => False) wr w') (by kernel_rfl) ((Fr.refl _ _).drew) (fun hHeld => ?_)
            refine anyZ_read (i := 0) (v := ?_) (some 42) [16] rfl rfl (by kernel_rfl) (by kernel_rfl) (by kernel_rfl) (by kernel_rfl) (by kernel_rfl) (by kernel_rfl) (fun _ _ _ h => h) (Or.inl ⟨by rfl, ?_⟩) hHeld ?_
            rotate_left
            · intro w' hSw
              obtain ⟨x1, x2, x3, x4⟩ := HC.out w' hSw
              go_simp
              first | done | with_reducible rfl
            try simp only [Act.put, List.setIfInBounds_toArray, List.set_cons_zero, List.set_cons_succ]
            refine anyZ_pure (i := 1) (v := ?_) (some 43) rfl rfl (by kernel_rfl) (by kernel_rfl) (by kernel_rfl) (by kernel_rfl) (fun _ _ _ h => h) (Or.inl ⟨by rfl, ?_⟩) (fun _ => hHeld) ?_
            rotate_left
            · intro w' _
              go_simp
              first | done | with_reducible rfl
            try simp only [Act.put, List.setIfInBounds_toArray, List.set_cons_zero, List.set_cons_succ]
            refine anyZ_pure (i := 2) (v := ?_) (some 44) rfl rfl (by kernel_rfl) (by kernel_rfl) (by kernel_rfl) (by kernel_rfl) (fun _ _ _ h => h) (Or.inl ⟨by rfl, ?_⟩) (fun _ => hHeld) ?_
            rotate_left
            · intro w' _
              go_simp
              first | done | with_reducible rfl
            try simp only [Act.put, List.setIfInBounds_toArray, List.set_cons_zero, List.set_cons_succ]
            refine anyZ_pure (i := 3) (v := ?_) (some 45) rfl rfl (by kernel_rfl) (by kernel_rfl) (by kernel_rfl) (by kernel_rfl) (fun _ _ _ h => h) (Or.inl ⟨by rfl, ?_⟩) (fun _ => hHeld) ?_
            rotate_left
            · intro w' _
              go_simp
              first | done | with_reducible rfl
            try simp only [Act.put, List.setIfInBounds_toArray, List.set_cons_zero, List.set_cons_succ]
            refine anyZ_pure (i := 4) (v := ?_) (some 46) rfl rfl (by kernel_rfl) (by kernel_rfl) (by kernel_rfl) (by kernel_rfl) (fun _ _ _ h => h) (Or.inl ⟨by rfl, ?_⟩) (fun _ => hHeld) ?_
            rotate_left
            · intro w' _
              go_simp
              first | done | with_reducible rfl
            try simp only [Act.put, List.setIfInBounds_toArray, List.set_cons_zero, List.set_cons_succ]
            refine anyZ_read (i := 5) (v := ?_) (some 47) [16] rfl rfl (by kernel_rfl) (by kernel_rfl) (by kernel_rfl) (by kernel_rfl) (by kernel_rfl) (by kernel_rfl) (fun _ _ _ h => h) (Or.inl ⟨by rfl, ?_⟩) hHeld ?_
            rotate_left
            · intro w' hSw
              obtain ⟨x1, x2, x3, x4⟩ := HC.out w' hSw
              go_simp
              first | done | with_reducible rfl
            try simp only [Act.put, List.setIfInBounds_toArray, List.set_cons_zero, List.set_cons_succ]
            refine anyZ_pure (i := 6) (v := ?_) (some 48) rfl rfl (by kernel_rfl) (by kernel_rfl) (by kernel_rfl) (by kernel_rfl) (fun _ _ _ h => h) (Or.inl ⟨by rfl, ?_⟩) (fun _ => hHeld) ?_
            rotate_left
            · intro w' _
              go_simp
              first | done | with_reducible rfl
            try simp only [Act.put, List.setIfInBounds_toArray, List.set_cons_zero, List.set_cons_succ]
            refine anyZ_pure (i := 7) (v := ?_) (some 49) rfl rfl (by kernel_rfl) (by kernel_rfl) (by kernel_rfl) (by kernel_rfl) (fun _ _ _ h => h) (Or.inl ⟨by rfl, ?_⟩) (fun _ => hHeld) ?_
            rotate_left
            · intro w' _
              go_simp
              first | done | with_reducible rfl
            try simp only [Act.put, List.setIfInBounds_toArray, List.set_cons_zero, List.set_cons_succ]
            refine anyZ_pure (i := 8) (v := ?_) (some 50) rfl rfl (by kernel_rfl) (by kernel_rfl) (by kernel_rfl) (by kernel_rfl) (fun _ _ _ h => h) (Or.inl ⟨by rfl, ?_⟩) (fun _ => hHeld) ?_
            rotate_left
            · intro w' _
              go_simp
              first | done | with_reducible rfl
            try simp only [Act.put, List.setIfInBounds_toArray, List.set_cons_zero, List.set_cons_succ]
            refine anyZ_pure (i := 9) (v := ?_) (some 51) rfl rfl (by kernel_rfl) (by kernel_rfl) (by kernel_rfl) (by kernel_rfl) (fun _ _ _ h => h) (Or.inl ⟨by rfl, ?_⟩) (fun _ => hHeld) ?_
            rotate_left
            · intro w' _
              go_simp
              first | done | with_reducible rfl
            try simp only [Act.put, List.setIfInBounds_toArray, List.set_cons_zero, List.set_cons_succ]
            refine anyZ_read (i := 10) (v := ?_) (some 52) [16] rfl rfl (by kernel_rfl) (by kernel_rfl) (by kernel_rfl) (by kernel_rfl) (by kernel_rfl) (by kernel_rfl) (fun _ _ _ h => h) (Or.inl ⟨by rfl, ?_⟩) hHeld ?_
            rotate_left
            · intro w' hSw
              obtain ⟨x1, x2, x3, x4⟩ := HC.out w' hSw
              go_simp
              first | done | with_reducible rfl
            try simp only [Act.put, List.setIfInBounds_toArray, List.set_cons_zero, List.set_cons_succ]
            refine anyZ_pure (i := 11) (v := ?_) (some 53) rfl rfl (by kernel_rfl) (by kernel_rfl) (by kernel_rfl) (by kernel_rfl) (fun _ _ _ h => h) (Or.inl ⟨by rfl, ?_⟩) (fun _ => hHeld) ?_
            rotate_left
            · intro w' _
              go_simp
              first | done | with_reducible rfl
            try simp only [Act.put, List.setIfInBounds_toArray, List.set_cons_zero, List.set_cons_succ]
            refine anyZ_pure (i := 12) (v := ?_) (some 54) rfl rfl (by kernel_rfl) (by kernel_rfl) (by kernel_rfl) (by kernel_rfl) (fun _ _ _ h => h) (Or.inl ⟨by rfl, ?_⟩) (fun _ => hHeld) ?_
            rotate_left
            · intro w' _
              go_simp
              first | done | with_reducible rfl
            try simp only [Act.put, List.setIfInBounds_toArray, List.set_cons_zero, List.set_cons_succ]
            refine anyZ_pure (i := 13) (v := ?_) (some 55) rfl rfl (by kernel_rfl) (by kernel_rfl) (by kernel_rfl) (by kernel_rfl) (fun _ _ _ h => h) (Or.inl ⟨by rfl, ?_⟩) (fun _ => hHeld) ?_
            rotate_left
            · intro w' _
              go_simp
              first | done | with_reducible rfl
            try simp only [Act.put, List.setIfInBounds_toArray, List.set_cons_zero, List.set_cons_succ]
            refine anyZ_pure (i := 14) (v := ?_) (some 56) rfl rfl (by kernel_rfl) (by kernel_rfl) (by kernel_rfl) (by kernel_rfl) (fun _ _ _ h => h) (Or.inl ⟨by rfl, ?_⟩) (fun _ => hHeld) ?_
            rotate_left
            · intro w' _
              go_simp
              first | done | with_reducible rfl
            try simp only [Act.put, List.setIfInBounds_toArray, List.set_cons_zero, List.set_cons_succ]
            refine anyZ_read (i := 15) (v := ?_) (some 57) [16] rfl rfl (by kernel_rfl) (by kernel_rfl) (by kernel_rfl) (by kernel_rfl) (by kernel_rfl) (by kernel_rfl) (fun _ _ _ h => h) (Or.inl ⟨by rfl, ?_⟩) hHeld ?_
            rotate_left
            · intro w' hSw
              obtain ⟨x1, x2, x3, x4⟩ := HC.out w' hSw
              go_simp
              first | done | with_reducible rfl
            try simp only [Act.put, List.setIfInBounds_toArray, List.set_cons_zero, List.set_cons_succ]
            refine anyZ_ready (rs := [16]) (by kernel_rfl) (by simp) ?_
            refine AllZ.last rfl (by kernel_rfl) (fun K hK => ?_) AllZ.nil
            go_simp
            refine (CP.out _ hHeld).mono ?_; rintro e w5 ⟨rfl, F6, R5, f5, n5⟩
            have HN5 : Hid (∃ t F', RunT W w5 g t F' ∧ t.win = win ∧ ¬ F' tb ∧ Bk w5 tb 25 #[.pointer (some ⟨g, 0, none⟩)]) := Lib.hid ⟨t', F6, R5, HW5.out, n5 tb (HBT.out.fr hHeld (fun h => h)).lt HNF.out, (HBT.out.fr hHeld (fun h => h)).fr f5 HNF.out⟩
            clear R5 f5 n5 CP
            try go_simp
            refine hK.out _ _ ?_
            clear hK K
            try change anyZ _ _ _ _ _ _ _ _ (Act.put _ (some 58) _) _
            try simp only [Act.put, List.setIfInBounds_toArray, List.set_cons_zero, List.set_cons_succ]
            refine anyZ_done (by kernel_rfl) ?_ _
            go_wp2
            go_roundw
            case rel => exact ⟨j + 1, by omega, by go_num, HN5⟩
            case measure => simp [intOf]; omega
          · obtain rfl : j = n := by omega
            obtain ⟨t, F5, HR, HTWN, HNF, HBT⟩ := hq.out
            clear hq H4 hlt hj
            obtain ⟨nb, hnb⟩ : ∃ nb, wr.heap.size = nb := ⟨_, rfl⟩
            obtain ⟨WA, hWA⟩ : ∃ WA, (wr.alloc (.map #[] 0)).alloc (.cells #[.map (some nb)] 39) = WA := ⟨_, rfl⟩
            obtain ⟨WB, hWB⟩ : ∃ WB, WA.alloc (.cells #[.bool true] 4) = WB := ⟨_, rfl⟩
            have sA : WA.heap.size = nb + 1 + 1 := by rw [← hWA, ← hnb]; simp
            obtain ⟨okb, hokb⟩ : ∃ okb, WA.heap.size = okb := ⟨_, rfl⟩
            have eok : okb = nb + 1 + 1 := by rw [← hokb, sA]
            have fA : Fr (fun _ => False) wr WA := by rw [← hWA]; exact ((Fr.refl _ _).alloc _).alloc _
            have fB : Fr (fun _ => False) WA WB := by rw [← hWB]; exact (Fr.refl _ _).alloc _
            have fAB := fA.trans fB (fun _ _ h => h)
            have kM : AM WB nb 0 (.map []) := by
              have h1 : AM (wr.alloc (.map #[] 0)) wr.heap.size 0 (.map []) := World.ownsMap_made _ _ _ _
              rw [hnb] at h1
              refine AM.fr (AM.fr (S := fun _ => False) (w' := WA) h1 ?_ (fun h => h)) fB (fun h => h)
              rw [← hWA]; exact (Fr.refl _ _).alloc _
            have kN : Bk WB (nb + 1) 39 #[.map (some nb)] := by
              have := Bk.new (wr.alloc (.map #[] 0)) 39 #[.map (some nb)]
              have h2 : (wr.alloc (.map #[] 0)).heap.size = nb + 1 := by rw [← hnb]; simp
              rw [h2, hWA] at this
              exact this.fr fB (fun h => h)
            have kO : Bk WB okb 4 #[.bool true] := by
              have := Bk.new WA 4 #[.bool true]
              rw [hokb, hWB] at this
              exact this
            have kT := HBT.fr fAB (fun h => h)
            have kW := (KW.out.fr HR.fr (fun h => h)).fr fAB (fun h => h)
            have hRB := HR.on0 fAB
            have hsz := HR.fr.size
            have hEW := win_each hRB HTWN kN kO kT kW kM (fun e => by have := HR.lt e; omega) (fun e => by have := HR.lt e; omega) (by omega) (by omega)
            have CE : Hid (Calls Try.prog 13 #[.pointer (some ⟨g, 0, none⟩), .func (.func 14) #[] #[.pointer (some ⟨nb + 1, 0, none⟩), .pointer (some ⟨okb, 0, none⟩), .pointer (some ⟨tb, 0, none⟩), .pointer (some ⟨wb, 0, none⟩)]] WB fun e w' => e = .returned (.tuple #[]) ∧ ∃ W1, Fr (fun _ => False) WB W1 ∧ (WinJ t nb okb W1 t.lst.length w' ∨ False)) := Lib.hid (by
              obtain ⟨ba, br, Da, Dr, hM⟩ := hRB.tb
              exact each_any hM HR.ok HR.sm hEW)
            have HRB := Lib.hid hRB
            have HTN := Lib.hid HTWN
            have KN := Lib.hid kN
            have KT := Lib.hid kT
            have KWB := Lib.hid kW
            have KO := Lib.hid kO
            have KM := Lib.hid kM
            have HNB := Lib.hid (show ¬ F5 nb ∧ ¬ F5 okb ∧ W.heap.size ≤ nb ∧ W.heap.size ≤ okb ∧ okb = nb + 1 + 1 from ⟨fun e => by have := HR.lt e; omega, fun e => by have := HR.lt e; omega, by omega, by omega, eok⟩)
            have ct : WB.cell? ⟨tb, 0, none⟩ = some (.pointer (some ⟨g, 0, none⟩)) := kT.cell 0
            have hmf : ∀ (fn : Fn) (first cap : Array Value) (w : World), (Instr.makeFunc fn first cap).run Try.prog w = .ok (.func fn first cap) w := fun _ _ _ _ => rfl
            clear HR HTWN HNF HBT sA eok fA fB fAB kM kN kO kT kW hRB hsz hEW
            go_wp2_with fail
            clear ct hWA hWB hnb hokb
            refine CE.out.mono ?_; rintro e w5 ⟨rfl, W1, hf1, hJ⟩
            replace hJ := hJ.resolve_right (fun h => h)
            obtain ⟨j1, j2, D, m, j3, j4, j5⟩ := hJ
            rw [List.take_length] at j5
            have dn : ∀ {b : Nat} {T : TypeId} {cs : Array Value}, Bk WB b T cs → T ≠ 4 → Bk w5 b T cs := fun hb hT => (hb.fr hf1 (fun h => h)).fr j1 (by
              rintro (e | e)
              · exact AM.ne KM.out hb e
              · exact Bk.ne hb KO.out hT e)
            have HR5 : Hid (RunT W w5 g t F5) := Lib.hid ((HRB.out.on0 hf1).on j1 (fun k e => by
              rcases e with rfl | rfl
              · exact ⟨HNB.out.2.2.1, HNB.out.1⟩
              · exact ⟨HNB.out.2.2.2.1, HNB.out.2.1⟩))
            have N5 := Lib.hid (dn KN.out (by decide))
            have T5 := Lib.hid (dn KT.out (by decide))
            have V5 := Lib.hid (dn KWB.out (by decide))
            have O5 := Lib.hid j2
            have hsz : Maps.size D = t.cs.length := Cnt.size j3 j5 HR5.out.ok
            have HSZ := Lib.hid hsz
            have HCN : Hid (∀ x, I64 x → D.atKey (.int .i64 x) (.lit (.int .i64 0)) = .lit (.int .i64 (cntL t.lst x : Nat)) ∧ ((cntL t.lst x : Nat) : Int) ≤ win) := Lib.hid (fun x hx => ⟨j5.at_ x hx, by rw [cnt_lst HR5.out.ok, ← HTN.out]; exact HR5.out.ok.len x⟩)
            have hc5 : w5.cell? ⟨nb + 1, 0, none⟩ = some (.map (some nb)) := N5.out.cell 0
            have HNLT := Lib.hid (AM.lt j3)
            clear dn hf1 j1 j2 j5 hsz CE HRB HTN KN KT KWB KO KM
            generalize cntL t.lst = cn at *
            go_wp2_with (first
              | (at_range; refine wpList_range_own _ rfl _ 39 rfl 3 3 kInt Try.underlying39 _ nb m _ rfl j3 ?_; intro w6 hrg6 hg6 hs6)
              | go_in)
            have hf6 : Fr (fun k => k = okb) w5 w6 := (Fr.of_grown hg6).mono (fun _ _ h => by simp at h)
            have O6 : Hid (Bk w6 okb 4 #[.bool true]) := Lib.hid (O5.out.fr (S := fun _ => False) ((Fr.of_grown hg6).mono (fun _ _ h => by simp at h)) (fun h => h))
            clear hc5 hg6 j3
            obtain ⟨r5, hr5⟩ : ∃ r5, w5.heap.size = r5 := ⟨_, rfl⟩
            rw [hr5] at hrg6 ⊢
            have HZ5 := Lib.hid hr5
            clear hr5
            have HZ6 : Hid (okb ≠ nb ∧ okb < r5) := Lib.hid ⟨by have := HNB.out.2.2.2.2; omega, by have := O5.out.lt; have := HZ5.out; omega⟩
            clear hs6
            go_frame
            go_loopw [11] (fun _ wr => ∃ (left : Lit → Bool) (cnt : Nat), RngW wr nb r5 m D left cnt ∧ Hid (Bk wr okb 4 #[.bool true] ∧ Fr (fun k => k = okb) w5 wr)) (fun _ wr => wr.rangeLeft nb r5)
            case atStart => exact ⟨_, _, hrg6, ⟨O6.out, hf6⟩⟩
            case round =>
              clear hrg6 hf6
              obtain ⟨left, cnt, hrg, hq⟩ := hrel
              go_wp2_with (first
                | (at_next; refine wpList_next_ranges_ii _ rfl _ rfl 3 3 .i64 .i64 kInt Try.underlying3 Try.underlying3 nb r5 m _ _ _ rfl hrg ?_ ?_)
                | go_in)
              · intro _ _
                have hown := World.ranges.owns hrg
                have hlen : ∀ ty, (Builtin.len_ #[39] ty #[.map (some nb)]).run Try.prog wr = .ok (.int .i64 (t.cs.length : Nat)) wr := fun ty => by
                  have := World.ownsMap.len hown Try.underlying39 ty
                  rw [HSZ.out] at this
                  exact this
                have nF : ¬ F5 okb := HNB.out.2.1
                have HR6 : Hid (RunT W wr g t F5) := Lib.hid (HR5.out.on hq.out.2 (fun k e => by subst e; exact ⟨HNB.out.2.2.2.1, nF⟩))
                have CC : Hid (Calls Try.prog 15 #[.pointer (some ⟨g, 0, none⟩)] wr fun e w' => ∃ A c, e = .returned (.slice A t.cs.length c) ∧ Fr (fun _ => False) wr w') := Lib.hid (by
                  obtain ⟨ba, br, Da, Dr, hM⟩ := HR6.out.tb
                  refine (clients_any hM HR6.out.ok.took0).mono ?_
                  rintro e w' ⟨v, rfl, h1, _, h3⟩
                  obtain ⟨A, c, rfl, _⟩ := h1.form
                  exact ⟨A, c, rfl, h3⟩)
                have q1 : wr.cell? ⟨okb, 0, none⟩ = some (.bool true) := hq.out.1.cell 0
                have q2 : wr.cell? ⟨nb + 1, 0, none⟩ = some (.map (some nb)) := (N5.out.fr hq.out.2 (by have := HNB.out.2.2.2.2; omega)).cell 0
                have q3 : wr.cell? ⟨tb, 0, none⟩ = some (.pointer (some ⟨g, 0, none⟩)) := (T5.out.fr hq.out.2 (Bk.ne T5.out O5.out (by decide))).cell 0
                clear hown hq hrg nF
                go_wp2_with fail
                refine CC.out.mono ?_; rintro e w7 ⟨A7, c7, rfl, hf7⟩
                have HF7 := Lib.hid hf7
                clear hf7
                go_wp2
                go_ret
                refine ⟨?_, FW.out.trans (HR6.out.fr.trans HF7.out (fun _ _ h => h)) (fun _ _ h => h)⟩
                simp
              · intro x c w8 cnt8 hwx hwc hlx hat hrg8 hlt hg8 hs8 hen
                have hI : I64 x := by
                  simp [Lit.wf, IntKind.min, IntKind.max, IntKind.signed, IntKind.bits] at hwx
                  constructor <;> omega
                have hc2 := (HCN.out x hI).1
                rw [hat] at hc2
                have hc3 : c ≤ win := by
                  have h1 : c = (cn x : Int) := by simpa using hc2
                  have := (HCN.out x hI).2
                  omega
                have d8 : decide (c ≤ win) = true := decide_eq_true hc3
                have f8 : Fr (fun k => k = r5) wr w8 := (Fr.of_grown hg8).mono (fun _ _ e => (Option.some.inj e).symm)
                have o8 := hq.out.1.fr f8 (fun e => by have := HZ6.out.2; omega)
                have O8 := Lib.hid o8
                have q1 : w8.cell? ⟨okb, 0, none⟩ = some (.bool true) := o8.cell 0
                have qf : w8.frozen? ⟨okb, 0, none⟩ = false := o8.frozen 0
                have f58 : Fr (fun k => k = okb) w5 w8 := hq.out.2.trans f8 (fun k hk e => by have := HZ5.out; omega)
                have F58 := Lib.hid f58
                have q2 : w8.cell? ⟨wb, 0, none⟩ = some (.int .i64 win) := (V5.out.fr f58 (Bk.ne V5.out O5.out (by decide))).cell 0
                clear hwx hwc hlx hat hg8 hs8 hI hc2 hc3 f8 o8 f58 hq
                go_wp2
                go_roundw
                case rel => exact ⟨_, cnt8, RngW.fr hrg8 (Bk.fr_set0 okb (.bool true)) (fun e => HZ6.out.1 e.symm) (fun e => by have := HZ6.out.2; omega), ⟨by simpa using O8.out.set 0 (.bool true), F58.out.trans (Bk.fr_set0 okb (.bool true)) (fun _ _ e => e)⟩⟩
                case measure => rw [World.ranges.left_eq (RngW.fr hrg8 (Bk.fr_set0 okb (.bool true)) (fun e => HZ6.out.1 e.symm) (fun e => by have := HZ6.out.2; omega)), World.ranges.left_eq hrg]; exact hlt
end Go.Proofs.Ytdfkoehcmgcoiaa
