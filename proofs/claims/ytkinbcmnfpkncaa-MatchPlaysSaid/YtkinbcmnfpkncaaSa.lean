/- match: Keep for a closure that draws; Clear. -/
import Derived.Test.YtkinbcmnfpkncaaRo
namespace Go.Proofs.Ytkinbcmnfpkncaa
open Go.RowKit Go.Maps Go.Shelf
attribute [local go_sem] Oper.semAt_some

set_option maxRecDepth 100000 in
set_option maxHeartbeats 4000000 in
theorem keepD_I {w : World} {g br : Nat} {F : Nat → Prop} {t : MT Int} {D : DV} (h : MtM 55 tP IV w g br F t D) (ok : t.ok) (hp : t.pushed ≤ 1000000) {c : Int} (hc : I64 c)
    {ff : FuncId} {lb : Array Value} (p : Int → Bool) (hcf : ∀ args W, (callFunc ff args).run Try.prog W = .ok (.enter ff args) W)
    (hf : ∀ w', Fr (fun _ => False) w w' → ∀ x ∈ t.row c, Calls Try.prog ff (#[.int .i64 x.2] ++ lb) w' fun e w'' => e = .returned (.bool (p x.2)) ∧ ∃ q, w'' = w'.drewN q) :
    Calls Try.prog 13 #[.pointer (some ⟨g, 0, none⟩), .int .i64 c, .func (.func ff) #[] lb] w fun e w' =>
      e = .returned (.int .i64 ((t.row c).length - ((t.row c).filter fun x => p x.2).length : Nat)) ∧ MtTo 55 tP IV w g F w' (t.drop c ((t.row c).filter fun x => p x.2)) := by
  obtain ⟨W1, hW1⟩ : ∃ W1, (w.alloc (.cells #[.func (.func ff) #[] lb] 38)).alloc (.cells #[.slice none 0 0] 43) = W1 := ⟨_, rfl⟩
  have hf1 : Fr (fun _ => False) w W1 := by rw [← hW1]; exact ((Fr.refl _ _).alloc _).alloc _
  have CR := Lib.hid (row_I (h.fr hf1 (fun _ _ h => h)) ok hc)
  refine (callsIn_wide (n := 9)).1 ?_
  refine callsIn_of_wp_marks Try.func13 rfl trivial ?_ rfl
  simp only [Try.ntmps13, List.size_toArray, List.length_cons, List.length_nil, Nat.reduceAdd, Nat.reduceSub, Array.replicate_succ, Array.replicate_zero, List.push_toArray, List.append_toArray, List.nil_append, List.cons_append]
  gi_wp2_with (refine ⟨trivial, ?_⟩; gi_at_call 31; refine (callsIn_wide.2 CR.out).mono ?_; rintro e w2 ⟨k, v, rfl, hs⟩)
  obtain ⟨r, hr⟩ : ∃ r, t.row c = r := ⟨_, rfl⟩
  rw [hr] at hs
  have hrl : r.length ≤ 1048576 := by rw [← hr]; have := ok.len c; have := ok.m2; omega
  have hs2 : w.heap.size + 2 ≤ w2.heap.size := by have h1 := hs.row.2.2.size; rw [← hW1] at h1; simp at h1; omega
  have hbF : Boxed w2 w.heap.size 38 (.func (.func ff) #[] lb) := by
    have h1 : Bk W1 w.heap.size 38 #[.func (.func ff) #[] lb] := by rw [← hW1]; exact (Bk.new _ _ _).alloc _
    exact h1.fr hs.row.2.2 (fun h => h)
  have hbO : Boxed w2 (w.heap.size + 1) 43 (.slice none 0 0) := by
    have h1 : Bk W1 (w.heap.size + 1) 43 #[.slice none 0 0] := by rw [← hW1]; have := Bk.new (w.alloc (.cells #[.func (.func ff) #[] lb] 38)) 43 #[.slice none 0 0]; simpa using this
    exact h1.fr hs.row.2.2 (fun h => h)
  have hB0 : Below w.heap.size w w2 := (hf1.trans hs.row.2.2 (fun _ _ h => h)).bel
  have hsl : Sl w2 2 v r.length (pcs IV r) := hs.row.1.sl
  have hvO : ∀ k, v.ownBlock = some k → w.heap.size + 2 ≤ k ∧ k < w2.heap.size := fun k hk => ⟨by have h1 := hs.row.2.1 k hk; rw [← hW1] at h1; simpa using h1, hs.row.1.lt hk⟩
  have HS := Lib.hid hs
  obtain ⟨N0, hN0⟩ : ∃ N0, w2.heap.size = N0 := ⟨_, rfl⟩
  rw [hN0] at hs2 hvO
  obtain ⟨I, hI⟩ : ∃ I : List (Fin r.length) → World → Prop, I = fun pre W => (((∃ ov, Boxed W (w.heap.size + 1) 43 ov ∧ W.ownsRow N0 3 1 ov (outs p r pre).length ((outs p r pre).map IV) ∧ True) ∧ Boxed W w.heap.size 38 (.func (.func ff) #[] lb)) ∧ N0 ≤ W.heap.size) ∧ Below w.heap.size w W := ⟨_, rfl⟩
  have HI : OwnFrom w2.heap.size I := by
    rw [hI]
    exact OwnFrom.and (OwnFrom.and (OwnFrom.and (Own.from (holdsRow_own N0 (w.heap.size + 1) 43 3 1 (fun pre => (outs p r pre).length) (fun pre => (outs p r pre).map IV) (fun _ _ => True)) _) (Own.from (boxed_own w.heap.size 38 (fun _ => Value.func (.func ff) #[] lb)) _)) (fun _ _ _ _ hs hg _ => Nat.le_trans hs hg.size)) (ownFrom_below (Nat.le_refl _) (by omega))
  have h0 : I [] w2 := by rw [hI]; exact ⟨⟨⟨⟨_, hbO, World.ownsRow_nil _ _ _ _, trivial⟩, hbF⟩, by omega⟩, hB0⟩
  have hseq := vals_stops 8 (by omega) k v r hrl w2 (hs.box.cell 0) hsl
  clear hs hbF hbO hB0 hsl
  refine wpIn_rangeFunc_ownH rfl (by omega) (gf := 51) (lb := #[.pointer (some ⟨k, 0, none⟩)]) rfl trivial (enters_of Try.func51 (by kernel_rfl) rfl)
    hseq KRow.t (fun W l o o' _ h ho _ => KRow.b _ _ W l o o' h ho) (Below.refl _ _) (fun _ => rfl)
    I (fun _ _ _ => False) HI (fun _ _ _ _ _ hs _ _ => hs) h0
    (fun x a' W => ∃ Bx, N0 ≤ Bx ∧ Bk W Bx 61 #[.int .i64 (r.get x).1, .int .i64 (r.get x).2] ∧ a' = { tmps := #[.pointer (some ⟨g, 0, none⟩), .int .i64 c, .func (.func ff) #[] lb, undef, undef, .pointer (some ⟨w.heap.size, 0, none⟩), .int .i64 0, .pointer (some ⟨w.heap.size + 1, 0, none⟩), .pointer (some ⟨Bx, 0, none⟩), .pointer (some ⟨g, 0, none⟩), .int .i64 c, SeqV k, PV (r.get x), undef, undef, undef, undef, undef, undef, undef, undef, undef, undef, undef, undef, undef, undef, undef, undef, undef, undef, undef, undef, undef, undef, undef], defers := [] })
    (fun x a' _ X Y row hs hg hr => by obtain ⟨Bx, h1, h2, h3⟩ := hs; exact ⟨Bx, h1, Bk.grown h2 hg (fun r e => (hr r e).2), h3⟩)
    ?assign ?body ?done ?stop
  case assign =>
    intro l pre x W K hi hK
    have hsz : N0 ≤ W.heap.size := by rw [hI] at hi; exact hi.1.2
    have hi2 := fun o => HI.alloc o hi
    clear hf hcf HI h0 hseq CR
    unfold PV at *
    gi_wp2
    exact hK _ _ ((KeepsOthers.alloc _ _).from _) (KRow.fr ((Fr.refl (fun _ => False) _).alloc _) (fun _ _ h => h)) (hi2 _) ⟨W.heap.size, hsz, Bk.new _ _ _, rfl⟩
  case body =>
    rintro l pre x a' W hl - hi ⟨Bx, hBx, bX, rfl⟩ hlt
    rw [hI] at hi
    obtain ⟨⟨⟨⟨ov, bO, hrow, -⟩, bF⟩, hsz⟩, hB⟩ := hi
    have c0 := bX.cell 0
    have c1 := bX.cell 1
    have cF := bF.cell
    have cO := bO.cell
    have zO := bO.frozen
    have hCF := hf W (frF hB) (r.get x) (by rw [hr]; exact List.get_mem _ _)
    simp only [List.getElem?_toArray, List.getElem?_cons_zero, List.getElem?_cons_succ] at c0 c1
    have hpl : (outs p r pre).length ≤ 1048576 := Nat.le_trans (outs_le p r pre) (by omega)
    obtain ⟨q, hq⟩ : ∃ q, r.get x = q := ⟨_, rfl⟩
    have hyes := outs_yes p r pre (x := x)
    have hno := outs_no p r pre (x := x)
    rw [hq] at c0 c1 hCF bX hyes hno
    rw [hq]
    obtain ⟨q1, q2⟩ := q
    simp only at c0 c1 hCF bX hyes hno
    unfold PV
    obtain ⟨i0, hi0, hz0, hz1, hz2⟩ := info_parts Try.infoInt
    clear hf HI h0 hseq CR hq
    have hKR : ∀ W', Fr (fun x => x = w.heap.size + 1 ∨ N0 ≤ x) W W' → KRow v r W W' := fun W' hfr => KRow.fr hfr (fun g' hg' e => by have := hvO g' hg'; rcases e with e | e <;> omega)
    have hFF : ∀ W', Fr (fun x => x = w.heap.size + 1 ∨ N0 ≤ x) W W' → Below w.heap.size w W' := fun W' hfr => hB.trans (hfr.below _ hB.size (fun y hy e => by rcases e with e | e <;> omega))
    have hbF2 : ∀ W', Fr (fun x => x = w.heap.size + 1 ∨ N0 ≤ x) W W' → Boxed W' w.heap.size 38 (.func (.func ff) #[] lb) := fun W' hfr => Bk.fr (t := 38) bF hfr (fun e => by rcases e with e | e <;> omega)
    rw [hI]
    cases hpq : p q2
    · rw [hpq] at hCF
      have hno := hno hpq
      clear hyes hI
      gi_wp2_with fail
      refine ⟨trivial, ?_⟩
      refine (CallsIn.inRound l (callsIn_wide.2 hCF)).mono ?_
      rintro e w3 ⟨rfl, q9, hq9⟩
      have hd : Fr (fun x => x = w.heap.size + 1 ∨ N0 ≤ x) W w3 := by rw [hq9]; exact (Fr.refl _ _).drewN _
      have hkk : KeepsOthers W w3 := by rw [hq9]; exact ⟨Nat.le_refl _, fun _ _ h _ => h⟩
      replace bO : Boxed w3 (w.heap.size + 1) 43 ov := by rw [hq9]; exact bO
      replace bX : Bk w3 Bx 61 #[.int .i64 q1, .int .i64 q2] := by rw [hq9]; exact bX
      replace hrow : w3.ownsRow N0 3 1 ov (outs p r pre).length ((outs p r pre).map IV) := by rw [hq9]; exact hrow
      clear hq9
      have hsz3 := Nat.le_trans hsz hd.size
      have c0 := bX.cell 0
      have c1 := bX.cell 1
      have cO := bO.cell
      have zO := bO.frozen
      simp only [List.getElem?_toArray, List.getElem?_cons_zero, List.getElem?_cons_succ] at c0 c1
      gi_wp2_with (gi_at_builtin; refine wpListIn_append_own _ rfl _ _ 43 rfl N0 3 i0 (.int .i64 0) 1 8 Try.underlying43 hi0 hz0 hz1 hz2 rfl (by decide) _ _ _ rfl (hrow.alloc _) ⟨w3.heap.size, 0, none⟩ 1 1 [.int .i64 (q1 : Int)] rfl rfl (cell_one_new _ _ _) (by simp [Value.oneCell']) (by unfold maxLen; omega) (by omega) (by simp; omega) ?_; intro v' w4 hown' hgrow _; obtain ⟨g', cap', rfl⟩ := ownsRow_succ hown'; obtain ⟨hv1, hv2, hr2, hk2, hb2⟩ := appended2 bO (by decide) hrow hown' hgrow; have hc1 := hv1.cell; have hf1 := hv1.frozen)
      have hd2 := hd.trans hb2 (fun _ _ h => h)
      exact ⟨(hkk.trans hk2).from _, hKR _ hd2, ⟨⟨⟨_, hv2, by rw [hno]; simpa [IV] using hr2, trivial⟩, hbF2 _ hd2⟩, Nat.le_trans hsz hd2.size⟩, hFF _ hd2⟩
    · rw [hpq] at hCF
      have hyes := hyes hpq
      clear hno hI
      gi_wp2_with fail
      refine ⟨trivial, ?_⟩
      refine (CallsIn.inRound l (callsIn_wide.2 hCF)).mono ?_
      rintro e w3 ⟨rfl, q9, hq9⟩
      have hd : Fr (fun x => x = w.heap.size + 1 ∨ N0 ≤ x) W w3 := by rw [hq9]; exact (Fr.refl _ _).drewN _
      have hkk : KeepsOthers W w3 := by rw [hq9]; exact ⟨Nat.le_refl _, fun _ _ h _ => h⟩
      replace bO : Boxed w3 (w.heap.size + 1) 43 ov := by rw [hq9]; exact bO
      replace bX : Bk w3 Bx 61 #[.int .i64 q1, .int .i64 q2] := by rw [hq9]; exact bX
      replace hrow : w3.ownsRow N0 3 1 ov (outs p r pre).length ((outs p r pre).map IV) := by rw [hq9]; exact hrow
      clear hq9
      have hsz3 := Nat.le_trans hsz hd.size
      have c0 := bX.cell 0
      have c1 := bX.cell 1
      have cO := bO.cell
      have zO := bO.frozen
      simp only [List.getElem?_toArray, List.getElem?_cons_zero, List.getElem?_cons_succ] at c0 c1
      gi_wp2
      exact ⟨hkk.from _, hKR _ hd, ⟨⟨⟨ov, bO, by rw [hyes]; exact hrow, trivial⟩, hbF2 _ hd⟩, Nat.le_trans hsz hd.size⟩, hFF _ hd⟩
  case done =>
    rintro Dd ys W hDd rfl hi hK
    rw [hI] at hi
    obtain ⟨⟨⟨⟨ov, bO, hrow, -⟩, bF⟩, hsz⟩, hB⟩ := hi
    have hW := frF hB
    obtain ⟨hRI, hovB⟩ := RI.of_owns hrow
    have hrise : r.Pairwise fun a b => a.1 < b.1 := by rw [← hr]; exact ok.rise c
    have hgl := h.flt g h.fg
    have hbl := h.flt br h.fb
    have hask : Ask W (w.heap.size + 1) ov (outs p r (List.finRange r.length)) := ⟨bO.cell, hRI, outs_rise p hrise, Nat.le_trans (outs_le p r _) (by rw [List.length_finRange]; exact hrl)⟩
    obtain ⟨vv, hv, hl⟩ := h.look tM_I z_I hc
    rw [hr] at hv
    have hlk := hl W (h.mr.fr hW (fun h => h))
    have q2 : W.cell? ⟨g, 2, none⟩ = some (.map (some br)) := (h.blk.fr hW (fun h => h)).cell 2
    have hvl : ∀ k, vv.ownBlock = some k → k < w.heap.size := fun k hk => h.flt k (hv.own k hk).1
    have CD := Lib.hid (delete_I hask (hv.row.fr0 hW) hrl (fun e => by have := hvl _ e; omega) (fun k hk e => by have h1 := hvl _ e; have h2 := hovB k hk; omega))
    rw [outs_kept p hrise] at CD
    have HLAY := Lib.hid (fun w1 v' f1 hrow hm => lay_I (w1 := w1) (v' := v') (r := r.filter fun x => p x.2) h hc hp (by rw [hr]; exact hv) (fun e => by rw [hr] at e; rw [e]; rfl) f1 hrow hm)
    have HCNT := Lib.hid (outs_count p r)
    have HW := Lib.hid hW
    have HV := Lib.hid hvl
    have HBO : Hid (Boxed W (w.heap.size + 1) 43 ov) := Lib.hid bO
    have HK := Lib.hid hK
    have HBR : Hid (g < w.heap.size ∧ br < w.heap.size ∧ w.heap.size + 2 ≤ Dd) := Lib.hid ⟨hgl, hbl, by omega⟩
    have HDL : Hid (Dd < W.heap.size) := Lib.hid (Array.getElem?_eq_some_iff.1 hK).1
    have HRR := Lib.hid hr
    obtain ⟨Ao, co, rfl, -, -, -⟩ := hRI.form
    obtain ⟨Av, cv, rfl, -, -, -⟩ := hv.row.form
    clear HI h0 hseq CR hI hf hcf bF bO hrow hRI hovB hrise hgl hbl hask hv hl hvl hW hK hsz hB h ok hp hf1 hW1 HS hvO hs2
    generalize (outs p r (List.finRange r.length)).length = cnt at *
    gi_wp2_with fail
    refine ⟨trivial, ?_⟩
    unfold DelF at CD
    refine (callsIn_wide.2 CD.out).mono ?_
    rintro e w5 ⟨v5, rfl, hr5, hob5, hf5⟩
    have CL := Lib.hid (HLAY.out w5 v5 ((HW.out.mono (fun _ _ h => h.elim)).trans hf5 (fun _ _ h => h)) hr5 (.inl hob5))
    have HF5 := Lib.hid hf5
    obtain ⟨A5, c5, rfl, -, -, -⟩ := hr5.form
    clear hr5 hob5 hf5 CD HLAY q2 hlk
    gi_wp2_with fail
    refine ⟨trivial, ?_⟩
    refine (callsIn_wide.2 CL.out).mono ?_
    rintro e w6 ⟨⟨v6, rfl⟩, hto, hf6⟩
    have hb6 : Boxed w6 (w.heap.size + 1) 43 (.slice Ao cnt co) := Bk.fr (t := 43) (Bk.fr (t := 43) HBO.out HF5.out (fun e => by have := HV.out _ e; omega)) hf6 (fun e => by have := HBR.out; omega)
    have cO := hb6.cell
    have hK6 : w6.heap[Dd]? = some (.deferred (some [])) := by
      rw [hf6.block Dd (Nat.lt_of_lt_of_le HDL.out HF5.out.size) (fun e => by have := HBR.out; omega), HF5.out.block Dd HDL.out (fun e => by have := HV.out _ e; have := HBR.out; omega)]
      exact HK.out
    have HTO := Lib.hid (hto.putObj hK6 (by have := HBR.out; omega) (.deferred none))
    clear hto hf6 hb6 CL
    gi_wp2
    refine ⟨by simp, .inl ⟨_, _, rfl, run_takeDeferred hK6, ?_⟩⟩
    rw [HRR.out]
    exact ⟨_, results_tmp rfl _ _ _, by rw [HCNT.out]; rfl, HTO.out⟩
  case stop =>
    rintro Dd c pre W _ _ h _
    exact h.elim


theorem KI.to {w0 w w' : World} {g : Nat} {t' : MT Int} {F : Nat → Prop} (h2 : ∀ k, F k → w0.heap.size ≤ k) (h3 : Fr (fun _ => False) w0 w) (h : MtTo 55 tP IV w g F w' t') : KI w0 w' g t' := by
  obtain ⟨F', k1, k2, k3⟩ := h
  refine ⟨F', k1, fun y hy => ?_, h3.trans k2 (fun y hy e => by have := h2 y e; omega)⟩
  rcases k3 y hy with e | e
  · exact h2 y e
  · have := h3.size; omega
theorem KI.keepD {w0 w : World} {g : Nat} {t : MT Int} (h : KI w0 w g t) (ok : t.ok) (hp : t.pushed ≤ 1000000) {c : Int} (hc : I64 c) {ff : FuncId} {lb : Array Value} (p : Int → Bool) (hcf : ∀ args W, (callFunc ff args).run Try.prog W = .ok (.enter ff args) W)
    (hf : ∀ w', Fr (fun _ => False) w w' → ∀ x ∈ t.row c, Calls Try.prog ff (#[.int .i64 x.2] ++ lb) w' fun e w'' => e = .returned (.bool (p x.2)) ∧ ∃ q, w'' = w'.drewN q) :
    Calls Try.prog 13 #[.pointer (some ⟨g, 0, none⟩), .int .i64 c, .func (.func ff) #[] lb] w fun e w' => e = .returned (.int .i64 ((t.row c).length - ((t.row c).filter fun x => p x.2).length : Nat)) ∧ KI w0 w' g (t.drop c ((t.row c).filter fun x => p x.2)) := by
  obtain ⟨F, ⟨br, D, h1⟩, h2, h3⟩ := h
  refine (keepD_I h1 ok hp hc p hcf hf).mono ?_
  rintro e w' ⟨rfl, hto⟩
  exact ⟨rfl, KI.to h2 h3 hto⟩

set_option maxRecDepth 100000 in
set_option maxHeartbeats 4000000 in
theorem clear_I {w : World} {g br : Nat} {F : Nat → Prop} {t : MT Int} {D : DV} (h : MtM 55 tP IV w g br F t D) {c : Int} (hc : I64 c) :
    Calls Try.prog 17 #[.pointer (some ⟨g, 0, none⟩), .int .i64 c] w fun e w' => e = .returned (.int .i64 ((t.row c).length : Nat)) ∧ MtTo 55 tP IV w g F w' (t.drop c []) := by
  have CL := Lib.hid (len_I h hc)
  obtain ⟨v, hv, hl⟩ := h.look tM_I z_I hc
  have q2 : w.cell? ⟨g, 2, none⟩ = some (.map (some br)) := h.blk.cell 2
  have HEND := Lib.hid (fun w2 hmv f2 => h.gone (w2 := w2) hc hv (Fr.refl _ w) hmv f2)
  obtain ⟨w2, hrun, hmv, f2⟩ := h.mr.delete kInt tM_I hc.key 0
  have hdel : ∀ ty, (Builtin.delete_ #[53, 3] ty #[.map (some br), .int .i64 c]).run Try.prog w = .ok (.tuple #[]) w2 := fun ty => by
    rw [← hrun]; rfl
  have HE := Lib.hid (HEND.out w2 hmv f2)
  clear h hv hl hrun hmv f2 HEND
  generalize (t.row c).length = n at *
  go_enter Try.func17, Try.ntmps17
  go_wp2_with fail
  refine CL.out.mono ?_; rintro e w1 ⟨rfl, rfl⟩
  go_wp2
  go_ret
  exact ⟨rfl, HE.out⟩
theorem KI.clear {w0 w : World} {g : Nat} {t : MT Int} (h : KI w0 w g t) {c : Int} (hc : I64 c) :
    Calls Try.prog 17 #[.pointer (some ⟨g, 0, none⟩), .int .i64 c] w fun e w' => e = .returned (.int .i64 ((t.row c).length : Nat)) ∧ KI w0 w' g (t.drop c []) := by
  obtain ⟨F, ⟨br, D, h1⟩, h2, h3⟩ := h
  refine (clear_I h1 hc).mono ?_
  rintro e w' ⟨rfl, hto⟩
  exact ⟨rfl, KI.to h2 h3 hto⟩
end Go.Proofs.Ytkinbcmnfpkncaa
