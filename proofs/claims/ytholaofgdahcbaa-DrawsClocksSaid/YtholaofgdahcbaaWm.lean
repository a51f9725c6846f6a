/- Due, whatever alarms there are. -/
import Derived.Test.YtholaofgdahcbaaWl
import Derived.Test.YtholaofgdahcbaaTe
import Derived.Laws.IdiomRangeMap
namespace Go.Proofs.Ytholaofgdahcbaa
open Go.RowKit Go.Maps

section
variable {P : Program} (w : World) {ops : Array Oper} {rest : List Oper} {o : Oper} {a : Act} {Q : Exit → Act → World → Prop}
/-- A range over a map that was never made. -/
theorem wpList_range_nil (hg : o.guard = none) (m : Operand) (t : TypeId) (hop : o.op = Op.range t m) (k e : TypeId) (ht : P.underlying t = some (.map k e)) (hm : a.eval m = .map none)
    (hK : wpList P ops Q rest (a.put o.dst (.pointer (some ⟨w.heap.size, 0, none⟩))) (w.alloc (.mapIter none 0 #[] 0))) : wpList P ops Q (o :: rest) a w := by
  refine wpList_plain hg fun K' hK' => ?_
  unfold Oper.wp
  simp [execOp, hop, hm, run_range_nilMap w t k e ht, Result.andThen]
  exact hK' _ _ hK
theorem wpList_next_nil (hg : o.guard = none) (it : Operand) (hop : o.op = Op.next it false) (hit : a.eval it = .pointer (some ⟨w.heap.size, 0, none⟩))
    (hK : wpList P ops Q rest (a.put o.dst (.tuple #[.bool false])) (w.alloc (.mapIter none 0 #[] 0))) : wpList P ops Q (o :: rest) a (w.alloc (.mapIter none 0 #[] 0)) := by
  refine wpList_plain hg fun K' hK' => ?_
  unfold Oper.wp
  simp [execOp, hop, hit, run_next_nilMap w, Result.andThen]
  exact hK' _ _ hK
end

/-- What Due tells. -/
def DueOf (D : DataW Unit) (now : Int) (ys : List Int) : Prop := Ord D ys ∧ (∀ x, x ∈ ys ↔ has D (.int .i64 x) = true ∧ tickOf D x ≤ now) ∧ ∀ x ∈ ys, I64 x
/-- A map without these. -/
def dels (D : DataW Unit) (ys : List Int) : DataW Unit := ys.foldl (fun D x => D.del (.int .i64 x)) D
theorem dels_snoc (D : DataW Unit) (ys : List Int) (x : Int) : dels D (ys ++ [x]) = (dels D ys).del (.int .i64 x) := by unfold dels; rw [List.foldl_append]; rfl
/-- A slice that reads as ints, at the head of its block. -/
def SlI (w : World) (v : Value) (ys : List Int) : Prop := (v = .slice none 0 0 ∧ ys = []) ∨ ∃ d cap cur, v = .slice (some ⟨d, 0, none⟩) ys.length cap ∧ Bk w d 3 cur ∧ ∀ j (hj : j < ys.length), cur[j]? = some (IV ys[j])
theorem SlI.fr {S : Nat → Prop} {w w' : World} {v : Value} {ys : List Int} (h : SlI w v ys) (hf : Fr S w w') (hS : ∀ k, v.ownBlock = some k → ¬ S k) : SlI w' v ys := by
  rcases h with h | ⟨d, cap, cur, rfl, hb, hc⟩
  · exact .inl h
  · exact .inr ⟨d, cap, cur, rfl, hb.fr hf (hS d rfl), hc⟩

theorem OwnI.row {w : World} {v : Value} {xs : List Int} (h : OwnI w v xs) : (v = .slice none 0 0 ∧ xs = []) ∨ ∃ g cap tl, v = .slice (some ⟨g, 0, none⟩) xs.length cap ∧ Bk w g 3 (rowA xs.toArray tl) ∧ (xs.length : Int) ≤ 4611686018427387903 * 2 + 1 := by
  rcases h.2 with ⟨rfl, h0⟩ | ⟨g, cap, cur, rfl, _, hh, h1, h2, h3, h4⟩
  · exact .inl ⟨rfl, List.eq_nil_of_length_eq_zero h0⟩
  · refine .inr ⟨g, cap, cur.toList.drop xs.length, rfl, ?_, ?_⟩
    · have e : rowA xs.toArray (cur.toList.drop xs.length) = cur := by
        unfold rowA
        rw [Nat.mul_one] at h4
        have := List.take_append_drop xs.length cur.toList
        rw [h4] at this
        dsimp only
        rw [show (fun z => Value.int .i64 z) = IV from rfl, this]
      rw [e]; exact hh
    · unfold maxLen at h2; omega

theorem cs_due {g b x : Nat} (h : CS g (some b) x) : x = g ∨ x = b := h.imp id (fun e => by injection e with e; exact e.symm)

set_option maxRecDepth 100000 in
set_option maxHeartbeats 2000000 in
theorem due_none (g n : Nat) (now : Int) (w : World) (h : Clk w g now none n (.map [])) :
    Calls Try.prog 13 #[.pointer (some ⟨g, 0, none⟩)] w fun e w' => e = .returned (.slice none 0 0) ∧ Fr (fun _ => False) w w' := by
  have c1 : w.cell? ⟨g, 1, none⟩ = some (.map none) := h.1.cell 1
  have C := Lib.hid (sortf_nil g)
  have hF : Fr (fun _ => False) w (w.alloc (.mapIter none 0 #[] 0)) := (Fr.refl _ _).alloc _
  have HF := Lib.hid hF
  clear h hF
  unfold cmpF at *
  go_enter Try.func13, Try.ntmps13
  go_wp2_with (first
    | (at_range; refine wpList_range_nil _ rfl _ 41 rfl 3 3 Try.underlying41 rfl ?_)
    | go_in)
  refine wp_loop_rounds 1 ?_
  rw [rounds_succ]
  go_wp2_with (at_next; refine wpList_next_nil w rfl _ rfl rfl ?_)
  generalize w.alloc (.mapIter none 0 #[] 0) = w1 at *
  clear c1
  go_wp2_with fail
  refine (C.out _).mono ?_; rintro e w2 ⟨rfl, rfl⟩
  clear C
  go_wp2_with fail
  refine wp_loop_rounds 1 ?_
  rw [rounds_succ]
  go_wp2
  go_ret
  exact ⟨rfl, HF.out⟩

set_option maxRecDepth 100000 in
set_option maxHeartbeats 4000000 in
theorem due_some (g b n : Nat) (now : Int) (D : DataW Unit) (w : World) (h : Clk w g now (some b) n D) (hn : n ≤ 1048576) :
    Calls Try.prog 13 #[.pointer (some ⟨g, 0, none⟩)] w fun e w' => ∃ v ys, e = .returned v ∧ DueOf D now ys ∧ SlI w' v ys ∧ (∀ k, v.ownBlock = some k → w.heap.size ≤ k) ∧ AM w' b n (dels D ys) ∧ Fr (fun k => k = b) w w' ∧ (ys.length : Int) ≤ 1048576 := by
  have c1 : w.cell? ⟨g, 1, none⟩ = some (.map (some b)) := h.1.cell 1
  have hown : AM w b n D := by
    rcases h.2 with ⟨e, _⟩ | ⟨b', e, hb⟩
    · cases e
    · injection e with e; subst e; exact hb
  have hsz := World.ownsMap.size_le hown
  have hblt := hown.lt
  have hglt := h.1.lt
  have hgb := hown.ne h.1
  have H := Lib.hid h
  clear h
  go_enter Try.func13, Try.ntmps13
  go_wp2_with (first
    | (at_range; refine wpList_range_own _ rfl _ 41 rfl 3 3 kInt Try.underlying41 _ b n _ rfl hown ?_; intro w0 hrg0 hg0 hs0)
    | go_in)
  have hf0 : Fr (fun _ => False) w w0 := (Fr.of_grown hg0).mono (fun _ _ h => by simp at h)
  clear c1 hown hg0
  go_frame
  go_loopw [3] (fun u wr => ∃ (left : Lit → Bool) (cnt : Nat) (ys : List Int) (v : Value), u = v ∧ OwnI wr v ys ∧ Rng wr b w.heap.size n D left cnt ∧ Got D now left ys ∧ Fresh w wr v ∧ ys.length + cnt ≤ 1048576)
    (fun _ wr => wr.rangeLeft b w.heap.size)
  case atStart => exact ⟨_, _, [], _, rfl, OwnI.nil _, hrg0, Got.start _ _, Fresh.nil _ _ hf0, by simp; omega⟩
  case round =>
    clear hrg0 hf0 hs0
    obtain ⟨left, cnt, ys, v, rfl, hrow, hrg, hgot, hfr, hlen⟩ := hrel
    go_wp2_with (first
      | (at_next; refine wpList_next_ranges_ii _ rfl _ rfl 3 3 .i64 .i64 kInt Try.underlying3 Try.underlying3 b w.heap.size n _ _ _ rfl hrg ?_ ?_)
      | go_in)
    · intro _ hl0
      have hmem := hgot.done hl0
      rcases hrow.row with ⟨rfl, rfl⟩ | ⟨d, cap, tl, rfl, hbk, _⟩
      · -- none is due
        have C := Lib.hid (sortf_nil g wr)
        have HR := Lib.hid (show DueOf D now [] from ⟨List.Pairwise.nil, hmem, fun x h => by cases h⟩)
        have HF := Lib.hid hfr.1
        have HOW := Lib.hid (World.ranges.owns hrg)
        unfold cmpF at C
        clear hrg hrow hgot hfr hlen hl0 hmem
        go_wp2_with fail
        refine C.out.mono ?_; rintro e w1 ⟨rfl, rfl⟩
        clear C
        go_wp2_with fail
        refine wp_loop_rounds 1 ?_
        rw [rounds_succ]
        go_wp2
        go_ret
        exact ⟨_, [], rfl, HR.out, .inl ⟨rfl, rfl⟩, fun k hk => by simp [Value.ownBlock] at hk, HOW.out, HF.out.mono (fun _ _ h => h.elim), by simp⟩
      · have hdn : w.heap.size ≤ d := hfr.2 d rfl
        have hK := H.out.fr hfr.1 (fun _ _ h => h)
        have hgd : ¬ CS g (some b) d := fun e => by rcases cs_due e with e | e <;> omega
        have hok : ∀ i, i < ys.toArray.size → I64 ys.toArray[i]! := fun i hi => by
          have hi' : i < ys.length := by simpa using hi
          have : ys.toArray[i]! = ys[i] := by simp [hi']
          rw [this]; exact hgot.2.2 _ (List.getElem_mem _)
        have hSR : SR wr d g b n now D tl ys.toArray wr := ⟨hK, hbk, Fr.refl _ _, hgd, hok⟩
        have hsrt := Ord.of_sort (D := D) (dk := ys.toArray) (by simpa using hgot.1)
        have C := sortf_any wr d cap g b n now D tl ys.length ys.toArray wr hSR (by simp) (by omega)
        obtain ⟨zs, hzs⟩ : ∃ zs, Go.Sort.sort (ltC D) ys.toArray = zs := ⟨_, rfl⟩
        rw [hzs] at C hsrt
        obtain ⟨hord, hperm⟩ := hsrt
        have hpl : zs.toList.length = ys.length := by simpa using hperm.length_eq
        have HR := Lib.hid (show DueOf D now zs.toList from ⟨hord, fun x => by rw [hperm.mem_iff]; simpa using hmem x, fun x hx => hgot.2.2 x (by simpa using hperm.mem_iff.1 hx)⟩)
        have HF := Lib.hid hfr.1
        have HOW := Lib.hid (World.ranges.owns hrg)
        obtain ⟨L, hL⟩ : ∃ L, ys.length = L := ⟨_, rfl⟩
        rw [hL] at C hpl hlen ⊢
        have hLL : (L : Int) ≤ 1048576 := by omega
        unfold cmpF at C
        have HC := Lib.hid C
        have HPL := Lib.hid hpl
        clear C hrg hrow hgot hfr hlen hl0 hmem hbk hK hok hSR hzs hord hperm hpl hL
        go_wp2_with fail
        refine HC.out.mono ?_; rintro e w1 ⟨rfl, hSR⟩
        have hzl : zs.toList.length = zs.size := by simp
        have hcell : ∀ j, (hj : j < L) → (rowA zs tl)[j]? = some (IV (zs.toList[j]'(by rw [HPL.out]; exact hj))) := fun j hj => by
          have h1 := HPL.out
          rw [rowA_at zs tl j (by omega)]
          have : j < zs.size := by omega
          simp [IV, this]
        have HCELL := Lib.hid hcell
        have HB1 := Lib.hid hSR.bk
        have HF1 := Lib.hid (HF.out.trans hSR.fr (fun x hx e => by omega))
        have HK1 := Lib.hid (show Bk w1 g 49 #[.int .i64 now, .map (some b)] from hSR.clk.1)
        have HA1 := Lib.hid (show AM w1 b n D from by
          rcases hSR.clk.2 with ⟨e, _⟩ | ⟨b', e, hb⟩
          · cases e
          · injection e with e; subst e; exact hb)
        clear hSR hcell hzl HC HF HOW
        go_wp2_with fail
        go_loopw [34] (fun vi wz => ∃ k : Nat, vi = .int .i64 k ∧ k ≤ L ∧ Hid (AM wz b n (dels D (zs.toList.take k))) ∧ Hid (Fr (fun x => x = b) w1 wz)) (fun vi _ => L - (intOf vi).toNat)
        case atStart => exact ⟨0, rfl, Nat.zero_le _, HA1, Lib.hid (Fr.refl _ _)⟩
        case round =>
          obtain ⟨k, rfl, hkL, HAM, HFR⟩ := hrel
          by_cases hlt : k < L
          · have hkz : (k : Int) < (L : Int) := by omega
            have hj : k < zs.toList.length := by rw [HPL.out]; exact hlt
            have c1 : wr.cell? ⟨g, 1, none⟩ = some (.map (some b)) := (HK1.out.fr HFR.out hgb).cell 1
            have m0 : wr.cell? ⟨d, k, none⟩ = some (IV (zs.toList[k])) := ((HB1.out.fr HFR.out (by omega)).cell k).trans (HCELL.out k hlt)
            have hx64 : I64 (zs.toList[k]) := HR.out.2.2 _ (List.getElem_mem _)
            have htk : zs.toList.take (k + 1) = zs.toList.take k ++ [zs.toList[k]] := by rw [List.take_add_one]; simp
            have HTK := Lib.hid htk
            obtain ⟨x, hx⟩ : ∃ x, zs.toList[k] = x := ⟨_, rfl⟩
            rw [hx] at m0 hx64 HTK
            unfold IV at m0
            have hown := HAM.out
            clear htk hx hj HAM
            go_wp2_with (at_delete; refine wpList_delete_own _ rfl _ _ 41 3 rfl 3 kInt Try.underlying41 _ b n _ rfl hown _ _ rfl hx64.key ?_; intro w2 hown2 hturn2)
            have HF2 := Lib.hid (HFR.out.trans (Fr.of_turned hturn2) (fun _ _ h => h))
            have HA2 := Lib.hid (show AM w2 b n (dels D (zs.toList.take (k + 1))) from by rw [HTK.out, dels_snoc]; exact hown2)
            clear c1 m0 hturn2 hown hown2 HFR HTK
            go_roundw
            case rel => exact ⟨k + 1, by go_num, by omega, HA2, HF2⟩
            case measure => simp [intOf]; omega
          · have hkz : ¬ ((k : Int) < (L : Int)) := by omega
            have hke : k = L := by omega
            have HA3 := Lib.hid (show AM wr b n (dels D zs.toList) from by
              have := HAM.out
              rw [hke, ← HPL.out, List.take_length] at this
              exact this)
            have HS3 := Lib.hid (show SlI wr (.slice (some ⟨d, 0, none⟩) L cap) zs.toList from .inr ⟨d, cap, rowA zs tl, by rw [HPL.out], HB1.out.fr HFR.out (by omega), fun j hj => HCELL.out j (by rw [← HPL.out]; exact hj)⟩)
            have HF3 := Lib.hid (show Fr (fun k => k = b) w wr from (HF1.out.mono (fun _ _ h => h.elim)).trans HFR.out (fun x _ e => e))
            clear hke HAM HFR HA1 HB1 HK1 HCELL
            go_wp2
            go_ret
            exact ⟨_, rfl, zs.toList, HR.out, HS3.out, fun k hk => by simp [Value.ownBlock] at hk; omega, HA3.out, HF3.out, by have := HPL.out; omega⟩
    · intro x c w1 cnt1 hwx hwc hlx hat hrg1 hlt hg1 hs1 hen
      have hf1 : Fr (fun k => k = w.heap.size) wr w1 := (Fr.of_grown hg1).mono (fun _ _ e => (Option.some.inj e).symm)
      have hno : u3.ownBlock ≠ some w.heap.size := hrow.not (fun g t cs hb => Rng.ne hrg hb)
      have hrow1 : OwnI w1 u3 ys := hrow.fr hf1 (fun k hk e => hno (by rw [hk, e]))
      have hK1 := (H.out.fr hfr.1 (fun _ _ h => h)).1.fr hf1 (by omega)
      have c0 : w1.cell? ⟨g, 0, none⟩ = some (.int .i64 now) := hK1.cell 0
      have hfr1 : Fresh w w1 u3 := ⟨hfr.1.trans hf1 (fun x hx e => by omega), hfr.2⟩
      have hx : I64 x := by have := bounds_i64 hwx; exact ⟨this.1, this.2⟩
      clear hs1
      by_cases hc : c ≤ now
      · have hg' := hgot.yes hx hlx hat hc
        go_wp2_with (at_builtin; refine wpList_appendI _ rfl (.tmp 24) (.tmp 26) rfl u3 ys rfl x hrow1 rfl (by omega) ?_; intro g1 cp w2 ho1 hf2 hm)
        go_roundw
        case rel =>
          refine ⟨_, cnt1, ys ++ [x], _, rfl, by simpa using ho1, Rng.fr hrg1 hf2 (fun e => ?_) (fun e => hno e), hg', hfr1.step hf2 hm, by simp; omega⟩
          have := hfr.2 _ e
          omega
        case measure =>
          have hrg2 : Rng w2 b w.heap.size n D (fun z => left z && !z.sameKey (Lit.int .i64 x)) cnt1 := Rng.fr hrg1 hf2 (fun e => by have := hfr.2 _ e; omega) (fun e => hno e)
          rw [World.ranges.left_eq hrg2, World.ranges.left_eq hrg]; exact hlt
      · have hg' := hgot.no hat hc
        go_wp2
        go_roundw
        case rel => exact ⟨_, cnt1, ys, _, rfl, hrow1, hrg1, hg', hfr1, by omega⟩
        case measure => rw [World.ranges.left_eq hrg1, World.ranges.left_eq hrg]; exact hlt

/-- Due: what is due, in order, and no more there. -/
theorem due_any (g : Nat) (m : Option Nat) (n : Nat) (now : Int) (D : DataW Unit) (w : World) (h : Clk w g now m n D) (hn : n ≤ 1048576) :
    Calls Try.prog 13 #[.pointer (some ⟨g, 0, none⟩)] w fun e w' => ∃ v ys, e = .returned v ∧ DueOf D now ys ∧ SlI w' v ys ∧ (∀ k, v.ownBlock = some k → w.heap.size ≤ k) ∧ Clk w' g now m n (dels D ys) ∧ Fr (fun k => m = some k) w w' ∧ (ys.length : Int) ≤ 1048576 := by
  rcases m with _ | b
  · have hD : D = .map [] := by
      rcases h.2 with ⟨_, e⟩ | ⟨b, e, _⟩
      · exact e
      · cases e
    subst hD
    refine (due_none g n now w h).mono ?_
    rintro e w' ⟨rfl, hf⟩
    refine ⟨_, [], rfl, ⟨List.Pairwise.nil, fun x => ?_, fun x h => by cases h⟩, .inl ⟨rfl, rfl⟩, fun k hk => by simp [Value.ownBlock] at hk, h.fr hf (fun _ _ h => h), hf.mono (fun _ _ h => h.elim), by simp⟩
    simp [has]
  · have hown : AM w b n D := by
      rcases h.2 with ⟨e, _⟩ | ⟨b', e, hb⟩
      · cases e
      · injection e with e; subst e; exact hb
    have hgb := hown.ne h.1
    refine (due_some g b n now D w h hn).mono ?_
    rintro e w' ⟨v, ys, rfl, h1, h2, h3, h4, h5, h6⟩
    exact ⟨v, ys, rfl, h1, h2, h3, ⟨h.1.fr h5 hgb, .inr ⟨b, rfl, h4⟩⟩, h5.mono (fun _ _ e => by rw [e]), h6⟩
end Go.Proofs.Ytholaofgdahcbaa
