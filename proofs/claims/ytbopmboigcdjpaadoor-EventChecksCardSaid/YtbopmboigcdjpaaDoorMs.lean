/- event: ids. -/
import Derived.Test.YtbopmboigcdjpaaDoorMq
import Derived.Sort.Grow
namespace Go.Proofs.YtbopmboigcdjpaaDoor
open Go.RowKit Go.Maps Go.Sort

/-- Ints that can be read at a slice. -/
def IdR (w : World) (v : Value) (zs : List Int) : Prop := ∃ A cap, v = .slice A zs.length cap ∧ (0 < zs.length → ∃ d, A = some ⟨d, 0, none⟩ ∧ ∀ j (hj : j < zs.length), w.cell? ⟨d, j, none⟩ = some (.int .i64 zs[j]))
theorem IdR.fr0 {w w' : World} {v : Value} {zs : List Int} (h : IdR w v zs) (hf : Fr (fun _ => False) w w') : IdR w' v zs := by
  obtain ⟨A, cap, e, hc⟩ := h
  refine ⟨A, cap, e, fun h0 => ?_⟩
  obtain ⟨d, e2, hcc⟩ := hc h0
  exact ⟨d, e2, fun j hj => by
    have h1 := hcc j hj
    rw [← h1]
    exact hf.cell (p := ⟨d, j, none⟩) (World.block_lt_of_cell? w _ h1) (fun h => h)⟩
theorem bk_putRow {w : World} {d : Nat} {T : TypeId} {cur : Array Value} (h : Bk w d T cur) (n : Nat) (zs : Array Int) (os : Array Obj) : Fr (fun k => k = d) w (grow (putRow (Value.int .i64) (Go.Sort.ahead w n) d 0 zs) os) := by
  refine ⟨rfl, rfl, rfl, ?_, fun k hk hne => ?_⟩
  · simp
  · show ((w.heap.modify d _) ++ os)[k]? = _
    rw [Array.getElem?_append_left (by simpa using hk), Array.getElem?_modify, if_neg (by exact fun e => hne e.symm)]
/-- Sorted in place. -/
theorem sort_any {w : World} {v : Value} {ys : List Int} (h : OwnI w v ys) (hn : ys.length ≤ 1048576) :
    Calls Tryd.prog 51 #[v] w fun e w' => e = .returned (.tuple #[]) ∧ IdR w' v (ys.mergeSort fun x y => decide (x ≤ y)) ∧ Fr (fun k => v.ownBlock = some k) w w' := by
  have hml : (ys.mergeSort fun x y => decide (x ≤ y)).length = ys.length := by simp
  rcases h.form with ⟨rfl, rfl⟩ | ⟨d, cap, cur, rfl, h1, h2, hb, hc⟩
  · refine (Tryd.slices_Sort_int_none none 0 w).mono fun e w' ⟨e1, e2⟩ => ⟨e1, ?_, by rw [e2]; exact Fr.refl _ _⟩
    exact ⟨none, 0, by simp, fun h0 => by simp at h0⟩
  · have hH : Holds (Value.int .i64) w d 0 ys.toArray := fun j hj => by
      have hj' : j < ys.length := by simpa using hj
      rw [Nat.zero_add]
      refine ⟨?_, hb.frozen j⟩
      rw [hb.cell, hc j hj']
      simp [IV, hj']
    refine (Tryd.slices_Sort_int d 0 cap ys w hH hb.lt (by omega)).mono fun e w' ⟨e1, n, os, e2⟩ => ⟨e1, ?_, ?_⟩
    · subst e2
      refine ⟨some ⟨d, 0, none⟩, cap, by rw [hml], fun h0 => ⟨d, rfl, fun j hj => ?_⟩⟩
      have hcell := cell?_putRow (Value.int .i64) (Go.Sort.ahead w n) d 0 ys.toArray (ys.mergeSort fun x y => decide (x ≤ y)).toArray (holds_ahead _ w n d 0 _ hH) (by simp) j (by simpa using hj)
      rw [Nat.zero_add] at hcell
      have hg : (grow (putRow (Value.int .i64) (Go.Sort.ahead w n) d 0 (ys.mergeSort fun x y => decide (x ≤ y)).toArray) os).cell? ⟨d, j, none⟩ = (putRow (Value.int .i64) (Go.Sort.ahead w n) d 0 (ys.mergeSort fun x y => decide (x ≤ y)).toArray).cell? ⟨d, j, none⟩ := by
        apply World.cell?_of_block
        show (_ ++ os)[d]? = _
        rw [Array.getElem?_append_left]
        have := hb.lt
        simpa using this
      rw [hg, hcell]
      simp [List.getElem?_eq_getElem hj]
    · subst e2
      refine (bk_putRow hb n _ os).mono (fun k _ e => ?_)
      have e' : k = d := e
      rw [e']; rfl

/-- Of what has come by, the Ids of a kind. -/
def GotK (u : List (Int × Int)) (kind : Int) (left : Lit → Bool) (ys : List Int) : Prop := ys.Nodup ∧ ∀ x, x ∈ ys ↔ (kind, x) ∈ u ∧ left (th kind x) = false
theorem GotK.start {u : List (Int × Int)} {D : DV} (h : UseR u D) (hu : ∀ x ∈ u, I64 x.1 ∧ I64 x.2) (kind : Int) : GotK u kind (has D) [] := ⟨List.nodup_nil, fun x => by
  constructor
  · intro h; cases h
  · rintro ⟨h1, h2⟩
    obtain ⟨i1, i2⟩ := hu _ h1
    have := ((h kind x i1 i2).1 h1).1
    rw [this] at h2; cases h2⟩
theorem GotK.next {u : List (Int × Int)} {D : DV} {kind : Int} {left : Lit → Bool} {ys : List Int} (h : GotK u kind left ys) (hU : UseR u D) (hu : ∀ x ∈ u, I64 x.1 ∧ I64 x.2) (hkind : I64 kind) {t i : Int} (ht : I64 t) (hi : I64 i) (hl : left (th t i) = true) (hD : has D (th t i) = true) :
    (t = kind → GotK u kind (fun z => left z && !z.sameKey (th t i)) (ys ++ [i])) ∧ (t ≠ kind → GotK u kind (fun z => left z && !z.sameKey (th t i)) ys) := by
  have hin : (t, i) ∈ u := Decidable.byContradiction fun hn => by rw [(hU t i ht hi).2 hn] at hD; cases hD
  refine ⟨fun e => ?_, fun e => ?_⟩
  · subst e
    have hnot : i ∉ ys := fun hm => by have := ((h.2 i).1 hm).2; rw [hl] at this; cases this
    refine ⟨?_, fun x => ?_⟩
    · rw [List.nodup_append]
      exact ⟨h.1, by simp, fun a ha b hb e => by simp at hb; subst hb; subst e; exact hnot ha⟩
    · rw [List.mem_append, List.mem_singleton, h.2 x]
      by_cases hx : x = i
      · subst hx
        have : (th t x).sameKey (th t x) = true := WideAt.sameKey_self (th_key ht hi)
        simp [hin, this]
      · constructor
        · rintro (⟨h1, h2⟩ | h1)
          · exact ⟨h1, by show (left _ && _) = false; rw [h2]; rfl⟩
          · exact absurd h1 hx
        · rintro ⟨h1, h2⟩
          left
          obtain ⟨-, i2⟩ := hu _ h1
          have : (th t x).sameKey (th t i) = false := sameKey_ne (th_ne ht i2 ht hi (fun e => hx (by injection e)))
          have h2' : (left (th t x) && !(th t x).sameKey (th t i)) = false := h2
          rw [this] at h2'
          exact ⟨h1, by simpa using h2'⟩
  · refine ⟨h.1, fun x => ?_⟩
    rw [h.2 x]
    constructor
    · rintro ⟨h1, h2⟩; exact ⟨h1, by show (left _ && _) = false; rw [h2]; rfl⟩
    · rintro ⟨h1, h2⟩
      obtain ⟨-, i2⟩ := hu _ h1
      have : (th kind x).sameKey (th t i) = false := sameKey_ne (th_ne hkind i2 ht hi (fun e2 => e (by injection e2 with e2 _; exact e2.symm)))
      have h2' : (left (th kind x) && !(th kind x).sameKey (th t i)) = false := h2
      rw [this] at h2'
      exact ⟨h1, by simpa using h2'⟩
/-- The Ids of a kind, rising. -/
def IdsOf (u : List (Int × Int)) (kind : Int) (zs : List Int) : Prop := zs.Pairwise (· < ·) ∧ ∀ x, x ∈ zs ↔ (kind, x) ∈ u
theorem GotK.done {u : List (Int × Int)} {kind : Int} {left : Lit → Bool} {ys : List Int} (h : GotK u kind left ys) (hl : ∀ kl, left kl = false) : IdsOf u kind (ys.mergeSort fun x y => decide (x ≤ y)) := by
  have hp := List.mergeSort_perm ys (fun x y => decide (x ≤ y))
  have hnd : (ys.mergeSort fun x y => decide (x ≤ y)).Nodup := hp.nodup_iff.2 h.1
  have hs := List.pairwise_mergeSort (le := fun x y : Int => decide (x ≤ y)) (by intro a b c; simp; omega) (by intro a b; simp; omega) ys
  refine ⟨?_, fun x => ?_⟩
  · refine (hs.and hnd).imp ?_
    rintro a b ⟨h1, h2⟩
    have h1' : a ≤ b := by simpa using h1
    have h2' : a ≠ b := h2
    omega
  · rw [hp.mem_iff, h.2 x]; simp [hl]
def RngT (w : World) (b r n : Nat) (D : DV) (left : Lit → Bool) (cnt : Nat) : Prop := w.ranges Tryd.prog 90 HV b r n D left cnt
theorem RngT.fr {S : Nat → Prop} {w w' : World} {b r n cnt : Nat} {D : DV} {left : Lit → Bool} (h : RngT w b r n D left cnt) (hf : Fr S w w') (hb : ¬ S b) (hr : ¬ S r) : RngT w' b r n D left cnt := by
  have h1 := World.ownsMap.lt (World.ranges.owns h)
  have h2 := World.ranges.lt h
  obtain ⟨es, clock, since, seen, c0, e1, e2, e3, e4, e5, rest⟩ := h
  exact ⟨es, clock, since, seen, c0, (hf.block b h1 hb).trans e1, e2, e3, e4, (hf.block r h2 hr).trans e5, rest⟩
theorem RngT.ne {w : World} {b r n cnt g : Nat} {t : TypeId} {cs : Array Value} {D : DV} {left : Lit → Bool} (h : RngT w b r n D left cnt) (hg : Bk w g t cs) : g ≠ r := by
  rintro rfl
  obtain ⟨es, clock, since, seen, c0, e1, e2, e3, e4, e5, rest⟩ := h
  unfold Bk at hg
  rw [hg] at e5
  cases e5
theorem OwnI.not {w : World} {v : Value} {ys : List Int} {k : Nat} (h : OwnI w v ys) (hk : ∀ g t cs, Bk w g t cs → g ≠ k) : v.ownBlock ≠ some k := by
  rcases h.form with ⟨rfl, _⟩ | ⟨g, cap, cur, rfl, _, _, hb, _⟩
  · simp [Value.ownBlock]
  · intro e
    have e' : g = k := by simpa [Value.ownBlock] using e
    exact hk g _ _ hb e'
theorem has_of_atKey {D : DV} {kl : Lit} {c : Value} (h : ∀ zd, D.atKey kl zd = .held c) : has D kl = true := by
  cases hx : has D kl with
  | true => rfl
  | false =>
    have h1 := atKey_of_not_has (H := Value) (D := D) (k := kl) hx
    have h2 := (h1 (.held .nilIface)).symm.trans (h _)
    have h3 := (h1 (.held (.bool true))).symm.trans (h _)
    injection h2 with h2
    injection h3 with h3
    rw [← h2] at h3; cases h3

set_option maxRecDepth 100000 in
set_option maxHeartbeats 8000000 in
theorem ids_any {w : World} {g bo bu : Nat} {b : Bo} (h : Book w g bo bu b) {kind : Int} (hkind : I64 kind) (hc : b.count ≤ 1048576) :
    Calls Tryd.prog 34 #[.pointer (some ⟨g, 0, none⟩), .int .i64 kind] w fun e w' => ∃ v zs, e = .returned v ∧ IdsOf b.used kind zs ∧ IdR w' v zs ∧ Fr (fun _ => False) w w' := by
  obtain ⟨Do, Du, h⟩ := h
  have c4 : w.cell? ⟨g, 4, none⟩ = some (.map (some bu)) := h.blk.cell 4
  have hown : w.ownsMap Tryd.prog 90 HV bu (Maps.size Du) Du := h.mu
  have hsz : Maps.size Du ≤ 1048576 := by have := h.su; omega
  have HU := Lib.hid (show UseR b.used Du from h.used)
  have HUS := Lib.hid h.us
  have hbl := h.mu.lt
  clear h
  go_enter Tryd.func34, Tryd.ntmps34
  go_wp2_with (first
    | (at_range; refine wpList_range_own _ rfl _ 61 rfl 90 94 kThg tUsed _ bu (Maps.size Du) _ rfl hown ?_; intro w0 hrg0 hg0 hs0)
    | go_in)
  have hf0 : Fr (fun _ => False) w w0 := (Fr.of_grown hg0).mono (fun _ _ h => by simp at h)
  clear c4 hown hg0
  go_frame
  go_loopw [5] (fun u wr => ∃ (left : Lit → Bool) (cnt : Nat) (ys : List Int) (v : Value), u = v ∧ OwnI wr v ys ∧ RngT wr bu w.heap.size (Maps.size Du) Du left cnt ∧ GotK b.used kind left ys ∧ Fresh w wr v ∧ ys.length + cnt ≤ 1048576)
    (fun _ wr => wr.rangeLeft bu w.heap.size)
  case atStart => exact ⟨_, _, [], _, rfl, OwnI.nil _, hrg0, GotK.start HU.out HUS.out kind, Fresh.nil _ _ hf0, by simp; omega⟩
  case round =>
    clear hrg0 hf0 hs0
    obtain ⟨left, cnt, ys, v, rfl, hrow, hrg, hgot, hfr, hlen⟩ := hrel
    go_wp2_with (first
      | (at_next; refine wpList_next_ranges (α := Int × Int) (β := Value) _ rfl _ rfl 90 kThg HV (fun x => .agg #[.int .i64 x.1, .int .i64 x.2]) id (fun key kl hk => by obtain ⟨x, e, _⟩ := th_inv hk; exact ⟨x, e⟩) (fun v y _ => ⟨v, rfl⟩) bu w.heap.size (Maps.size Du) _ _ _ rfl hrg ?_ ?_)
      | go_in)
    · intro _ hl0
      have hd := hgot.done hl0
      have HC := Lib.hid (sort_any hrow (by omega))
      have HD := Lib.hid hd
      have HF := Lib.hid hfr
      clear hrg hrow hgot hfr hlen hl0 hd
      go_wp2_with fail
      refine HC.out.mono ?_; rintro e w1 ⟨rfl, hi1, hf1⟩
      have HI := Lib.hid hi1
      have HF1 := Lib.hid (HF.out.1.trans hf1 (fun x hx e => by have := HF.out.2 x e; omega))
      clear hi1 hf1 HC HF
      go_wp2
      go_ret
      exact ⟨_, _, rfl, HD.out, HI.out, HF1.out⟩
    · intro t i c kl y1 y2 w1 cnt1 hkey hlk hy hat hrg1 hlt hg1 hs1 hen
      obtain ⟨x', ex, it, ii⟩ := th_inv hkey
      unfold thV at ex
      simp only [Value.agg.injEq] at ex
      obtain ⟨rfl, rfl⟩ : t = x'.1 ∧ i = x'.2 := by simpa using ex
      have hkl : kl = th x'.1 x'.2 := by
        have := th_of it ii
        exact Option.some.inj (hkey.symm.trans this)
      subst hkl
      obtain ⟨t, i⟩ := x'
      simp only at it ii hlk hat hrg1 hen
      have hyv : y1 = .held c := by unfold HV at hy; simp at hy; exact hy.1.symm
      have hDk : has Du (th t i) = true := has_of_atKey (c := c) (fun zd => (hat zd).trans hyv)
      obtain ⟨gy, gn⟩ := hgot.next HU.out HUS.out hkind it ii hlk hDk
      have hf1 : Fr (fun k => k = w.heap.size) wr w1 := (Fr.of_grown hg1).mono (fun _ _ e => (Option.some.inj e).symm)
      have hno : u5.ownBlock ≠ some w.heap.size := hrow.not (fun g t cs hb => RngT.ne hrg hb)
      have hrow1 : OwnI w1 u5 ys := hrow.fr hf1 (fun k hk e => hno (by rw [hk, e]))
      have hfr1 : Fresh w w1 u5 := ⟨hfr.1.trans hf1 (fun x hx e => by omega), hfr.2⟩
      have hfa : Fr (fun _ => False) w1 (w1.alloc (.cells #[.int .i64 t, .int .i64 i] 90)) := (Fr.refl _ _).alloc _
      have hrow2 := hrow1.fr hfa (fun _ _ h => h)
      have hrg2 : RngT (w1.alloc (.cells #[.int .i64 t, .int .i64 i] 90)) bu w.heap.size (Maps.size Du) Du (fun z => left z && !z.sameKey (th t i)) cnt1 := RngT.fr hrg1 hfa (fun h => h) (fun h => h)
      have hfr2 : Fresh w (w1.alloc (.cells #[.int .i64 t, .int .i64 i] 90)) u5 := hfr1.quiet hfa
      have hml : (w1.alloc (.cells #[.int .i64 t, .int .i64 i] 90)).rangeLeft bu w.heap.size < wr.rangeLeft bu w.heap.size := by
        rw [World.ranges.left_eq hrg2, World.ranges.left_eq hrg]; exact hlt
      obtain ⟨Wa, hWa⟩ : ∃ Wa, w1.alloc (.cells #[.int .i64 t, .int .i64 i] 90) = Wa := ⟨_, rfl⟩
      obtain ⟨ga, hga⟩ : ∃ ga, w1.heap.size = ga := ⟨_, rfl⟩
      have kb : Bk Wa ga 90 #[.int .i64 t, .int .i64 i] := by rw [← hWa, ← hga]; exact Bk.new _ _ _
      have q0 : Wa.cell? ⟨ga, 0, none⟩ = some (.int .i64 t) := kb.cell 0
      have q1 : Wa.cell? ⟨ga, 1, none⟩ = some (.int .i64 i) := kb.cell 1
      rw [hWa] at hfa hrow2 hrg2 hfr2 hml
      clear hs1 kb
      by_cases htk : t = kind
      · have hg' := gy htk
        have e0 : (t == kind) = true := by simpa using htk
        clear gy gn htk
        go_wp2_with (at_builtin; refine wpList_appendI _ rfl (.tmp 20) (.tmp 23) rfl u5 ys rfl i hrow2 rfl (by omega) ?_; intro g1 cp w2 ho1 hf2 hm)
        have hbn : ¬ u5.ownBlock = some bu := fun e => by have := hfr.2 _ e; omega
        go_roundw
        case rel => exact ⟨_, cnt1, ys ++ [i], _, rfl, by simpa using ho1, RngT.fr hrg2 hf2 hbn (fun e => hno e), hg', hfr2.step hf2 hm, by simp; omega⟩
        case measure =>
          have hrg3 : RngT w2 bu w.heap.size (Maps.size Du) Du (fun z => left z && !z.sameKey (th t i)) cnt1 := RngT.fr hrg2 hf2 hbn (fun e => hno e)
          rw [World.ranges.left_eq hrg3, World.ranges.left_eq hrg]; exact hlt
      · have hg' := gn htk
        have e0 : (t == kind) = false := by simpa using htk
        clear gy gn htk
        go_wp2
        go_roundw
        case rel => exact ⟨_, cnt1, ys, _, rfl, hrow2, hrg2, hg', hfr2, by omega⟩
        case measure => exact hml
end Go.Proofs.YtbopmboigcdjpaaDoor
