/- match: Keep. -/
import Derived.Test.YtkinbcmnfpkncaaRl
import Derived.RangeFuncBox
import Derived.Maps.AppendAt
import Derived.Maps.OwnIn
namespace Go.Proofs.Ytkinbcmnfpkncaa
open Go.RowKit Go.Maps Go.Shelf

attribute [local go_sem] Oper.semAt_some

/-- The numbers of those that are dropped. -/
def outs (p : Int → Bool) (r : List (Nat × Int)) (pre : List (Fin r.length)) : List Int := (pre.filter fun i => !p (r.get i).2).map fun i => ((r.get i).1 : Int)

theorem outs_nil (p : Int → Bool) (r : List (Nat × Int)) : outs p r [] = [] := rfl
theorem outs_yes (p : Int → Bool) (r : List (Nat × Int)) (pre : List (Fin r.length)) {x : Fin r.length} (h : p (r.get x).2 = true) : outs p r (pre ++ [x]) = outs p r pre := by simp at h; simp [outs, h]
theorem outs_no (p : Int → Bool) (r : List (Nat × Int)) (pre : List (Fin r.length)) {x : Fin r.length} (h : p (r.get x).2 = false) : outs p r (pre ++ [x]) = outs p r pre ++ [((r.get x).1 : Int)] := by simp at h; simp [outs, h]
theorem outs_le (p : Int → Bool) (r : List (Nat × Int)) (pre : List (Fin r.length)) : (outs p r pre).length ≤ pre.length := by
  unfold outs; rw [List.length_map]; exact List.length_filter_le _ _
theorem Bk.grown {W W' : World} {row : Option Nat} {g : Nat} {t : TypeId} {cs : Array Value} (h : Bk W g t cs) (hg : W.grownBy W' row) (hr : ∀ r, row = some r → ∃ o : Obj, W.heap[r]? = some o ∧ o.isCells = false) : Bk W' g t cs := by
  unfold Bk at h ⊢
  rw [hg.block g (Array.getElem?_eq_some_iff.1 h).1 (fun e => by
    obtain ⟨o, ho, hc⟩ := hr g e.symm
    rw [h] at ho
    injection ho with ho
    subst ho
    simp [Obj.isCells] at hc)]
  exact h
theorem frF {w w' : World} (h : Below w.heap.size w w') : Fr (fun _ => False) w w' := ⟨h.os, h.tape, h.output, h.size, fun k hk _ => h.block k hk⟩
theorem Fr.bel {w w' : World} (h : Fr (fun _ => False) w w') : Below w.heap.size w w' := h.below _ (Nat.le_refl _) (fun _ _ h => h)

theorem appended2 {W w1 : World} {n₀ B : Nat} {t e : TypeId} {size : Nat} {v v' : Value} {k m : Nat} {xs ys : List Value} {tmp : Obj} (hv : Boxed W B t v) (hte : t ≠ e) (hrow : W.ownsRow n₀ e size v k xs) (hown' : w1.ownsRow n₀ e size v' m ys) (hgrow : (W.alloc tmp).grownBy w1 v.ownBlock) :
    Boxed w1 B t v ∧ Boxed (w1.setCell ⟨B, 0, none⟩ v') B t v' ∧ (w1.setCell ⟨B, 0, none⟩ v').ownsRow n₀ e size v' m ys ∧ KeepsOthers W (w1.setCell ⟨B, 0, none⟩ v') ∧ Fr (fun x => x = B ∨ n₀ ≤ x) W (w1.setCell ⟨B, 0, none⟩ v') := by
  have hv1 : Boxed w1 B t v := (hv.alloc tmp).kept hgrow (hv.not_row hte hrow)
  refine ⟨hv1, hv1.set v', hown'.kept (grownBy_setCell' w1 B v') (.inr (hv1.not_row hte hown').symm), ?_, ?_⟩
  · refine ((KeepsOthers.alloc W tmp).trans (KeepsOthers.of_grownBy hgrow fun j o ej hj => ?_)).trans (KeepsOthers.setCell _ _ _)
    rcases (hrow.alloc tmp).2 with ⟨rfl, _⟩ | ⟨g, cap, cur, rfl, _, hgb, _⟩
    · simp [Value.ownBlock] at ej
    · obtain rfl : g = j := by simpa [Value.ownBlock] using ej
      rw [hgb] at hj; cases hj; rfl
  · refine Fr.setCell (S := fun x => x = B ∨ n₀ ≤ x) (p := ⟨B, 0, none⟩) (((Fr.refl _ W).alloc tmp).trans (Fr.of_grown hgrow) (fun x _ ex => ?_)) (fun _ => .inl rfl) v'
    rcases hrow.2 with ⟨rfl, _⟩ | ⟨g, cap, cur, rfl, hb, _, _⟩
    · simp [Value.ownBlock] at ex
    · obtain rfl : g = x := by simpa [Value.ownBlock] using ex
      exact .inr hb
theorem outs_all (p : Int → Bool) (r : List (Nat × Int)) : outs p r (List.finRange r.length) = (r.filter fun x => !p x.2).map fun x => ((x.1 : Nat) : Int) := by
  have h : (List.finRange r.length).map r.get = r := List.ext_getElem (by rw [List.length_map, List.length_finRange]) (fun i h1 h2 => by rw [List.getElem_map, List.getElem_finRange]; rfl)
  unfold outs
  conv => rhs; rw [← h, List.filter_map, List.map_map]
  rfl
theorem outs_rise (p : Int → Bool) {r : List (Nat × Int)} (hr : r.Pairwise fun a b => a.1 < b.1) : Rise (outs p r (List.finRange r.length)) := by
  rw [outs_all]
  unfold Rise
  rw [List.pairwise_map]
  exact (hr.sublist List.filter_sublist).imp (fun h => by omega)
/-- What is out is dropped, and just that. -/
theorem outs_kept (p : Int → Bool) {r : List (Nat × Int)} (hr : r.Pairwise fun a b => a.1 < b.1) : (r.filter fun x => !isO (outs p r (List.finRange r.length)) x) = r.filter fun x => p x.2 := by
  refine List.filter_congr fun x hx => ?_
  unfold isO
  rw [outs_all]
  have hu : ∀ y ∈ r, y.1 = x.1 → y = x := fun y hy e => by
    obtain ⟨i, hi, rfl⟩ := List.mem_iff_getElem.1 hy
    obtain ⟨j, hj, rfl⟩ := List.mem_iff_getElem.1 hx
    have h1 := List.pairwise_iff_getElem.1 hr
    rcases Nat.lt_trichotomy i j with h | h | h
    · have := h1 i j hi hj h; omega
    · subst h; rfl
    · have := h1 j i hj hi h; omega
  cases hp : p x.2
  · simp only [Bool.not_eq_false', List.contains_iff_mem, List.mem_map, List.mem_filter]
    exact ⟨x, ⟨hx, by simp [hp]⟩, rfl⟩
  · simp only [Bool.not_eq_true', List.contains_eq_mem, decide_eq_false_iff_not, List.mem_map, List.mem_filter]
    rintro ⟨y, ⟨hy, hpy⟩, e⟩
    have := hu y hy (by omega)
    subst this
    simp [hp] at hpy
theorem filt_add (f : Nat × Int → Bool) (r : List (Nat × Int)) : (r.filter fun x => !f x).length + (r.filter f).length = r.length := by
  induction r with
  | nil => rfl
  | cons a r ih => cases h : f a <;> simp [h] <;> omega
theorem outs_count (p : Int → Bool) (r : List (Nat × Int)) : (outs p r (List.finRange r.length)).length = r.length - (r.filter fun x => p x.2).length := by
  rw [outs_all, List.length_map]
  have := filt_add (fun x => p x.2) r
  omega

theorem MtM.frX {S F : Nat → Prop} {w w' : World} {g br : Nat} {t : MT Int} {D : DV} {TL TP : TypeId} (h : MtM TL TP IV w g br F t D) (hf : Fr S w w') (hg : ¬ S g) (hb : ¬ S br) (hr : ∀ k, (∃ cs, Bk w k TP cs) → ¬ S k) : MtM TL TP IV w' g br F t D where
  blk := h.blk.fr hf hg
  mr := h.mr.fr hf hb
  no := h.no
  at_ c hc hr' := by
    obtain ⟨v, h1, h2, h3⟩ := h.at_ c hc hr'
    exact ⟨v, h1, h2.fr hf (fun k hk => hr k (h2.bk hk)), h3⟩
  apart := h.apart
  sz := h.sz
  gb := h.gb
  fg := h.fg
  fb := h.fb
  flt k hk := Nat.lt_of_lt_of_le (h.flt k hk) hf.size
/-- The book of deferred calls may turn. -/
theorem MtTo.putObj {F : Nat → Prop} {w w' : World} {g : Nat} {t : MT Int} {TL TP : TypeId} (h : MtTo TL TP IV w g F w' t) {l : Nat} {x : Option (List Deferred)} (hl : w'.heap[l]? = some (.deferred x)) (hwl : w.heap.size ≤ l) (o : Obj) : MtTo TL TP IV w g F (w'.putObj l o) t := by
  obtain ⟨F', ⟨br, D, hM⟩, h2, h3⟩ := h
  have hf : Fr (fun k => some l = some k) w' (w'.putObj l o) := Fr.of_grown (grownBy_putObj' w' l o)
  refine ⟨F', ⟨br, D, hM.frX hf (fun e => ?_) (fun e => ?_) (fun k ⟨cs, hb⟩ e => ?_)⟩, h2.trans hf (fun y hy e => by injection e with e; omega), h3⟩
  · injection e with e; subst e
    have := hM.blk
    unfold Bk at this
    rw [hl] at this; cases this
  · injection e with e; subst e
    obtain ⟨es, clock, h1, _⟩ := hM.mr
    rw [hl] at h1; cases h1
  · injection e with e; subst e
    unfold Bk at hb
    rw [hl] at hb; cases hb
theorem RI.of_owns {w : World} {B : Nat} {v : Value} {r : List Int} (h : w.ownsRow B 3 1 v r.length (r.map IV)) : RI w v r ∧ ∀ k, v.ownBlock = some k → B ≤ k := by
  rcases h.2 with ⟨rfl, h0⟩ | ⟨g, cap, cur, rfl, hB, hh, h1, h2, h3, h4⟩
  · have : r = [] := List.eq_nil_of_length_eq_zero h0
    subst this
    exact ⟨Row.nil _ _ _, fun k hk => by simp [Value.ownBlock] at hk⟩
  · refine ⟨⟨by simp, .inr ⟨g, 0, cap, cur, rfl, hh, h1, h2, by omega, fun j hj => ?_⟩⟩, fun k hk => by
      have : g = k := by simpa [Value.ownBlock] using hk
      omega⟩
    have hj' : j < r.length := by simpa using hj
    have h5 := congrArg (fun l => l[j]?) h4
    simp only [Nat.mul_one, List.getElem?_take, if_pos hj', List.getElem?_map, List.getElem?_eq_getElem hj', Option.map_some, Array.getElem?_toList] at h5
    rw [Nat.zero_add, List.getElem?_map, List.getElem?_eq_getElem hj']
    exact h5

set_option maxRecDepth 100000 in
set_option maxHeartbeats 4000000 in
theorem keep_I {w : World} {g br : Nat} {F : Nat → Prop} {t : MT Int} {D : DV} (h : MtM 55 tP IV w g br F t D) (ok : t.ok) (hp : t.pushed ≤ 1000000) {c : Int} (hc : I64 c)
    {ff : FuncId} {lb : Array Value} (p : Int → Bool) (hcf : ∀ args W, (callFunc ff args).run Try.prog W = .ok (.enter ff args) W)
    (hf : ∀ w', Fr (fun _ => False) w w' → ∀ x ∈ t.row c, Calls Try.prog ff (#[.int .i64 x.2] ++ lb) w' fun e w'' => e = .returned (.bool (p x.2)) ∧ w'' = w') :
    Calls Try.prog 13 #[.pointer (some ⟨g, 0, none⟩), .int .i64 c, .func (.func ff) #[] lb] w fun e w' =>
      e = .returned (.int .i64 ((t.row c).length - ((t.row c).filter fun x => p x.2).length : Nat)) ∧ MtTo 55 tP IV w g F w' (t.drop c ((t.row c).filter fun x => p x.2)) := by
  obtain ⟨W1, hW1⟩ : ∃ W1, (w.alloc (.cells #[.func (.func ff) #[] lb] 38)).alloc (.cells #[.slice none 0 0] 43) = W1 := ⟨_, rfl⟩
  have hf1 : Fr (fun _ => False) w W1 := by rw [← hW1]; exact ((Fr.refl _ _).alloc _).alloc _
  have CR := Lib.hid (row_I (h.fr hf1 (fun _ _ h => h)) ok hc)
  refine (callsIn_wide (n := 9)).1 ?_
  refine callsIn_of_wp_marks Try.func13 rfl trivial ?_ rfl
  simp only [Try.ntmps13, List.size_toArray, List.length_cons, List.length_nil, Nat.reduceAdd, Nat.reduceSub, Array.replicate_succ, Array.replicate_zero, List.push_toArray, List.append_toArray, List.nil_append, List.cons_append]
  gi_wp2_with (refine ⟨trivial, ?_⟩; gi_at_call 31; refine (callsIn_wide.2 CR.out).mono ?_; rintro e w2 ⟨k, v, rfl, hs⟩)
  obtain ⟨r, hr⟩ : ∃ r, t.row c = r := ⟨_, rfl⟩
  rw [hr] at hs
  have hrl : r.length ≤ 1048576 := by rw [← hr]; have := ok.len c; have := ok.m2; omega
  have hs2 : w.heap.size + 2 ≤ w2.heap.size := by have h1 := hs.row.2.2.size; rw [← hW1] at h1; simp at h1; omega
  have hbF : Boxed w2 w.heap.size 38 (.func (.func ff) #[] lb) := by
    have h1 : Bk W1 w.heap.size 38 #[.func (.func ff) #[] lb] := by rw [← hW1]; exact (Bk.new _ _ _).alloc _
    exact h1.fr hs.row.2.2 (fun h => h)
  have hbO : Boxed w2 (w.heap.size + 1) 43 (.slice none 0 0) := by
    have h1 : Bk W1 (w.heap.size + 1) 43 #[.slice none 0 0] := by rw [← hW1]; have := Bk.new (w.alloc (.cells #[.func (.func ff) #[] lb] 38)) 43 #[.slice none 0 0]; simpa using this
    exact h1.fr hs.row.2.2 (fun h => h)
  have hB0 : Below w.heap.size w w2 := (hf1.trans hs.row.2.2 (fun _ _ h => h)).bel
  have hsl : Sl w2 2 v r.length (pcs IV r) := hs.row.1.sl
  have hvO : ∀ k, v.ownBlock = some k → w.heap.size + 2 ≤ k ∧ k < w2.heap.size := fun k hk => ⟨by have h1 := hs.row.2.1 k hk; rw [← hW1] at h1; simpa using h1, hs.row.1.lt hk⟩
  have HS := Lib.hid hs
  obtain ⟨N0, hN0⟩ : ∃ N0, w2.heap.size = N0 := ⟨_, rfl⟩
  rw [hN0] at hs2 hvO
  obtain ⟨I, hI⟩ : ∃ I : List (Fin r.length) → World → Prop, I = fun pre W => (((∃ ov, Boxed W (w.heap.size + 1) 43 ov ∧ W.ownsRow N0 3 1 ov (outs p r pre).length ((outs p r pre).map IV) ∧ True) ∧ Boxed W w.heap.size 38 (.func (.func ff) #[] lb)) ∧ N0 ≤ W.heap.size) ∧ Below w.heap.size w W := ⟨_, rfl⟩
  have HI : OwnFrom w2.heap.size I := by
    rw [hI]
    exact OwnFrom.and (OwnFrom.and (OwnFrom.and (Own.from (holdsRow_own N0 (w.heap.size + 1) 43 3 1 (fun pre => (outs p r pre).length) (fun pre => (outs p r pre).map IV) (fun _ _ => True)) _) (Own.from (boxed_own w.heap.size 38 (fun _ => Value.func (.func ff) #[] lb)) _)) (fun _ _ _ _ hs hg _ => Nat.le_trans hs hg.size)) (ownFrom_below (Nat.le_refl _) (by omega))
  have h0 : I [] w2 := by rw [hI]; exact ⟨⟨⟨⟨_, hbO, World.ownsRow_nil _ _ _ _, trivial⟩, hbF⟩, by omega⟩, hB0⟩
  have hseq := vals_stops 8 (by omega) k v r hrl w2 (hs.box.cell 0) hsl
  clear hs hbF hbO hB0 hsl
  refine wpIn_rangeFunc_ownH rfl (by omega) (gf := 51) (lb := #[.pointer (some ⟨k, 0, none⟩)]) rfl trivial (enters_of Try.func51 (by kernel_rfl) rfl)
    hseq KRow.t (fun W l o o' _ h ho _ => KRow.b _ _ W l o o' h ho) (Below.refl _ _) (fun _ => rfl)
    I (fun _ _ _ => False) HI (fun _ _ _ _ _ hs _ _ => hs) h0
    (fun x a' W => ∃ Bx, N0 ≤ Bx ∧ Bk W Bx 61 #[.int .i64 (r.get x).1, .int .i64 (r.get x).2] ∧ a' = { tmps := #[.pointer (some ⟨g, 0, none⟩), .int .i64 c, .func (.func ff) #[] lb, undef, undef, .pointer (some ⟨w.heap.size, 0, none⟩), .int .i64 0, .pointer (some ⟨w.heap.size + 1, 0, none⟩), .pointer (some ⟨Bx, 0, none⟩), .pointer (some ⟨g, 0, none⟩), .int .i64 c, SeqV k, PV (r.get x), undef, undef, undef, undef, undef, undef, undef, undef, undef, undef, undef, undef, undef, undef, undef, undef, undef, undef, undef, undef, undef, undef, undef], defers := [] })
    (fun x a' _ X Y row hs hg hr => by obtain ⟨Bx, h1, h2, h3⟩ := hs; exact ⟨Bx, h1, Bk.grown h2 hg (fun r e => (hr r e).2), h3⟩)
    ?assign ?body ?done ?stop
  case assign =>
    intro l pre x W K hi hK
    have hsz : N0 ≤ W.heap.size := by rw [hI] at hi; exact hi.1.2
    have hi2 := fun o => HI.alloc o hi
    clear hf hcf HI h0 hseq CR
    unfold PV at *
    gi_wp2
    exact hK _ _ ((KeepsOthers.alloc _ _).from _) (KRow.fr ((Fr.refl (fun _ => False) _).alloc _) (fun _ _ h => h)) (hi2 _) ⟨W.heap.size, hsz, Bk.new _ _ _, rfl⟩
  case body =>
    rintro l pre x a' W hl - hi ⟨Bx, hBx, bX, rfl⟩ hlt
    rw [hI] at hi
    obtain ⟨⟨⟨⟨ov, bO, hrow, -⟩, bF⟩, hsz⟩, hB⟩ := hi
    have c0 := bX.cell 0
    have c1 := bX.cell 1
    have cF := bF.cell
    have cO := bO.cell
    have zO := bO.frozen
    have hCF := hf W (frF hB) (r.get x) (by rw [hr]; exact List.get_mem _ _)
    simp only [List.getElem?_toArray, List.getElem?_cons_zero, List.getElem?_cons_succ] at c0 c1
    have hpl : (outs p r pre).length ≤ 1048576 := Nat.le_trans (outs_le p r pre) (by omega)
    obtain ⟨q, hq⟩ : ∃ q, r.get x = q := ⟨_, rfl⟩
    have hyes := outs_yes p r pre (x := x)
    have hno := outs_no p r pre (x := x)
    rw [hq] at c0 c1 hCF bX hyes hno
    rw [hq]
    obtain ⟨q1, q2⟩ := q
    simp only at c0 c1 hCF bX hyes hno
    unfold PV
    obtain ⟨i0, hi0, hz0, hz1, hz2⟩ := info_parts Try.infoInt
    clear hf HI h0 hseq CR hq
    have hKR : ∀ W', Fr (fun x => x = w.heap.size + 1 ∨ N0 ≤ x) W W' → KRow v r W W' := fun W' hfr => KRow.fr hfr (fun g' hg' e => by have := hvO g' hg'; rcases e with e | e <;> omega)
    have hFF : ∀ W', Fr (fun x => x = w.heap.size + 1 ∨ N0 ≤ x) W W' → Below w.heap.size w W' := fun W' hfr => hB.trans (hfr.below _ hB.size (fun y hy e => by rcases e with e | e <;> omega))
    have hbF2 : ∀ W', Fr (fun x => x = w.heap.size + 1 ∨ N0 ≤ x) W W' → Boxed W' w.heap.size 38 (.func (.func ff) #[] lb) := fun W' hfr => Bk.fr (t := 38) bF hfr (fun e => by rcases e with e | e <;> omega)
    rw [hI]
    cases hpq : p q2
    · rw [hpq] at hCF
      have hno := hno hpq
      clear hyes hI
      gi_wp2_with fail
      refine ⟨trivial, ?_⟩
      refine (CallsIn.inRound l (callsIn_wide.2 hCF)).mono ?_
      rintro e w3 ⟨rfl, rfl⟩
      gi_wp2_with (gi_at_builtin; refine wpListIn_append_own _ rfl _ _ 43 rfl N0 3 i0 (.int .i64 0) 1 8 Try.underlying43 hi0 hz0 hz1 hz2 rfl (by decide) _ _ _ rfl (hrow.alloc _) ⟨w3.heap.size, 0, none⟩ 1 1 [.int .i64 (q1 : Int)] rfl rfl (cell_one_new _ _ _) (by simp [Value.oneCell']) (by unfold maxLen; omega) (by omega) (by simp; omega) ?_; intro v' w4 hown' hgrow _; obtain ⟨g', cap', rfl⟩ := ownsRow_succ hown'; obtain ⟨hv1, hv2, hr2, hk2, hb2⟩ := appended2 bO (by decide) hrow hown' hgrow; have hc1 := hv1.cell; have hf1 := hv1.frozen)
      exact ⟨hk2.from _, hKR _ hb2, ⟨⟨⟨_, hv2, by rw [hno]; simpa [IV] using hr2, trivial⟩, hbF2 _ hb2⟩, Nat.le_trans hsz hb2.size⟩, hFF _ hb2⟩
    · rw [hpq] at hCF
      have hyes := hyes hpq
      clear hno hI
      gi_wp2_with fail
      refine ⟨trivial, ?_⟩
      refine (CallsIn.inRound l (callsIn_wide.2 hCF)).mono ?_
      rintro e w3 ⟨rfl, rfl⟩
      gi_wp2
      exact ⟨KeepsFrom.refl _ _, hKR _ (Fr.refl _ _), ⟨⟨⟨ov, bO, by rw [hyes]; exact hrow, trivial⟩, bF⟩, hsz⟩, hB⟩
  case done =>
    rintro Dd ys W hDd rfl hi hK
    rw [hI] at hi
    obtain ⟨⟨⟨⟨ov, bO, hrow, -⟩, bF⟩, hsz⟩, hB⟩ := hi
    have hW := frF hB
    obtain ⟨hRI, hovB⟩ := RI.of_owns hrow
    have hrise : r.Pairwise fun a b => a.1 < b.1 := by rw [← hr]; exact ok.rise c
    have hgl := h.flt g h.fg
    have hbl := h.flt br h.fb
    have hask : Ask W (w.heap.size + 1) ov (outs p r (List.finRange r.length)) := ⟨bO.cell, hRI, outs_rise p hrise, Nat.le_trans (outs_le p r _) (by rw [List.length_finRange]; exact hrl)⟩
    obtain ⟨vv, hv, hl⟩ := h.look tM_I z_I hc
    rw [hr] at hv
    have hlk := hl W (h.mr.fr hW (fun h => h))
    have q2 : W.cell? ⟨g, 2, none⟩ = some (.map (some br)) := (h.blk.fr hW (fun h => h)).cell 2
    have hvl : ∀ k, vv.ownBlock = some k → k < w.heap.size := fun k hk => h.flt k (hv.own k hk).1
    have CD := Lib.hid (delete_I hask (hv.row.fr0 hW) hrl (fun e => by have := hvl _ e; omega) (fun k hk e => by have h1 := hvl _ e; have h2 := hovB k hk; omega))
    rw [outs_kept p hrise] at CD
    have HLAY := Lib.hid (fun w1 v' f1 hrow hm => lay_I (w1 := w1) (v' := v') (r := r.filter fun x => p x.2) h hc hp (by rw [hr]; exact hv) (fun e => by rw [hr] at e; rw [e]; rfl) f1 hrow hm)
    have HCNT := Lib.hid (outs_count p r)
    have HW := Lib.hid hW
    have HV := Lib.hid hvl
    have HBO : Hid (Boxed W (w.heap.size + 1) 43 ov) := Lib.hid bO
    have HK := Lib.hid hK
    have HBR : Hid (g < w.heap.size ∧ br < w.heap.size ∧ w.heap.size + 2 ≤ Dd) := Lib.hid ⟨hgl, hbl, by omega⟩
    have HDL : Hid (Dd < W.heap.size) := Lib.hid (Array.getElem?_eq_some_iff.1 hK).1
    have HRR := Lib.hid hr
    obtain ⟨Ao, co, rfl, -, -, -⟩ := hRI.form
    obtain ⟨Av, cv, rfl, -, -, -⟩ := hv.row.form
    clear HI h0 hseq CR hI hf hcf bF bO hrow hRI hovB hrise hgl hbl hask hv hl hvl hW hK hsz hB h ok hp hf1 hW1 HS hvO hs2
    generalize (outs p r (List.finRange r.length)).length = cnt at *
    gi_wp2_with fail
    refine ⟨trivial, ?_⟩
    unfold DelF at CD
    refine (callsIn_wide.2 CD.out).mono ?_
    rintro e w5 ⟨v5, rfl, hr5, hob5, hf5⟩
    have CL := Lib.hid (HLAY.out w5 v5 ((HW.out.mono (fun _ _ h => h.elim)).trans hf5 (fun _ _ h => h)) hr5 (.inl hob5))
    have HF5 := Lib.hid hf5
    obtain ⟨A5, c5, rfl, -, -, -⟩ := hr5.form
    clear hr5 hob5 hf5 CD HLAY q2 hlk
    gi_wp2_with fail
    refine ⟨trivial, ?_⟩
    refine (callsIn_wide.2 CL.out).mono ?_
    rintro e w6 ⟨⟨v6, rfl⟩, hto, hf6⟩
    have hb6 : Boxed w6 (w.heap.size + 1) 43 (.slice Ao cnt co) := Bk.fr (t := 43) (Bk.fr (t := 43) HBO.out HF5.out (fun e => by have := HV.out _ e; omega)) hf6 (fun e => by have := HBR.out; omega)
    have cO := hb6.cell
    have hK6 : w6.heap[Dd]? = some (.deferred (some [])) := by
      rw [hf6.block Dd (Nat.lt_of_lt_of_le HDL.out HF5.out.size) (fun e => by have := HBR.out; omega), HF5.out.block Dd HDL.out (fun e => by have := HV.out _ e; have := HBR.out; omega)]
      exact HK.out
    have HTO := Lib.hid (hto.putObj hK6 (by have := HBR.out; omega) (.deferred none))
    clear hto hf6 hb6 CL
    gi_wp2
    refine ⟨by simp, .inl ⟨_, _, rfl, run_takeDeferred hK6, ?_⟩⟩
    rw [HRR.out]
    exact ⟨_, results_tmp rfl _ _ _, by rw [HCNT.out]; rfl, HTO.out⟩
  case stop =>
    rintro Dd c pre W _ _ h _
    exact h.elim
end Go.Proofs.Ytkinbcmnfpkncaa
