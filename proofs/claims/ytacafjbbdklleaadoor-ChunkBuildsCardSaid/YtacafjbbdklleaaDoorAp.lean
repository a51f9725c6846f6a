/- The reference's Cut. -/
import Derived.Test.YtacafjbbdklleaaDoorAo
import Derived.Test.YtacafjbbdklleaaDoorGa
namespace Go.Proofs.YtacafjbbdklleaaDoor
open Go.RowKit

theorem Tryd.teD : TE Tryd.prog 29 37 5 56 (.agg #[.int .i64 0, .int .i64 0, .int .i64 0, .int .u32 0, .slice none 0 0]) := ⟨Tryd.underlying29, by kernel_rfl, rfl, by omega⟩
set_option maxRecDepth 100000 in
set_option maxHeartbeats 2000000 in
theorem refCut_bad (id : Int) (A : Option Addr) (n c : Nat) (size : Int) (w : World) (hb : ¬ cutE id n size = 0) :
    Calls Tryd.prog 9 #[.int .i64 id, .slice A n c, .int .i64 size] w fun e w' => e = .returned (.tuple #[.slice none 0 0, .int .i64 (cutE id n size)]) ∧ w = w' := by
  unfold cutE at hb ⊢
  by_cases h1 : id < 0
  · have d1 : decide (id < 0) = true := decide_eq_true h1
    rw [if_pos (.inl h1)]
    clear hb
    go_enter Tryd.func9, Tryd.ntmps9
    go_wp2
    go_ret2
    exact ⟨rfl, rfl⟩
  · have d1 : decide (id < 0) = false := decide_eq_false h1
    by_cases h2 : size < 1
    · have d2 : decide (size < 1) = true := decide_eq_true h2
      rw [if_pos (.inr (.inl h2))]
      clear hb
      go_enter Tryd.func9, Tryd.ntmps9
      go_wp2
      go_ret2
      exact ⟨rfl, rfl⟩
    · have d2 : decide (size < 1) = false := decide_eq_false h2
      by_cases h3 : 65536 < size
      · have d3 : decide (65536 < size) = true := decide_eq_true h3
        rw [if_pos (.inr (.inr h3))]
        clear hb
        go_enter Tryd.func9, Tryd.ntmps9
        go_wp2
        go_ret2
        exact ⟨rfl, rfl⟩
      · have d3 : decide (65536 < size) = false := decide_eq_false h3
        rw [if_neg (by omega)] at hb ⊢
        by_cases h4 : 1048576 < n
        · have d4 : decide (1048576 < n) = true := decide_eq_true h4
          have d5 : decide ((1048576 : Int) < (n : Int)) = true := decide_eq_true (by omega)
          rw [if_pos h4]
          clear hb
          go_enter Tryd.func9, Tryd.ntmps9
          go_wp2
          go_ret2
          exact ⟨rfl, rfl⟩
        · rw [if_neg h4] at hb
          exact absurd rfl hb

/-- The reference's pieces under way. -/
structure RCutI (w : World) (id : Int) (xs : List UInt8) (n z : Nat) (k o : Nat) (v : Value) (wr : World) : Prop where
  eo : o = k * z
  mid : k = 0 ∨ (k - 1) * z < n ∨ k = 1
  row : ∃ cs, Row wr 37 5 v k cs ∧ ∀ j, j < k → ∃ D m dk, (∀ t, t < 5 → cs[j * 5 + t]? = (pcl id (j * z) n (crcOf xs) (.slice D m dk))[t]?) ∧ Own8 wr 5 (.slice D m dk) ((xs.drop (j * z)).take z)
  fr : Fr (fun _ => False) w wr
  newV : ∀ x, v.ownBlock = some x → w.heap.size ≤ x
theorem RCutI.pcs {w wr : World} {id : Int} {xs : List UInt8} {n z k o : Nat} {v : Value} (h : RCutI w id xs n z k o v wr) (hn : xs.length = n) (hk : (k : Int) ≤ 140737488355328) : Pcs wr wr.heap.size v k (cutPc id xs z) := by
  obtain ⟨cs, row, hcs⟩ := h.row
  obtain ⟨A', c', e, _, _, hA⟩ := row.form
  refine ⟨hk, A', c', e, fun j hj => ?_⟩
  obtain ⟨b, off, rfl⟩ := hA (by omega)
  subst e
  obtain ⟨D, m, dk, hc, ho⟩ := hcs j hj
  have hc0 : ∀ t u, t < 5 → (pcl id (j * z) n (crcOf xs) (.slice D m dk))[t]? = some u → wr.cell? ⟨b, off + j * 5 + t, none⟩ = some u := fun t u ht hu => by
    rw [← hc t ht] at hu
    have := row.cell hu
    rw [Nat.add_assoc]; exact this
  obtain ⟨A2, cc, e9, o1, o2⟩ := ho.slice
  injection e9 with e9a e9b e9c
  subst e9a e9b e9c
  refine ⟨b, off, rfl, D, _, dk, hc0 0 _ (by omega) rfl, hc0 1 _ (by omega) rfl, hc0 2 _ (by omega) (by unfold cutPc; rw [hn]; rfl), hc0 3 _ (by omega) rfl, hc0 4 _ (by omega) rfl, ⟨rfl, o1, o2, ho.rd, fun ad e h0 => ?_⟩, row.lt rfl, Nat.le_refl _⟩
  rcases ho.form with ⟨e1, _⟩ | ⟨g, cp, e1, _⟩
  · injection e1 with e1; subst e1; cases e
  · injection e1 with e1 e2 e3
    subst e1
    injection e with e
    subst e
    exact ho.lt rfl

theorem sl_five' (w : World) (id : Int) (o n u : Nat) (x : Value) : Sl (w.alloc (.cells #[.int .i64 id, .int .i64 (o : Int), .int .i64 (n : Int), .int .u32 (u : Int), x] 37)) 5 (.slice (some ⟨w.heap.size, 0, none⟩) 1 1) 1 (pcl id o n u x) :=
  Sl.at rfl rfl (fun j y hy => by rw [Nat.zero_add, (Bk.new w _ _).cell]; simpa [pcl] using hy)

set_option maxRecDepth 100000 in
set_option maxHeartbeats 4000000 in
theorem refCut_ok (id : Int) (A : Option Addr) (n c : Nat) (xs : List UInt8) (z F : Nat) (w : World) (hs : Sl8 w F A n c xs) (hid : 0 ≤ id) (hnb : n ≤ 1048576) (hz1 : 1 ≤ z) (hz2 : z ≤ 65536) :
    Calls Tryd.prog 9 #[.int .i64 id, .slice A n c, .int .i64 (z : Int)] w fun e w' => ∃ k o v, e = .returned (.tuple #[v, .int .i64 0]) ∧ RCutI w id xs n z k o v w' ∧ 1 ≤ k ∧ n ≤ o ∧ k ≤ 1048577 := by
  have HS := Lib.hid hs
  have HN := Lib.hid hs.1
  obtain ⟨u, hu⟩ : ∃ u, crcOf xs = u := ⟨_, rfl⟩
  have HU := Lib.hid hu
  have CS : Hid (Calls Tryd.prog 24 #[.slice A n c] w fun e w2 => e = .returned (.int .u32 (u : Int)) ∧ w = w2) := Lib.hid (by
    have := refSum_any A n c xs w hs.2.2.2.1 hs.1 (by omega)
    rwa [hu] at this)
  have HNB := Lib.hid hnb
  have HZ1 := Lib.hid hz1
  have HZ2 := Lib.hid hz2
  have d1 : decide (id < 0) = false := decide_eq_false (by omega)
  have d2 : decide ((z : Int) < 1) = false := decide_eq_false (by omega)
  have d3 : decide ((65536 : Int) < (z : Int)) = false := decide_eq_false (by omega)
  have d3' : decide (65536 < z) = false := decide_eq_false (by omega)
  have d4 : decide (1048576 < n) = false := decide_eq_false (by omega)
  have d5 : decide ((1048576 : Int) < (n : Int)) = false := decide_eq_false (by omega)
  have d2' : decide (z < 1) = false := decide_eq_false (by omega)
  clear hs hu
  go_enter Tryd.func9, Tryd.ntmps9
  go_wp2_with fail
  refine CS.out.mono ?_; rintro e w1 ⟨rfl, rfl⟩
  clear CS d1 d2 d3 d3' d4 d5 d2'
  go_wp2_with fail
  go_loopw [10, 9] (fun a l wr => ∃ (k o : Nat) (lA : Option Addr) (lc : Nat), a = .int .i64 (o : Int) ∧ l = .slice lA k lc ∧ Hid (RCutI w id xs n z k o (.slice lA k lc) wr)) (fun a _ _ => n + z + 1 - (intOf a).toNat)
  case atStart =>
    exact ⟨0, 0, none, 0, rfl, rfl, Lib.hid ⟨by simp, .inl rfl, ⟨[], Row.nil _ _ _, fun j h => by omega⟩, Fr.refl _ _, fun x hx => by simp [Value.ownBlock] at hx⟩⟩
  case round =>
    obtain ⟨k, o, lA, lc, rfl, rfl, HI⟩ := hrel
    have HOB : Hid ((k = 0 ∧ o = 0) ∨ (1 ≤ k ∧ 1 ≤ o ∧ k ≤ o)) := Lib.hid (by
      have h1 := HI.out.eo; have h2 := HZ1.out
      rcases Nat.eq_zero_or_pos k with h | h
      · left; subst h; simp at h1; exact ⟨rfl, h1⟩
      · right
        have : k ≤ k * z := Nat.le_mul_of_pos_right k (by omega)
        omega)
    have HOM : Hid (o ≤ n + z) := Lib.hid (by
      have h1 := HI.out.eo
      rcases HI.out.mid with h | h | h
      · subst h; simp at h1; omega
      · have : k * z = (k - 1) * z + z ∨ k = 0 := by
          rcases Nat.eq_zero_or_pos k with h | h
          · exact .inr h
          · left
            obtain ⟨k', rfl⟩ : ∃ k', k = k' + 1 := ⟨k - 1, by omega⟩
            rw [Nat.succ_mul]; rfl
        rcases this with h3 | h3
        · omega
        · subst h3; simp at h1; omega
      · subst h; simp at h1; omega)
    have HKB : Hid (o < n ∨ o = 0 → k ≤ 1048576) := Lib.hid (fun h => by have := HOB.out; have := HNB.out; omega)
    have t0 : (o : Int) ≤ 1114113 := by have := HOM.out; have := HNB.out; have := HZ2.out; omega
    by_cases hgo : o = 0 ∨ o < n
    · have HGO := Lib.hid hgo
      obtain ⟨m, hm⟩ : ∃ m : Nat, (if z ≤ n - o then z else n - o) = m := ⟨_, rfl⟩
      have HM : Hid (m = min z (n - o) ∧ o + m ≤ n) := Lib.hid (by
        have : o ≤ n := by rcases hgo with h | h <;> omega
        split at hm <;> omega)
      obtain ⟨y, hy⟩ : ∃ y : Nat, n - o = y := ⟨_, rfl⟩
      have HY : Hid (n - o = y ∧ o ≤ n) := Lib.hid ⟨hy, by rcases hgo with h | h <;> omega⟩
      have w1' : IntKind.i64.wrap ((n : Int) - (o : Int)) = (y : Int) := by rw [IntWalk.i64_in _ (by have := HY.out.2; have := HNB.out; omega)]; have := HY.out; omega
      obtain ⟨pa, hpa⟩ : ∃ pa : Nat, o + m = pa := ⟨_, rfl⟩
      have w2' : IntKind.i64.wrap ((o : Int) + (m : Int)) = (pa : Int) := by rw [IntWalk.i64_in _ (by have := HM.out.2; have := HNB.out; omega)]; omega
      obtain ⟨o2, ho2⟩ : ∃ o2 : Nat, o + z = o2 := ⟨_, rfl⟩
      have w3' : IntKind.i64.wrap ((o : Int) + (z : Int)) = (o2 : Int) := by rw [IntWalk.i64_in _ (by have := HOM.out; have := HNB.out; have := HZ2.out; omega)]; omega
      have HO2 := Lib.hid ho2
      have HPA := Lib.hid hpa
      obtain ⟨A2, c2, hsl, _, _, _, hrd⟩ := run_pieceB A n c o m pa hpa HM.out.2 HS.out.2.1 HS.out.2.2.1 HS.out.base
      have HRD : Hid (∀ w', Fr (fun _ => False) w w' → Rd8 w' A2 ((xs.drop o).take m)) := Lib.hid (fun w' hf => hrd w' xs HN.out (HS.out.2.2.2.1.fr hf (fun _ _ _ h => h)))
      obtain ⟨qs, hqs⟩ : ∃ qs, (xs.drop o).take m = qs := ⟨_, rfl⟩
      have HQL : Hid (qs.length = m) := Lib.hid (by rw [← hqs]; simp; have := HM.out; have := HN.out; omega)
      have HQS : Hid ((xs.drop (k * z)).take z = qs) := Lib.hid (by
        rw [← hqs, HM.out.1, ← HI.out.eo, List.take_eq_take_iff]
        simp; have := HN.out; omega)
      rw [hqs] at HRD
      clear hpa hqs hrd ho2 hy
      by_cases h0 : o = 0
      · have g1 : (o == 0) = true := by rw [beq_iff_eq]; exact h0
        have g1' : ((o : Int) == 0) = true := by rw [beq_iff_eq]; omega
        by_cases hyz : y < z
        · have e1 : decide (y < z) = true := decide_eq_true hyz
          have e2 : decide ((y : Int) < (z : Int)) = true := decide_eq_true (by omega)
          obtain rfl : m = y := by have := HM.out.1; have := HY.out.1; omega
          clear hgo h0 hyz
          have ho0 : ∀ W : World, Own8 (W.alloc (.cells #[] 5)) 5 (.slice (some ⟨W.heap.size, 0, none⟩) 0 0) [] := fun W => Own8.fresh W 5 #[] 0 rfl (by decide)
          have HO0 := Lib.hid ho0
          clear ho0 hm
          go_wp2_with (first
            | (at_builtin; (refine wpList_append8s _ rfl (.tmp 55) (.tmp 61) Tryd.t8 rfl (.slice (some ⟨wr.heap.size, 0, none⟩) 0 0) [] rfl (HO0.out wr) A2 m c2 qs rfl HQL.out (HRD.out _ (HI.out.fr.alloc (.cells #[] 5))) (by have := HQL.out; have := HM.out; have := HNB.out; simp; omega) ?_; intro A1 c1 w1 ho1 hf1 hm1; generalize hLL : ([] : List UInt8).length + qs.length = LL at *; have HN1 : Hid (Fresh wr w1 (.slice A1 LL c1)) := Lib.hid (Fresh.step (v1 := .slice (some ⟨wr.heap.size, 0, none⟩) 0 0) (Fresh.new wr (.cells #[] 5) 0 0) hf1 hm1); simp only [List.nil_append] at ho1; have HO1 := Lib.hid ho1; have HLL := Lib.hid hLL; clear ho1 hf1 hm1 hLL))
            | (at_builtin; (obtain ⟨cs, hrow, hcs⟩ := HI.out.row; have HCS := Lib.hid hcs; have hrow2 := (hrow.fr0 HN1.out.1).fr0 ((Fr.refl _ w1).alloc (.cells #[.int .i64 id, .int .i64 (o : Int), .int .i64 (n : Int), .int .u32 (u : Int), .slice A1 LL c1] 37)); have hsl5 := sl_five' w1 id o n u (.slice A1 LL c1); refine wpList_appendR Tryd.teD rfl (.tmp 49) (.tmp 64) rfl (.slice lA k lc) k cs rfl hrow2 _ 1 (pcl id o n u (.slice A1 LL c1)) rfl hsl5 (pcl_one _ _ _ _ _ rfl) (by have := HKB.out (by have := HGO.out; omega); unfold maxLen; omega) (by have := HKB.out (by have := HGO.out; omega); omega) ?_; intro A3 c3 w3 hr3 hf3 hm3; have HR3 := Lib.hid hr3; have HF3 : Hid (Fr (fun x => (Value.slice lA k lc).ownBlock = some x) w1 w3) := Lib.hid (((Fr.refl _ _).alloc _).trans hf3 (fun _ _ h => h)); have HM3 := Lib.hid hm3; have HROW := Lib.hid hrow; clear hrow hcs hrow2 hsl5 hr3 hf3 hm3)))
          have HFA : Hid (Fr (fun x => (Value.slice lA k lc).ownBlock = some x) wr w3) := Lib.hid ((HN1.out.1.mono (fun _ _ h => h.elim)).trans HF3.out (fun _ _ h => h))
          refine ⟨⟨k + 1, o2, A3, c3, rfl, rfl, Lib.hid ⟨?_, ?_, ⟨_, HR3.out, ?_⟩, ?_, ?_⟩⟩, ?_⟩
          · rw [← HO2.out, HI.out.eo, Nat.succ_mul]
          · right
            have h1 := HI.out.eo; have h2 := HGO.out
            have h3 : (k + 1 - 1) * z = o := by rw [h1]; rfl
            rw [h3]
            rcases h2 with h | h
            · right; have := HOB.out; omega
            · left; exact h
          · have hcl : cs.length = k * 5 := HROW.out.1
            intro j hj
            by_cases hjk : j < k
            · obtain ⟨D, m', dk, h1, h2⟩ := HCS.out j hjk
              refine ⟨D, m', dk, fun t ht => ?_, h2.fr HFA.out (fun x hx e => ?_)⟩
              · rw [List.getElem?_append_left (by omega)]; exact h1 t ht
              · obtain ⟨cb, hcb⟩ := HROW.out.bk e
                exact h2.ne hcb (by decide) hx
            · obtain rfl : j = k := by omega
              refine ⟨A1, LL, c1, fun t ht => ?_, ?_⟩
              · rw [List.getElem?_append_right (by omega), hcl, HU.out, ← HI.out.eo]
                congr 1; omega
              · rw [HQS.out]
                refine HO1.out.fr HF3.out (fun x hx e => ?_)
                obtain ⟨cb, hcb⟩ := (HROW.out.fr0 HN1.out.1).bk e
                exact HO1.out.ne hcb (by decide) hx
          · exact HI.out.fr.trans HFA.out (fun x hx e => by have := HI.out.newV x e; omega)
          · intro x hx
            rcases HM3.out with h | ⟨x', h, hx'⟩
            · rw [h] at hx; exact HI.out.newV x hx
            · rw [h] at hx; injection hx with hx
              have h1 := HI.out.fr.size; have h2 := HN1.out.1.size; simp at hx'; omega
          · have h1 := HOM.out; have h2 := HO2.out; have h3 := HZ1.out; have h4 := HGO.out
            first | (show n + z + 1 - ((o2 : Int)).toNat < n + z + 1 - ((o : Int)).toNat; omega) | (simp [intOf]; omega)
        · have e1 : decide (y < z) = false := decide_eq_false hyz
          have e2 : decide ((y : Int) < (z : Int)) = false := decide_eq_false (by omega)
          obtain rfl : z = m := by have := HM.out.1; have := HY.out.1; omega
          obtain rfl : o2 = pa := by have := HPA.out; have := HO2.out; omega
          clear hgo h0 hyz
          have ho0 : ∀ W : World, Own8 (W.alloc (.cells #[] 5)) 5 (.slice (some ⟨W.heap.size, 0, none⟩) 0 0) [] := fun W => Own8.fresh W 5 #[] 0 rfl (by decide)
          have HO0 := Lib.hid ho0
          clear ho0 hm
          go_wp2_with (first
            | (at_builtin; (refine wpList_append8s _ rfl (.tmp 55) (.tmp 61) Tryd.t8 rfl (.slice (some ⟨wr.heap.size, 0, none⟩) 0 0) [] rfl (HO0.out wr) A2 z c2 qs rfl HQL.out (HRD.out _ (HI.out.fr.alloc (.cells #[] 5))) (by have := HQL.out; have := HM.out; have := HNB.out; simp; omega) ?_; intro A1 c1 w1 ho1 hf1 hm1; generalize hLL : ([] : List UInt8).length + qs.length = LL at *; have HN1 : Hid (Fresh wr w1 (.slice A1 LL c1)) := Lib.hid (Fresh.step (v1 := .slice (some ⟨wr.heap.size, 0, none⟩) 0 0) (Fresh.new wr (.cells #[] 5) 0 0) hf1 hm1); simp only [List.nil_append] at ho1; have HO1 := Lib.hid ho1; have HLL := Lib.hid hLL; clear ho1 hf1 hm1 hLL))
            | (at_builtin; (obtain ⟨cs, hrow, hcs⟩ := HI.out.row; have HCS := Lib.hid hcs; have hrow2 := (hrow.fr0 HN1.out.1).fr0 ((Fr.refl _ w1).alloc (.cells #[.int .i64 id, .int .i64 (o : Int), .int .i64 (n : Int), .int .u32 (u : Int), .slice A1 LL c1] 37)); have hsl5 := sl_five' w1 id o n u (.slice A1 LL c1); refine wpList_appendR Tryd.teD rfl (.tmp 49) (.tmp 64) rfl (.slice lA k lc) k cs rfl hrow2 _ 1 (pcl id o n u (.slice A1 LL c1)) rfl hsl5 (pcl_one _ _ _ _ _ rfl) (by have := HKB.out (by have := HGO.out; omega); unfold maxLen; omega) (by have := HKB.out (by have := HGO.out; omega); omega) ?_; intro A3 c3 w3 hr3 hf3 hm3; have HR3 := Lib.hid hr3; have HF3 : Hid (Fr (fun x => (Value.slice lA k lc).ownBlock = some x) w1 w3) := Lib.hid (((Fr.refl _ _).alloc _).trans hf3 (fun _ _ h => h)); have HM3 := Lib.hid hm3; have HROW := Lib.hid hrow; clear hrow hcs hrow2 hsl5 hr3 hf3 hm3)))
          have HFA : Hid (Fr (fun x => (Value.slice lA k lc).ownBlock = some x) wr w3) := Lib.hid ((HN1.out.1.mono (fun _ _ h => h.elim)).trans HF3.out (fun _ _ h => h))
          refine ⟨⟨k + 1, o2, A3, c3, rfl, rfl, Lib.hid ⟨?_, ?_, ⟨_, HR3.out, ?_⟩, ?_, ?_⟩⟩, ?_⟩
          · rw [← HO2.out, HI.out.eo, Nat.succ_mul]
          · right
            have h1 := HI.out.eo; have h2 := HGO.out
            have h3 : (k + 1 - 1) * z = o := by rw [h1]; rfl
            rw [h3]
            rcases h2 with h | h
            · right; have := HOB.out; omega
            · left; exact h
          · have hcl : cs.length = k * 5 := HROW.out.1
            intro j hj
            by_cases hjk : j < k
            · obtain ⟨D, m', dk, h1, h2⟩ := HCS.out j hjk
              refine ⟨D, m', dk, fun t ht => ?_, h2.fr HFA.out (fun x hx e => ?_)⟩
              · rw [List.getElem?_append_left (by omega)]; exact h1 t ht
              · obtain ⟨cb, hcb⟩ := HROW.out.bk e
                exact h2.ne hcb (by decide) hx
            · obtain rfl : j = k := by omega
              refine ⟨A1, LL, c1, fun t ht => ?_, ?_⟩
              · rw [List.getElem?_append_right (by omega), hcl, HU.out, ← HI.out.eo]
                congr 1; omega
              · rw [HQS.out]
                refine HO1.out.fr HF3.out (fun x hx e => ?_)
                obtain ⟨cb, hcb⟩ := (HROW.out.fr0 HN1.out.1).bk e
                exact HO1.out.ne hcb (by decide) hx
          · exact HI.out.fr.trans HFA.out (fun x hx e => by have := HI.out.newV x e; omega)
          · intro x hx
            rcases HM3.out with h | ⟨x', h, hx'⟩
            · rw [h] at hx; exact HI.out.newV x hx
            · rw [h] at hx; injection hx with hx
              have h1 := HI.out.fr.size; have h2 := HN1.out.1.size; simp at hx'; omega
          · have h1 := HOM.out; have h2 := HO2.out; have h3 := HZ1.out; have h4 := HGO.out
            first | (show n + z + 1 - ((o2 : Int)).toNat < n + z + 1 - ((o : Int)).toNat; omega) | (simp [intOf]; omega)
      · have g1 : (o == 0) = false := by rw [beq_eq_false_iff_ne]; exact h0
        have g1' : ((o : Int) == 0) = false := by rw [beq_eq_false_iff_ne]; omega
        have g2 : decide (o < n) = true := decide_eq_true (by omega)
        have g2' : decide ((o : Int) < (n : Int)) = true := decide_eq_true (by omega)
        by_cases hyz : y < z
        · have e1 : decide (y < z) = true := decide_eq_true hyz
          have e2 : decide ((y : Int) < (z : Int)) = true := decide_eq_true (by omega)
          obtain rfl : m = y := by have := HM.out.1; have := HY.out.1; omega
          clear hgo h0 hyz
          have ho0 : ∀ W : World, Own8 (W.alloc (.cells #[] 5)) 5 (.slice (some ⟨W.heap.size, 0, none⟩) 0 0) [] := fun W => Own8.fresh W 5 #[] 0 rfl (by decide)
          have HO0 := Lib.hid ho0
          clear ho0 hm
          go_wp2_with (first
            | (at_builtin; (refine wpList_append8s _ rfl (.tmp 55) (.tmp 61) Tryd.t8 rfl (.slice (some ⟨wr.heap.size, 0, none⟩) 0 0) [] rfl (HO0.out wr) A2 m c2 qs rfl HQL.out (HRD.out _ (HI.out.fr.alloc (.cells #[] 5))) (by have := HQL.out; have := HM.out; have := HNB.out; simp; omega) ?_; intro A1 c1 w1 ho1 hf1 hm1; generalize hLL : ([] : List UInt8).length + qs.length = LL at *; have HN1 : Hid (Fresh wr w1 (.slice A1 LL c1)) := Lib.hid (Fresh.step (v1 := .slice (some ⟨wr.heap.size, 0, none⟩) 0 0) (Fresh.new wr (.cells #[] 5) 0 0) hf1 hm1); simp only [List.nil_append] at ho1; have HO1 := Lib.hid ho1; have HLL := Lib.hid hLL; clear ho1 hf1 hm1 hLL))
            | (at_builtin; (obtain ⟨cs, hrow, hcs⟩ := HI.out.row; have HCS := Lib.hid hcs; have hrow2 := (hrow.fr0 HN1.out.1).fr0 ((Fr.refl _ w1).alloc (.cells #[.int .i64 id, .int .i64 (o : Int), .int .i64 (n : Int), .int .u32 (u : Int), .slice A1 LL c1] 37)); have hsl5 := sl_five' w1 id o n u (.slice A1 LL c1); refine wpList_appendR Tryd.teD rfl (.tmp 49) (.tmp 64) rfl (.slice lA k lc) k cs rfl hrow2 _ 1 (pcl id o n u (.slice A1 LL c1)) rfl hsl5 (pcl_one _ _ _ _ _ rfl) (by have := HKB.out (by have := HGO.out; omega); unfold maxLen; omega) (by have := HKB.out (by have := HGO.out; omega); omega) ?_; intro A3 c3 w3 hr3 hf3 hm3; have HR3 := Lib.hid hr3; have HF3 : Hid (Fr (fun x => (Value.slice lA k lc).ownBlock = some x) w1 w3) := Lib.hid (((Fr.refl _ _).alloc _).trans hf3 (fun _ _ h => h)); have HM3 := Lib.hid hm3; have HROW := Lib.hid hrow; clear hrow hcs hrow2 hsl5 hr3 hf3 hm3)))
          have HFA : Hid (Fr (fun x => (Value.slice lA k lc).ownBlock = some x) wr w3) := Lib.hid ((HN1.out.1.mono (fun _ _ h => h.elim)).trans HF3.out (fun _ _ h => h))
          refine ⟨⟨k + 1, o2, A3, c3, rfl, rfl, Lib.hid ⟨?_, ?_, ⟨_, HR3.out, ?_⟩, ?_, ?_⟩⟩, ?_⟩
          · rw [← HO2.out, HI.out.eo, Nat.succ_mul]
          · right
            have h1 := HI.out.eo; have h2 := HGO.out
            have h3 : (k + 1 - 1) * z = o := by rw [h1]; rfl
            rw [h3]
            rcases h2 with h | h
            · right; have := HOB.out; omega
            · left; exact h
          · have hcl : cs.length = k * 5 := HROW.out.1
            intro j hj
            by_cases hjk : j < k
            · obtain ⟨D, m', dk, h1, h2⟩ := HCS.out j hjk
              refine ⟨D, m', dk, fun t ht => ?_, h2.fr HFA.out (fun x hx e => ?_)⟩
              · rw [List.getElem?_append_left (by omega)]; exact h1 t ht
              · obtain ⟨cb, hcb⟩ := HROW.out.bk e
                exact h2.ne hcb (by decide) hx
            · obtain rfl : j = k := by omega
              refine ⟨A1, LL, c1, fun t ht => ?_, ?_⟩
              · rw [List.getElem?_append_right (by omega), hcl, HU.out, ← HI.out.eo]
                congr 1; omega
              · rw [HQS.out]
                refine HO1.out.fr HF3.out (fun x hx e => ?_)
                obtain ⟨cb, hcb⟩ := (HROW.out.fr0 HN1.out.1).bk e
                exact HO1.out.ne hcb (by decide) hx
          · exact HI.out.fr.trans HFA.out (fun x hx e => by have := HI.out.newV x e; omega)
          · intro x hx
            rcases HM3.out with h | ⟨x', h, hx'⟩
            · rw [h] at hx; exact HI.out.newV x hx
            · rw [h] at hx; injection hx with hx
              have h1 := HI.out.fr.size; have h2 := HN1.out.1.size; simp at hx'; omega
          · have h1 := HOM.out; have h2 := HO2.out; have h3 := HZ1.out; have h4 := HGO.out
            first | (show n + z + 1 - ((o2 : Int)).toNat < n + z + 1 - ((o : Int)).toNat; omega) | (simp [intOf]; omega)
        · have e1 : decide (y < z) = false := decide_eq_false hyz
          have e2 : decide ((y : Int) < (z : Int)) = false := decide_eq_false (by omega)
          obtain rfl : z = m := by have := HM.out.1; have := HY.out.1; omega
          obtain rfl : o2 = pa := by have := HPA.out; have := HO2.out; omega
          clear hgo h0 hyz
          have ho0 : ∀ W : World, Own8 (W.alloc (.cells #[] 5)) 5 (.slice (some ⟨W.heap.size, 0, none⟩) 0 0) [] := fun W => Own8.fresh W 5 #[] 0 rfl (by decide)
          have HO0 := Lib.hid ho0
          clear ho0 hm
          go_wp2_with (first
            | (at_builtin; (refine wpList_append8s _ rfl (.tmp 55) (.tmp 61) Tryd.t8 rfl (.slice (some ⟨wr.heap.size, 0, none⟩) 0 0) [] rfl (HO0.out wr) A2 z c2 qs rfl HQL.out (HRD.out _ (HI.out.fr.alloc (.cells #[] 5))) (by have := HQL.out; have := HM.out; have := HNB.out; simp; omega) ?_; intro A1 c1 w1 ho1 hf1 hm1; generalize hLL : ([] : List UInt8).length + qs.length = LL at *; have HN1 : Hid (Fresh wr w1 (.slice A1 LL c1)) := Lib.hid (Fresh.step (v1 := .slice (some ⟨wr.heap.size, 0, none⟩) 0 0) (Fresh.new wr (.cells #[] 5) 0 0) hf1 hm1); simp only [List.nil_append] at ho1; have HO1 := Lib.hid ho1; have HLL := Lib.hid hLL; clear ho1 hf1 hm1 hLL))
            | (at_builtin; (obtain ⟨cs, hrow, hcs⟩ := HI.out.row; have HCS := Lib.hid hcs; have hrow2 := (hrow.fr0 HN1.out.1).fr0 ((Fr.refl _ w1).alloc (.cells #[.int .i64 id, .int .i64 (o : Int), .int .i64 (n : Int), .int .u32 (u : Int), .slice A1 LL c1] 37)); have hsl5 := sl_five' w1 id o n u (.slice A1 LL c1); refine wpList_appendR Tryd.teD rfl (.tmp 49) (.tmp 64) rfl (.slice lA k lc) k cs rfl hrow2 _ 1 (pcl id o n u (.slice A1 LL c1)) rfl hsl5 (pcl_one _ _ _ _ _ rfl) (by have := HKB.out (by have := HGO.out; omega); unfold maxLen; omega) (by have := HKB.out (by have := HGO.out; omega); omega) ?_; intro A3 c3 w3 hr3 hf3 hm3; have HR3 := Lib.hid hr3; have HF3 : Hid (Fr (fun x => (Value.slice lA k lc).ownBlock = some x) w1 w3) := Lib.hid (((Fr.refl _ _).alloc _).trans hf3 (fun _ _ h => h)); have HM3 := Lib.hid hm3; have HROW := Lib.hid hrow; clear hrow hcs hrow2 hsl5 hr3 hf3 hm3)))
          have HFA : Hid (Fr (fun x => (Value.slice lA k lc).ownBlock = some x) wr w3) := Lib.hid ((HN1.out.1.mono (fun _ _ h => h.elim)).trans HF3.out (fun _ _ h => h))
          refine ⟨⟨k + 1, o2, A3, c3, rfl, rfl, Lib.hid ⟨?_, ?_, ⟨_, HR3.out, ?_⟩, ?_, ?_⟩⟩, ?_⟩
          · rw [← HO2.out, HI.out.eo, Nat.succ_mul]
          · right
            have h1 := HI.out.eo; have h2 := HGO.out
            have h3 : (k + 1 - 1) * z = o := by rw [h1]; rfl
            rw [h3]
            rcases h2 with h | h
            · right; have := HOB.out; omega
            · left; exact h
          · have hcl : cs.length = k * 5 := HROW.out.1
            intro j hj
            by_cases hjk : j < k
            · obtain ⟨D, m', dk, h1, h2⟩ := HCS.out j hjk
              refine ⟨D, m', dk, fun t ht => ?_, h2.fr HFA.out (fun x hx e => ?_)⟩
              · rw [List.getElem?_append_left (by omega)]; exact h1 t ht
              · obtain ⟨cb, hcb⟩ := HROW.out.bk e
                exact h2.ne hcb (by decide) hx
            · obtain rfl : j = k := by omega
              refine ⟨A1, LL, c1, fun t ht => ?_, ?_⟩
              · rw [List.getElem?_append_right (by omega), hcl, HU.out, ← HI.out.eo]
                congr 1; omega
              · rw [HQS.out]
                refine HO1.out.fr HF3.out (fun x hx e => ?_)
                obtain ⟨cb, hcb⟩ := (HROW.out.fr0 HN1.out.1).bk e
                exact HO1.out.ne hcb (by decide) hx
          · exact HI.out.fr.trans HFA.out (fun x hx e => by have := HI.out.newV x e; omega)
          · intro x hx
            rcases HM3.out with h | ⟨x', h, hx'⟩
            · rw [h] at hx; exact HI.out.newV x hx
            · rw [h] at hx; injection hx with hx
              have h1 := HI.out.fr.size; have h2 := HN1.out.1.size; simp at hx'; omega
          · have h1 := HOM.out; have h2 := HO2.out; have h3 := HZ1.out; have h4 := HGO.out
            first | (show n + z + 1 - ((o2 : Int)).toNat < n + z + 1 - ((o : Int)).toNat; omega) | (simp [intOf]; omega)
    · have g1 : (o == 0) = false := by rw [beq_eq_false_iff_ne]; omega
      have g1' : ((o : Int) == 0) = false := by rw [beq_eq_false_iff_ne]; omega
      have g2 : decide (o < n) = false := decide_eq_false (by omega)
      have g2' : decide ((o : Int) < (n : Int)) = false := decide_eq_false (by omega)
      have HG := Lib.hid hgo
      clear hgo
      go_wp2
      go_ret2
      refine ⟨k, o, .slice lA k lc, rfl, HI.out, ?_, ?_, ?_⟩
      · have := HOB.out; have := HG.out; omega
      · have := HG.out; omega
      · have h1 := HI.out.mid; have h2 := HNB.out; have h3 := HZ1.out
        rcases h1 with h | h | h
        · omega
        · have : k - 1 ≤ (k - 1) * z := Nat.le_mul_of_pos_right _ (by omega)
          omega
        · omega
end Go.Proofs.YtacafjbbdklleaaDoor
