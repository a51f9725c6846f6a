/- The clock's Drop and Next. -/
import Derived.Test.YtholaofgdahcbaaWm
namespace Go.Proofs.Ytholaofgdahcbaa
open Go.RowKit Go.Maps

section
variable {P : Program} (w : World) {ops : Array Oper} {rest : List Oper} {o : Oper} {a : Act} {Q : Exit → Act → World → Prop}
/-- A look-up, with its 'ok', in a map that was never made. -/
theorem wpList_lookup_nil_ok (hg : o.guard = none) (m x : Operand) (t : TypeId) (hop : o.op = Op.lookup t m x true) (k e : TypeId) (K : Keyed P k) (ht : P.underlying t = some (.map k e)) {z : Value} (hz : (zeroValue e).run P w = .ok z w)
    (hm : a.eval m = .map none) (key : Value) (kl : Lit) (hx : a.eval x = key) (hkey : keyOf P k key = some kl)
    (hK : wpList P ops Q rest (a.put o.dst (.tuple #[z, .bool false])) w) : wpList P ops Q (o :: rest) a w := by
  refine wpList_plain hg fun K' hK' => ?_
  unfold Oper.wp
  simp [execOp, hop, hm, hx, Maps.look_nil true K ht hz hkey, Result.andThen]
  exact hK' _ _ hK
end

theorem has_none (x : Int) : has (DataW.map [] : DataW Unit) (.int .i64 x) = false := by simp [has]
set_option maxRecDepth 100000 in
set_option maxHeartbeats 2000000 in
theorem drop_any (g : Nat) (now id : Int) (m : Option Nat) (n : Nat) (D : DataW Unit) (w : World) (h : Clk w g now m n D) (hid : I64 id) :
    Calls Try.prog 11 #[.pointer (some ⟨g, 0, none⟩), .int .i64 id] w fun e w' => e = .returned (.bool (has D (.int .i64 id))) ∧ Clk w' g now m n (D.del (.int .i64 id)) ∧ Fr (fun k => m = some k) w w' := by
  have c1 : w.cell? ⟨g, 1, none⟩ = some (.map m) := h.1.cell 1
  have H := Lib.hid h
  rcases h.2 with ⟨rfl, rfl⟩ | ⟨b, rfl, hown⟩
  · rw [has_none, del_none]
    clear h
    go_enter Try.func11, Try.ntmps11
    go_wp2_with (first
      | (at_lookup; refine wpList_lookup_nil_ok _ rfl _ _ 41 rfl 3 3 kInt Try.underlying41 (zeroInt _) rfl _ _ rfl hid.key ?_)
      | (at_delete; refine wpList_delete_nil _ rfl _ _ 41 3 rfl 3 kInt Try.underlying41 rfl _ _ rfl hid.key ?_))
    go_ret
    exact ⟨rfl, H.out, Fr.refl _ _⟩
  · have hne := hown.ne H.out.1
    obtain ⟨hb, hhb⟩ : ∃ q, has D (.int .i64 id) = q := ⟨_, rfl⟩
    have HHB := Lib.hid hhb
    clear h hhb
    go_enter Try.func11, Try.ntmps11
    go_wp2_with (first
      | (at_lookup; refine wpList_lookup_own_ok_int _ rfl _ _ 41 rfl 3 3 .i64 kInt Try.underlying41 Try.underlying3 (zeroInt _) b n _ rfl hown _ _ rfl hid.key ?_; intro cc _ _; rw [HHB.out])
      | (at_delete; refine wpList_delete_own _ rfl _ _ 41 3 rfl 3 kInt Try.underlying41 _ b n _ rfl hown _ _ rfl hid.key ?_; intro w1 hown1 hturn1))
    go_ret
    have hfr := Fr.of_turned hturn1
    exact ⟨by rw [HHB.out]; rfl, ⟨H.out.1.fr hfr hne, .inr ⟨_, rfl, hown1⟩⟩, hfr.mono (fun x _ e => by rw [e])⟩

/-- What Next tells. -/
def NextOf (D : DataW Unit) (n : Int) (is : Bool) : Prop := (is = false ∧ n = 0 ∧ ∀ x, has D (.int .i64 x) = false) ∨ (is = true ∧ (∃ x, has D (.int .i64 x) = true ∧ tickOf D x = n) ∧ ∀ x, has D (.int .i64 x) = true → n ≤ tickOf D x)
/-- The same, of those that have come by. -/
def Min (D : DataW Unit) (left : Lit → Bool) (n : Int) (is : Bool) : Prop :=
  (is = false ∧ n = 0 ∧ ∀ x, has D (.int .i64 x) = true → left (.int .i64 x) = true) ∨ (is = true ∧ (∃ x, has D (.int .i64 x) = true ∧ tickOf D x = n) ∧ ∀ x, has D (.int .i64 x) = true → left (.int .i64 x) = false → n ≤ tickOf D x)
theorem Min.done {D : DataW Unit} {left : Lit → Bool} {n : Int} {is : Bool} (h : Min D left n is) (hl : ∀ kl, left kl = false) : NextOf D n is := by
  rcases h with ⟨h1, h2, h3⟩ | ⟨h1, h2, h3⟩
  · exact .inl ⟨h1, h2, fun x => by
      cases e : has D (.int .i64 x)
      · rfl
      · have := h3 x e; rw [hl] at this; cases this⟩
  · exact .inr ⟨h1, h2, fun x hx => h3 x hx (hl _)⟩
theorem Min.take {D : DataW Unit} {left : Lit → Bool} {n : Int} {is : Bool} (h : Min D left n is) {x c : Int} (hat : ∀ zd, D.atKey (.int .i64 x) zd = .lit (.int .i64 c)) (hlt : is = false ∨ c < n) :
    Min D (fun z => left z && !z.sameKey (.int .i64 x)) c true := by
  refine .inr ⟨rfl, ⟨x, has_true_of_atKey hat, tickOf_eq (hat _)⟩, fun y hy hl => ?_⟩
  simp only [sameKey_int] at hl
  by_cases e : y = x
  · subst e; rw [tickOf_eq (hat _)]; omega
  · have hl' : left (.int .i64 y) = false := by simpa [e] using hl
    rcases h with ⟨h1, h2, h3⟩ | ⟨h1, h2, h3⟩
    · rw [h3 y hy] at hl'; cases hl'
    · have := h3 y hy hl'
      rcases hlt with e2 | e2
      · rw [h1] at e2; cases e2
      · omega
theorem Min.pass {D : DataW Unit} {left : Lit → Bool} {n : Int} (h : Min D left n true) {x c : Int} (hat : ∀ zd, D.atKey (.int .i64 x) zd = .lit (.int .i64 c)) (hge : ¬ c < n) :
    Min D (fun z => left z && !z.sameKey (.int .i64 x)) n true := by
  rcases h with ⟨h1, _⟩ | ⟨h1, h2, h3⟩
  · cases h1
  · refine .inr ⟨rfl, h2, fun y hy hl => ?_⟩
    simp only [sameKey_int] at hl
    by_cases e : y = x
    · subst e; rw [tickOf_eq (hat _)]; omega
    · exact h3 y hy (by simpa [e] using hl)

set_option maxRecDepth 100000 in
set_option maxHeartbeats 2000000 in
theorem next_none (g n : Nat) (now : Int) (w : World) (h : Clk w g now none n (.map [])) :
    Calls Try.prog 15 #[.pointer (some ⟨g, 0, none⟩)] w fun e w' => e = .returned (.tuple #[.int .i64 0, .bool false]) ∧ Fr (fun _ => False) w w' := by
  have c1 : w.cell? ⟨g, 1, none⟩ = some (.map none) := h.1.cell 1
  have hF : Fr (fun _ => False) w (w.alloc (.mapIter none 0 #[] 0)) := (Fr.refl _ _).alloc _
  have HF := Lib.hid hF
  clear h hF
  go_enter Try.func15, Try.ntmps15
  go_wp2_with (first
    | (at_range; refine wpList_range_nil _ rfl _ 41 rfl 3 3 Try.underlying41 rfl ?_)
    | go_in)
  refine wp_loop_rounds 1 ?_
  rw [rounds_succ]
  go_wp2_with (at_next; refine wpList_next_nil w rfl _ rfl rfl ?_)
  generalize w.alloc (.mapIter none 0 #[] 0) = w1 at *
  clear c1
  go_wp2
  go_ret2
  exact ⟨rfl, HF.out⟩

set_option maxRecDepth 100000 in
set_option maxHeartbeats 2000000 in
theorem next_some (g b n : Nat) (now : Int) (D : DataW Unit) (w : World) (h : Clk w g now (some b) n D) :
    Calls Try.prog 15 #[.pointer (some ⟨g, 0, none⟩)] w fun e w' => ∃ t is, e = .returned (.tuple #[.int .i64 t, .bool is]) ∧ NextOf D t is ∧ Fr (fun _ => False) w w' := by
  have c1 : w.cell? ⟨g, 1, none⟩ = some (.map (some b)) := h.1.cell 1
  have hown : AM w b n D := by
    rcases h.2 with ⟨e, _⟩ | ⟨b', e, hb⟩
    · cases e
    · injection e with e; subst e; exact hb
  have hblt := hown.lt
  clear h
  go_enter Try.func15, Try.ntmps15
  go_wp2_with (first
    | (at_range; refine wpList_range_own _ rfl _ 41 rfl 3 3 kInt Try.underlying41 _ b n _ rfl hown ?_; intro w0 hrg0 hg0 hs0)
    | go_in)
  have hf0 : Fr (fun _ => False) w w0 := (Fr.of_grown hg0).mono (fun _ _ h => by simp at h)
  clear c1 hown hg0 hs0
  go_frame
  go_loopw [4, 5] (fun u z wr => ∃ (left : Lit → Bool) (cnt : Nat) (t : Int) (is : Bool), u = .int .i64 t ∧ z = .bool is ∧ Rng wr b w.heap.size n D left cnt ∧ Hid (Min D left t is) ∧ Hid (Fr (fun _ => False) w wr))
    (fun _ _ wr => wr.rangeLeft b w.heap.size)
  case atStart => exact ⟨_, _, 0, false, rfl, rfl, hrg0, Lib.hid (.inl ⟨rfl, rfl, fun x h => h⟩), Lib.hid hf0⟩
  case round =>
    clear hrg0 hf0
    obtain ⟨left, cnt, t, is, rfl, rfl, hrg, HM, HF⟩ := hrel
    go_wp2_with (first
      | (at_next; refine wpList_next_ranges_ii _ rfl _ rfl 3 3 .i64 .i64 kInt Try.underlying3 Try.underlying3 b w.heap.size n _ _ _ rfl hrg ?_ ?_)
      | go_in)
    · intro _ hl0
      have HN := Lib.hid (HM.out.done hl0)
      clear hrg hl0 HM
      go_wp2
      go_ret2
      exact ⟨t, is, rfl, HN.out, HF.out⟩
    · intro x c w1 cnt1 hwx hwc hlx hat hrg1 hlt hg1 hs1 hen
      have hf1 : Fr (fun k => k = w.heap.size) wr w1 := (Fr.of_grown hg1).mono (fun _ _ e => (Option.some.inj e).symm)
      have HF1 := Lib.hid (HF.out.trans hf1 (fun x hx e => by omega))
      have HLE := Lib.hid (show w1.rangeLeft b w.heap.size < wr.rangeLeft b w.heap.size from by rw [World.ranges.left_eq hrg1, World.ranges.left_eq hrg]; exact hlt)
      have HAT := Lib.hid hat
      clear hs1 hg1 hf1 hlt hwx hwc hlx
      cases is with
      | false =>
        have HM2 := Lib.hid (HM.out.take HAT.out (.inl rfl))
        clear HM hat
        go_wp2
        go_roundw
        case rel => exact ⟨_, cnt1, c, true, rfl, rfl, hrg1, HM2, HF1⟩
        case measure => exact HLE.out
      | true =>
        by_cases hc : c < t
        · have HM2 := Lib.hid (HM.out.take HAT.out (.inr hc))
          clear HM hat
          go_wp2
          go_roundw
          case rel => exact ⟨_, cnt1, c, true, rfl, rfl, hrg1, HM2, HF1⟩
          case measure => exact HLE.out
        · have hcd : decide (c < t) = false := decide_eq_false hc
          have HM2 := Lib.hid (HM.out.pass HAT.out hc)
          clear HM hat
          go_wp2
          go_roundw
          case rel => exact ⟨_, cnt1, t, true, rfl, rfl, hrg1, HM2, HF1⟩
          case measure => exact HLE.out

/-- Next: the least tick. -/
theorem cnext_any (g : Nat) (m : Option Nat) (n : Nat) (now : Int) (D : DataW Unit) (w : World) (h : Clk w g now m n D) :
    Calls Try.prog 15 #[.pointer (some ⟨g, 0, none⟩)] w fun e w' => ∃ t is, e = .returned (.tuple #[.int .i64 t, .bool is]) ∧ NextOf D t is ∧ Fr (fun _ => False) w w' := by
  rcases m with _ | b
  · have hD : D = .map [] := by
      rcases h.2 with ⟨_, e⟩ | ⟨b, e, _⟩
      · exact e
      · cases e
    subst hD
    exact (next_none g n now w h).mono fun _ _ ⟨h1, h2⟩ => ⟨0, false, h1, .inl ⟨rfl, rfl, has_none⟩, h2⟩
  · exact next_some g b n now D w h
end Go.Proofs.Ytholaofgdahcbaa
