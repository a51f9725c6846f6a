/- A clock: its map of alarms, NewClock, Now, Tick, Set. -/
import Derived.Test.YtholaofgdahcbaaSc
import Derived.Test.YtholaofgdahcbaaMapI
import Derived.Maps.OwnOps
import Derived.Maps.OwnSet
import Derived.Maps.RangeWalk
namespace Go.Proofs.Ytholaofgdahcbaa
open Go.RowKit Go.Maps

/-- The alarms: none yet, or a map. -/
def Alm (w : World) (m : Option Nat) (n : Nat) (D : DataW Unit) : Prop := (m = none ∧ D = .map []) ∨ ∃ b, m = some b ∧ AM w b n D
theorem Alm.fr {S : Nat → Prop} {w w' : World} {m : Option Nat} {n : Nat} {D : DataW Unit} (h : Alm w m n D) (hf : Fr S w w') (hS : ∀ b, m = some b → ¬ S b) : Alm w' m n D :=
  h.imp id fun ⟨b, e, hb⟩ => ⟨b, e, hb.fr hf (hS b e)⟩
theorem Alm.isMap {w : World} {m : Option Nat} {n : Nat} {D : DataW Unit} (h : Alm w m n D) : IsMap D := by
  rcases h with ⟨_, rfl⟩ | ⟨b, _, hb⟩
  · exact ⟨_, rfl⟩
  · exact World.ownsMap.isMap hb
/-- A clock at block g. -/
def Clk (w : World) (g : Nat) (now : Int) (m : Option Nat) (n : Nat) (D : DataW Unit) : Prop := Bk w g 49 #[.int .i64 now, .map m] ∧ Alm w m n D
/-- What a clock's calls may turn. -/
def CS (g : Nat) (m : Option Nat) : Nat → Prop := fun k => k = g ∨ m = some k
theorem Clk.fr {S : Nat → Prop} {w w' : World} {g : Nat} {now : Int} {m : Option Nat} {n : Nat} {D : DataW Unit} (h : Clk w g now m n D) (hf : Fr S w w') (hS : ∀ k, CS g m k → ¬ S k) : Clk w' g now m n D :=
  ⟨h.1.fr hf (hS g (.inl rfl)), h.2.fr hf fun b e => hS b (.inr e)⟩

theorem newClock_any (w : World) :
    Calls Try.prog 6 #[] w fun e w' => e = .returned (.pointer (some ⟨w.heap.size, 0, none⟩)) ∧ w' = w.alloc (.cells #[.int .i64 0, .map none] 49) := by
  go_enter Try.func6, Try.ntmps6
  go_wp2
  go_ret
  exact ⟨rfl, rfl⟩
theorem clk_new (w : World) (n : Nat) : Clk (w.alloc (.cells #[.int .i64 0, .map none] 49)) w.heap.size 0 none n (.map []) := ⟨Bk.new _ _ _, .inl ⟨rfl, rfl⟩⟩

/-- Now, behind so many ticks more. -/
def tickI (now k : Int) : Int := if 1 ≤ k ∧ k ≤ 1048576 then now + k else now
theorem tickI_yes {now k : Int} (h : 1 ≤ k ∧ k ≤ 1048576) : tickI now k = now + k := if_pos h
theorem tickI_no {now k : Int} (h : k < 1 ∨ 1048576 < k) : tickI now k = now := if_neg (by omega)

set_option maxHeartbeats 1000000 in
theorem tick_any (g : Nat) (now k : Int) (m : Option Nat) (n : Nat) (D : DataW Unit) (w : World) (h : Clk w g now m n D) (h0 : 0 ≤ now) (h1 : now ≤ 1152921504606846976) :
    Calls Try.prog 7 #[.pointer (some ⟨g, 0, none⟩), .int .i64 k] w fun e w' => e = .returned (.int .i64 (tickI now k)) ∧ Clk w' g (tickI now k) m n D ∧ Fr (CS g m) w w' := by
  have c0 : w.cell? ⟨g, 0, none⟩ = some (.int .i64 now) := h.1.cell 0
  have f0 : w.frozen? ⟨g, 0, none⟩ = false := h.1.frozen 0
  have H := Lib.hid h
  clear h
  by_cases hk1 : k < 1
  · rw [tickI_no (.inl hk1)]
    go_enter Try.func7, Try.ntmps7
    go_wp2
    go_ret
    exact ⟨rfl, H.out, Fr.refl _ _⟩
  · have hk1' : 1 ≤ k := by omega
    by_cases hk2 : 1048576 < k
    · have hk2' : decide (k ≤ 1048576) = false := by simp; omega
      rw [tickI_no (.inr hk2)]
      clear hk1
      go_enter Try.func7, Try.ntmps7
      go_wp2
      go_ret
      exact ⟨rfl, H.out, Fr.refl _ _⟩
    · have hk2' : k ≤ 1048576 := by omega
      rw [tickI_yes ⟨hk1', hk2'⟩]
      clear hk1 hk2
      go_enter Try.func7, Try.ntmps7
      go_wp2
      go_ret
      have hf : Fr (fun k => k = g) w (w.setCell ⟨g, 0, none⟩ (.int .i64 (now + k))) := Fr.setCell (S := fun k => k = g) (p := ⟨g, 0, none⟩) (Fr.refl _ _) (fun _ => rfl) _
      refine ⟨rfl, ⟨by simpa using H.out.1.set 0 (.int .i64 (now + k)), H.out.2.fr hf (fun b e hb => ?_)⟩, hf.mono (fun _ _ e => .inl e)⟩
      rcases H.out.2 with ⟨h2, _⟩ | ⟨b', h2, h3⟩
      · rw [h2] at e; cases e
      · rw [h2] at e; injection e with e; subst e; exact h3.ne H.out.1 hb.symm

theorem now_any (g : Nat) (now : Int) (m : Option Nat) (n : Nat) (D : DataW Unit) (w : World) (h : Clk w g now m n D) :
    Calls Try.prog 17 #[.pointer (some ⟨g, 0, none⟩)] w fun e w' => e = .returned (.int .i64 now) ∧ w = w' := by
  have c0 : w.cell? ⟨g, 0, none⟩ = some (.int .i64 now) := h.1.cell 0
  clear h
  go_enter Try.func17, Try.ntmps17
  go_wp2
  go_ret
  exact ⟨rfl, rfl⟩

section
variable {P : Program} (w : World) {ops : Array Oper} {rest : List Oper} {o : Oper} {a : Act} {Q : Exit → Act → World → Prop}
/-- delete of a map that was never made. -/
theorem wpList_delete_nil (hg : o.guard = none) (m x : Operand) (t k : TypeId) (hop : o.op = Op.call { callee := Callee.builtin Builtin.delete, args := #[m, x], argTypes := #[t, k] })
    (e : TypeId) (K : Keyed P k) (ht : P.underlying t = some (.map k e)) (hm : a.eval m = .map none) (key : Value) (kl : Lit) (hx : a.eval x = key) (hkey : keyOf P k key = some kl)
    (hK : wpList P ops Q rest (a.put o.dst (.tuple #[])) w) : wpList P ops Q (o :: rest) a w := by
  refine wpList_plain hg fun K' hK' => ?_
  unfold Oper.wp
  simp [execOp, hop, resolve, invoke, builtin, hm, hx, Maps.drop_nil K ht hkey o.type, Result.andThen]
  exact hK' _ _ hK
end

/-- May an alarm be set there? -/
def setB (now at_ : Int) : Bool := decide (now < at_ ∧ at_ ≤ 1099511627776)
def setD (now : Int) (D : DataW Unit) (id at_ : Int) : DataW Unit := if setB now at_ then D.put (.int .i64 id) (.lit (.int .i64 at_)) else D.del (.int .i64 id)
theorem del_none (k : Lit) : (DataW.map [] : DataW Unit).del k = .map [] := rfl

/-- From a clock to that clock later. -/
def ClkTo (w : World) (g : Nat) (m : Option Nat) (w' : World) (now : Int) (m' : Option Nat) (n : Nat) (D : DataW Unit) : Prop :=
  Clk w' g now m' n D ∧ Fr (CS g m) w w' ∧ (m' = m ∨ ∃ b, m' = some b ∧ w.heap.size ≤ b)

theorem eqNil_none (w : World) : (binOp BinOp.eql 41 (.map none) (.map none)).run Try.prog w = .ok (.bool true) w := by kernel_rfl
theorem eqNil_some (b : Nat) (w : World) : (binOp BinOp.eql 41 (.map (some b)) (.map none)).run Try.prog w = .ok (.bool false) w := by kernel_rfl

set_option maxHeartbeats 2000000 in
theorem set_any (g : Nat) (now id at_ : Int) (m : Option Nat) (n : Nat) (D : DataW Unit) (w : World) (h : Clk w g now m n D) (hid : I64 id) (hat : I64 at_) (hn : n ≤ 1048576) :
    Calls Try.prog 9 #[.pointer (some ⟨g, 0, none⟩), .int .i64 id, .int .i64 at_] w fun e w' => e = .returned (.bool (setB now at_)) ∧ ∃ m', ClkTo w g m w' now m' (n + 1) (setD now D id at_) := by
  have c0 : w.cell? ⟨g, 0, none⟩ = some (.int .i64 now) := h.1.cell 0
  have c1 : w.cell? ⟨g, 1, none⟩ = some (.map m) := h.1.cell 1
  have f1 : w.frozen? ⟨g, 1, none⟩ = false := h.1.frozen 1
  have hmm := @run_makeMap Try.prog
  have hq0 := eqNil_none
  have hq1 := eqNil_some
  have H := Lib.hid h
  clear h
  by_cases hs : setB now at_ = true
  · have hsd : setD now D id at_ = D.put (.int .i64 id) (.lit (.int .i64 at_)) := if_pos hs
    rw [hsd, hs]
    clear hsd
    have hb : now < at_ ∧ at_ ≤ 1099511627776 := by simpa [setB] using hs
    obtain ⟨b1, b2⟩ := hb
    clear hs
    rcases H.out.2 with ⟨rfl, hD⟩ | ⟨b, rfl, hown⟩
    · subst hD
      have f1' : (w.alloc (.map #[] 0)).frozen? ⟨g, 1, none⟩ = false := (H.out.1.alloc _).frozen 1
      have hlt := H.out.1.lt
      have hown : ∀ v, AM ((w.alloc (.map #[] 0)).setCell ⟨g, 1, none⟩ v) w.heap.size 0 (.map []) := fun v => World.ownsMap.setCell (World.ownsMap_made _ _ _ _) (by simp; omega) v
      have HO := Lib.hid hown
      have c1a : (w.alloc (.map #[] 0)).cell? ⟨g, 1, none⟩ = some (.map none) := by simpa using (H.out.1.alloc (.map #[] 0)).cell 1
      clear hlt hown
      go_enter Try.func9, Try.ntmps9
      go_wp2_with (at_mapUpdate; refine wpList_mapUpdate_own _ rfl _ _ _ 41 rfl 3 3 kInt Try.underlying41 _ w.heap.size 0 _ rfl (HO.out _) (by decide) _ _ _ rfl rfl hid.key _ [] (plainElem_int (H := Unit) Try.underlying3 hat.wf) ?_; intro w1 hown1 hgrow1)
      go_ret
      have hbk : Bk ((w.alloc (.map #[] 0)).setCell ⟨g, 1, none⟩ (.map (some w.heap.size))) g 49 #[.int .i64 now, .map (some w.heap.size)] := by
        simpa using (H.out.1.alloc (.map #[] 0)).set 1 (.map (some w.heap.size))
      have hfr := Fr.of_grown hgrow1
      have hlt := H.out.1.lt
      refine ⟨rfl, some w.heap.size, ⟨hbk.fr hfr (by simp; omega), .inr ⟨_, rfl, World.ownsMap.mono hown1 (by omega)⟩⟩, ?_, .inr ⟨_, rfl, Nat.le_refl _⟩⟩
      have hf0 : Fr (fun k => k = g) w ((w.alloc (.map #[] 0)).setCell ⟨g, 1, none⟩ (.map (some w.heap.size))) := Fr.setCell (S := fun k => k = g) (p := ⟨g, 1, none⟩) ((Fr.refl _ _).alloc _) (fun _ => rfl) _
      exact (hf0.mono (fun _ _ e => .inl e)).trans hfr (fun x hx e => by
        have : w.heap.size = x := by simpa using e
        omega)
    · have hne := hown.ne H.out.1
      go_enter Try.func9, Try.ntmps9
      go_wp2_with (at_mapUpdate; refine wpList_mapUpdate_own _ rfl _ _ _ 41 rfl 3 3 kInt Try.underlying41 _ b n _ rfl hown (by unfold maxLen; omega) _ _ _ rfl rfl hid.key _ [] (plainElem_int (H := Unit) Try.underlying3 hat.wf) ?_; intro w1 hown1 hgrow1)
      go_ret
      have hfr := Fr.of_grown hgrow1
      refine ⟨rfl, some b, ⟨H.out.1.fr hfr (fun e => hne (Option.some.inj e).symm), .inr ⟨_, rfl, hown1⟩⟩, hfr.mono (fun x _ e => .inr e), .inl rfl⟩
  · have hsd : setD now D id at_ = D.del (.int .i64 id) := if_neg hs
    have hs' : setB now at_ = false := by simpa using hs
    rw [hsd, hs']
    clear hsd hs
    have hb : at_ ≤ now ∨ (now < at_ ∧ 1099511627776 < at_) := by simp [setB] at hs'; omega
    clear hs'
    rcases H.out.2 with ⟨rfl, hD⟩ | ⟨b, rfl, hown⟩
    · subst hD
      rcases hb with b1 | ⟨b1, b2⟩
      · go_enter Try.func9, Try.ntmps9
        go_wp2_with (at_delete; refine wpList_delete_nil _ rfl _ _ 41 3 rfl 3 kInt Try.underlying41 rfl _ _ rfl hid.key ?_)
        go_ret
        exact ⟨rfl, none, ⟨H.out.1, .inl ⟨rfl, del_none _⟩⟩, Fr.refl _ _, .inl rfl⟩
      · have b1' : ¬ at_ ≤ now := by omega
        go_enter Try.func9, Try.ntmps9
        go_wp2_with (at_delete; refine wpList_delete_nil _ rfl _ _ 41 3 rfl 3 kInt Try.underlying41 rfl _ _ rfl hid.key ?_)
        go_ret
        exact ⟨rfl, none, ⟨H.out.1, .inl ⟨rfl, del_none _⟩⟩, Fr.refl _ _, .inl rfl⟩
    · have hne := hown.ne H.out.1
      rcases hb with b1 | ⟨b1, b2⟩
      · go_enter Try.func9, Try.ntmps9
        go_wp2_with (at_delete; refine wpList_delete_own _ rfl _ _ 41 3 rfl 3 kInt Try.underlying41 _ b n _ rfl hown _ _ rfl hid.key ?_; intro w1 hown1 hturn1)
        go_ret
        have hfr := Fr.of_turned hturn1
        exact ⟨rfl, some b, ⟨H.out.1.fr hfr (fun e => hne e), .inr ⟨_, rfl, World.ownsMap.mono hown1 (by omega)⟩⟩, hfr.mono (fun x _ e => .inr (by rw [e])), .inl rfl⟩
      · have b1' : ¬ at_ ≤ now := by omega
        go_enter Try.func9, Try.ntmps9
        go_wp2_with (at_delete; refine wpList_delete_own _ rfl _ _ 41 3 rfl 3 kInt Try.underlying41 _ b n _ rfl hown _ _ rfl hid.key ?_; intro w1 hown1 hturn1)
        go_ret
        have hfr := Fr.of_turned hturn1
        exact ⟨rfl, some b, ⟨H.out.1.fr hfr (fun e => hne e), .inr ⟨_, rfl, World.ownsMap.mono hown1 (by omega)⟩⟩, hfr.mono (fun x _ e => .inr (by rw [e])), .inl rfl⟩
end Go.Proofs.Ytholaofgdahcbaa
