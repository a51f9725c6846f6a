/- match: what becomes of lists in memory when one row is another one. -/
import Derived.Test.YtkinbcmnfpkncaaRa
namespace Go.Proofs.Ytkinbcmnfpkncaa
open Go.RowKit Go.Maps

/-- A value is a list's row: where it lies, apart from the other rows. -/
structure RowOf {α : Type} (TP : TypeId) (enc : α → Value) (w : World) (g br : Nat) (F : Nat → Prop) (D : DV) (c : Int) (r : List (Nat × α)) (v : Value) : Prop where
  row : Row w TP 2 v r.length (pcs enc r)
  own : ∀ k, v.ownBlock = some k → F k ∧ k ≠ g ∧ k ≠ br
  apart : ∀ c' v' k, I64 c' → c' ≠ c → At D (.int .i64 c') v' → v.ownBlock = some k → v'.ownBlock ≠ some k
section
variable {α : Type} {TL TP : TypeId} {enc : α → Value}
/-- What a look into the map tells. -/
theorem MtM.look {w : World} {g br : Nat} {F : Nat → Prop} {t : MT α} {D : DV} (h : MtM TL TP enc w g br F t D) {TM TS : TypeId} (hTM : Try.prog.underlying TM = some (.map 3 TS)) (hz : ∀ w, (zeroValue TS).run Try.prog w = .ok (.slice none 0 0) w) {c : Int} (hc : I64 c) :
    ∃ v, RowOf TP enc w g br F D c (t.row c) v ∧ ∀ w', MV w' 3 br D → (Instr.lookup TM (.map (some br)) (.int .i64 c) false).run Try.prog w' = .ok v w' := by
  by_cases hr : t.row c = []
  · refine ⟨.slice none 0 0, ⟨by rw [hr]; exact Row.nil _ _ _, fun k hk => by simp [Value.ownBlock] at hk, fun _ _ k _ _ _ hk => by simp [Value.ownBlock] at hk⟩, fun w' hw => ?_⟩
    exact (hw.at0 kInt hTM (hz w') hc.key (h.no c hc hr)).2
  · obtain ⟨v, h1, h2, h3⟩ := h.at_ c hc hr
    refine ⟨v, ⟨h2, h3, fun c' v' k hc' hne ha hk e => hne ((h.apart c c' v v' k hc hc' h1 ha hk e).symm)⟩, fun w' hw => ?_⟩
    exact (hw.at1 kInt hTM (hz w') hc.key h1).2
theorem lit_ne {c c' : Int} (h : c' ≠ c) : (Lit.int .i64 c') ≠ Lit.int .i64 c := fun e => h (by injection e)
/-- A list's row is another one, not empty. -/
theorem MtM.relay {w w1 w2 w3 : World} {g br : Nat} {F : Nat → Prop} {t : MT α} {D : DV} (h : MtM TL TP enc w g br F t D) {c : Int} (hc : I64 c) {v v' : Value} (hv : RowOf TP enc w g br F D c (t.row c) v) {r : List (Nat × α)} (hr : r ≠ [])
    (f1 : Fr (fun k => v.ownBlock = some k) w w1) (hrow : Row w1 TP 2 v' r.length (pcs enc r)) (hm : Moved w v v') (hmv : MV w2 3 br (D.put (.int .i64 c) (.held v'))) (f2 : Fr (fun x => x = br) w1 w2) {p : Nat} (hp : Maps.size (D.put (.int .i64 c) (.held v')) ≤ p)
    (hb : Bk w3 g TL #[.int .i64 t.most, .int .i64 (p : Int), .map (some br)]) (f3 : Fr (fun x => x = g) w2 w3) :
    MtTo TL TP enc w g F w3 ⟨t.most, p, setR t.row c r⟩ := by
  have hs1 := f1.size
  have hs2 := f2.size
  have hs3 := f3.size
  have F1 : Fr F w w1 := f1.mono (fun k _ hk => (hv.own k hk).1)
  have F2 : Fr F w w2 := F1.trans f2 (fun x _ e => by subst e; exact h.fb)
  have F3 : Fr F w w3 := F2.trans f3 (fun x _ e => by subst e; exact h.fg)
  have hv'F : ∀ k, v'.ownBlock = some k → (F k ∧ k ≠ g ∧ k ≠ br) ∨ w.heap.size ≤ k := fun k hk => by
    rcases hm with e | ⟨k', e, hk'⟩
    · exact .inl (hv.own k (e ▸ hk))
    · rw [e] at hk; injection hk with hk; exact .inr (by omega)
  have hgl := h.flt g h.fg
  have hbl := h.flt br h.fb
  refine ⟨fun k => F k ∨ (w.heap.size ≤ k ∧ k < w3.heap.size), ⟨br, D.put (.int .i64 c) (.held v'), ?_⟩, F3, fun k hk => hk.imp id (fun e => e.1)⟩
  have hat : At (D.put (.int .i64 c) (.held v')) (.int .i64 c) v' := At.put h.mr (i_key c) v'
  have hne : ∀ {c' : Int}, c' ≠ c → ∀ {u : Value}, At (D.put (.int .i64 c) (.held v')) (.int .i64 c') u → At D (.int .i64 c') u := fun hne u ha =>
    ⟨(has_put_other (lit_ne hne) _).symm.trans ha.1, fun z => (atKey_put_other (lit_ne hne) _ z).symm.trans (ha.2 z)⟩
  have hrow3 : Row w3 TP 2 v' r.length (pcs enc r) := by
    refine (hrow.fr f2 (fun k hk e => ?_)).fr f3 (fun k hk e => ?_)
    · subst e
      rcases hv'F _ hk with h1 | h1
      · exact h1.2.2 rfl
      · omega
    · subst e
      rcases hv'F _ hk with h1 | h1
      · exact h1.2.1 rfl
      · omega
  refine ⟨hb, hmv.fr f3 (fun e => h.gb e.symm), ?_, ?_, ?_, hp, h.gb, .inl h.fg, .inl h.fb, ?_⟩
  · intro c' hc' hr'
    change setR t.row c r c' = [] at hr'
    by_cases e : c' = c
    · subst e; rw [setR_same] at hr'; exact absurd hr' hr
    · rw [setR_ne _ _ e] at hr'
      rw [has_put_other (lit_ne e)]
      exact h.no c' hc' hr'
  · intro c' hc' hr'
    change setR t.row c r c' ≠ [] at hr'
    show ∃ v, _ ∧ Row w3 TP 2 v (setR t.row c r c').length (pcs enc (setR t.row c r c')) ∧ _
    by_cases e : c' = c
    · subst e
      rw [setR_same]
      refine ⟨v', hat, hrow3, fun k hk => ?_⟩
      rcases hv'F k hk with h1 | h1
      · exact ⟨.inl h1.1, h1.2⟩
      · exact ⟨.inr ⟨h1, hrow3.lt hk⟩, by omega, by omega⟩
    · rw [setR_ne _ _ e] at hr' ⊢
      obtain ⟨u, h1, h2, h3⟩ := h.at_ c' hc' hr'
      refine ⟨u, h1.put_ne (lit_ne e), ?_, fun k hk => ⟨.inl (h3 k hk).1, (h3 k hk).2⟩⟩
      refine ((h2.fr f1 (fun k hk hk' => hv.apart c' u k hc' e h1 hk' hk)).fr f2 (fun k hk e' => (h3 k hk).2.2 e')).fr f3 (fun k hk e' => (h3 k hk).2.1 e')
  · intro a b u u' k ha hb' hu hu' hk hk'
    by_cases ea : a = c
    · by_cases eb : b = c
      · rw [ea, eb]
      · exfalso
        subst ea
        have e1 : u = v' := hu.one hat
        subst e1
        have h2 := hne eb hu'
        have h5 : t.row b ≠ [] := fun e => h2.not (h.no b hb' e)
        obtain ⟨u2, h6, h7, h8⟩ := h.at_ b hb' h5
        have e2 : u' = u2 := h2.one h6
        subst e2
        have hkF := h8 k hk'
        rcases hm with e | ⟨k2, e, hk2⟩
        · exact hv.apart b u' k hb' eb h2 (e ▸ hk) hk'
        · rw [e] at hk; injection hk with hk
          have := h.flt k hkF.1
          omega
    · by_cases eb : b = c
      · exfalso
        subst eb
        have e1 : u' = v' := hu'.one hat
        subst e1
        have h2 := hne ea hu
        have h5 : t.row a ≠ [] := fun e => h2.not (h.no a ha e)
        obtain ⟨u2, h6, h7, h8⟩ := h.at_ a ha h5
        have e2 : u = u2 := h2.one h6
        subst e2
        have hkF := h8 k hk
        rcases hm with e | ⟨k2, e, hk2⟩
        · exact hv.apart a u k ha ea h2 (e ▸ hk') hk
        · rw [e] at hk'; injection hk' with hk'
          have := h.flt k hkF.1
          omega
      · exact h.apart a b u u' k ha hb' (hne ea hu) (hne eb hu') hk hk'
  · intro k hk
    rcases hk with hk | hk
    · have := h.flt k hk; omega
    · exact hk.2
/-- A list has no task any more. -/
theorem MtM.gone {w w1 w2 : World} {g br : Nat} {F : Nat → Prop} {t : MT α} {D : DV} (h : MtM TL TP enc w g br F t D) {c : Int} (hc : I64 c) {v : Value} (hv : RowOf TP enc w g br F D c (t.row c) v)
    (f1 : Fr (fun k => v.ownBlock = some k) w w1) (hmv : MV w2 3 br (D.del (.int .i64 c))) (f2 : Fr (fun x => x = br) w1 w2) : MtTo TL TP enc w g F w2 (t.drop c []) := by
  have hs1 := f1.size
  have hs2 := f2.size
  have F1 : Fr F w w1 := f1.mono (fun k _ hk => (hv.own k hk).1)
  have F2 : Fr F w w2 := F1.trans f2 (fun x _ e => by subst e; exact h.fb)
  refine ⟨F, ⟨br, D.del (.int .i64 c), ?_⟩, F2, fun k hk => .inl hk⟩
  have hdel : has (D.del (.int .i64 c)) (.int .i64 c) = false := has_del_same
  have hne : ∀ {c' : Int}, c' ≠ c → ∀ {u : Value}, At (D.del (.int .i64 c)) (.int .i64 c') u → At D (.int .i64 c') u := fun hne u ha =>
    ⟨(has_del_other (lit_ne hne)).symm.trans ha.1, fun z => (atKey_del_other (lit_ne hne) z).symm.trans (ha.2 z)⟩
  refine ⟨(h.blk.fr f1 (fun e => (hv.own g e).2.1 rfl)).fr f2 h.gb, hmv, ?_, ?_, ?_, ?_, h.gb, h.fg, h.fb, fun k hk => by have := h.flt k hk; omega⟩
  · intro c' hc' hr'
    change setR t.row c [] c' = [] at hr'
    by_cases e : c' = c
    · subst e; exact hdel
    · rw [setR_ne _ _ e] at hr'
      rw [has_del_other (lit_ne e)]
      exact h.no c' hc' hr'
  · intro c' hc' hr'
    change setR t.row c [] c' ≠ [] at hr'
    show ∃ v, _ ∧ Row w2 TP 2 v (setR t.row c [] c').length (pcs enc (setR t.row c [] c')) ∧ _
    by_cases e : c' = c
    · subst e; rw [setR_same] at hr'; exact absurd rfl hr'
    · rw [setR_ne _ _ e] at hr' ⊢
      obtain ⟨u, h1, h2, h3⟩ := h.at_ c' hc' hr'
      exact ⟨u, h1.del_ne (lit_ne e), (h2.fr f1 (fun k hk hk' => hv.apart c' u k hc' e h1 hk' hk)).fr f2 (fun k hk e' => (h3 k hk).2.2 e'), h3⟩
  · intro a b u u' k ha hb' hu hu' hk hk'
    have ea : a ≠ c := fun e => by subst e; exact hu.not hdel
    have eb : b ≠ c := fun e => by subst e; exact hu'.not hdel
    exact h.apart a b u u' k ha hb' (hne ea hu) (hne eb hu') hk hk'
  · have h1 := size_del (k := .int .i64 c) (h.mr.tidy kInt)
    have h2 := h.sz
    show Maps.size (D.del (.int .i64 c)) ≤ t.pushed
    omega
end
end Go.Proofs.Ytkinbcmnfpkncaa
