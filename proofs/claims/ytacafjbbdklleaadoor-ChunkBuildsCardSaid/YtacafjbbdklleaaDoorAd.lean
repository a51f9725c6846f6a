/- chunk: parts of slices of bytes, append met alone in a region that draws. -/
import Derived.Test.YtacafjbbdklleaaDoorAc
import Derived.Test.YtacafjbbdklleaaDoorNz
import Derived.Test.YtacafjbbdklleaaDoorCe
import Derived.Deep.RegionWith
import Derived.Deep.DeepCutAuto
namespace Go.Proofs.YtacafjbbdklleaaDoor
open Go.RowKit

theorem run_fromB (A : Option Addr) (n c fr : Nat) (hm : fr ≤ n) (hnc : n ≤ c) (hcm : (c : Int) ≤ 9223372036854775807) (hA : 0 < n → ∃ b off, A = some ⟨b, off, none⟩) :
    ∃ A' c', (∀ w, (Instr.sliceAt 22 (.slice A n c) (some (.int .i64 (fr : Int))) none none).run Tryd.prog w = .ok (.slice A' (n - fr) c') w) ∧ n - fr ≤ c' ∧ (c' : Int) ≤ 9223372036854775807 ∧ (0 < n - fr → ∃ b off, A' = some ⟨b, off, none⟩) ∧
      ∀ w xs, xs.length = n → Rd8 w A xs → Rd8 w A' (xs.drop fr) := by
  have h1 : (fr : Int) ≤ (n : Int) := by omega
  rcases A with _ | ad
  · have hn0 : n = 0 := by
      rcases Nat.eq_zero_or_pos n with h | h
      · exact h
      · obtain ⟨b, off, e⟩ := hA h; cases e
    subst hn0
    obtain rfl : fr = 0 := by omega
    refine ⟨none, c, fun w => ?_, by omega, hcm, (fun h => by omega), fun w xs hx h => h⟩
    simp [go_sem, Instr.sliceAt]
  · by_cases hm0 : n = fr
    · subst hm0
      have hd : ∀ xs : List UInt8, xs.length = n → xs.drop n = [] := fun xs hx => List.drop_of_length_le (by omega)
      by_cases hcf : c = n
      · subst hcf
        refine ⟨some ad, 0, fun w => ?_, by omega, by omega, (fun h => by omega), fun w xs hx h => ?_⟩
        · simp [go_sem, Instr.sliceAt]
        · rw [hd xs hx]; exact Rd8.nil _ _
      · refine ⟨some (ad.add n), c - n, fun w => ?_, by omega, by omega, (fun h => by omega), fun w xs hx h => ?_⟩
        · have g1 : (n : Int) ≤ (c : Int) := by omega
          simp [go_sem, Instr.sliceAt, hcf]
        · rw [hd xs hx]; exact Rd8.nil _ _
    · obtain ⟨b, off, e⟩ := hA (by omega)
      injection e with e
      subst e
      have hcf : ¬ (c = fr) := by omega
      refine ⟨some ⟨b, off + fr, none⟩, c - fr, fun w => ?_, by omega, by omega, (fun _ => ⟨b, off + fr, rfl⟩), fun w xs hx h => h.tail fr⟩
      simp [go_sem, Instr.sliceAt, hcf, h1]

theorem run_pieceB (A : Option Addr) (n c fr m pa : Nat) (hpa : fr + m = pa) (hm : fr + m ≤ n) (hnc : n ≤ c) (hcm : (c : Int) ≤ 9223372036854775807) (hA : 0 < n → ∃ b off, A = some ⟨b, off, none⟩) :
    ∃ A' c', (∀ w, (Instr.sliceAt 22 (.slice A n c) (some (.int .i64 (fr : Int))) (some (.int .i64 (pa : Int))) none).run Tryd.prog w = .ok (.slice A' m c') w) ∧ m ≤ c' ∧ (c' : Int) ≤ 9223372036854775807 ∧ (0 < m → ∃ b off, A = some ⟨b, off, none⟩ ∧ A' = some ⟨b, off + fr, none⟩) ∧
      ∀ w xs, xs.length = n → Rd8 w A xs → Rd8 w A' ((xs.drop fr).take m) := by
  have h1 : (fr : Int) ≤ (pa : Int) := by omega
  have h2 : (pa : Int) ≤ (c : Int) := by omega
  have h3 : pa - fr = m := by omega
  rcases A with _ | ad
  · have hn0 : n = 0 := by
      rcases Nat.eq_zero_or_pos n with h | h
      · exact h
      · obtain ⟨b, off, e⟩ := hA h; cases e
    subst hn0
    obtain rfl : fr = 0 := by omega
    obtain rfl : m = 0 := by omega
    obtain rfl : pa = 0 := by omega
    refine ⟨none, c, fun w => ?_, by omega, hcm, (fun h => by omega), fun w xs hx h => ?_⟩
    · simp [go_sem, Instr.sliceAt]
    · simp only [List.take_zero]; exact Rd8.nil _ _
  · by_cases hm0 : m = 0
    · subst hm0
      obtain rfl : pa = fr := by omega
      by_cases hcf : c = pa
      · subst hcf
        refine ⟨some ad, 0, fun w => ?_, by omega, by omega, (fun h => by omega), fun w xs hx h => ?_⟩
        · simp [go_sem, Instr.sliceAt]
        · simp only [List.take_zero]; exact Rd8.nil _ _
      · refine ⟨some (ad.add pa), c - pa, fun w => ?_, by omega, by omega, (fun h => by omega), fun w xs hx h => ?_⟩
        · have g1 : (pa : Int) ≤ (c : Int) := by omega
          simp [go_sem, Instr.sliceAt, hcf, g1]
        · simp only [List.take_zero]; exact Rd8.nil _ _
    · obtain ⟨b, off, e⟩ := hA (by omega)
      injection e with e
      subst e
      have hcf : ¬ (c = fr) := by omega
      refine ⟨some ⟨b, off + fr, none⟩, c - fr, fun w => ?_, by omega, by omega, (fun _ => ⟨b, off, rfl, rfl⟩), fun w xs hx h => ?_⟩
      · simp [go_sem, Instr.sliceAt, hcf, h1, h2, h3]
      · exact h.part fr m

/-- append(s, x...) met alone in a region that draws. -/
theorem stepOf_append8s {P : Program} {ops : Array Oper} {o : Oper} {a : Go.Act} {w : World} {K' : Go.Act → World → Prop} {Q : Exit → Go.Act → World → Prop} (hgd : o.guard = none) (s x : Operand) {t e : TypeId} (hT : T8 P t e)
    (ho : o.op = .call { callee := .builtin .append, args := #[s, x], argTypes := #[t, t] })
    (v : Value) (bs : List UInt8) (hs : a.eval s = v) (hown : Own8 w e v bs) (A : Option Addr) (m c : Nat) (xs : List UInt8) (hx : a.eval x = .slice A m c) (hm : xs.length = m) (hr : Rd8 w A xs) (hlen : bs.length + xs.length ≤ 140737488355328)
    (h : ∀ A' c' w', Own8 w' e (.slice A' (bs.length + xs.length) c') (bs ++ xs) → Fr (fun k => v.ownBlock = some k) w w' → Moved w v (.slice A' (bs.length + xs.length) c') → K' (a.put o.dst (.slice A' (bs.length + xs.length) c')) w') :
    if Region.wanted o (yielded ops a.tmps) = true then Oper.wp P o a w K' Q else K' (a.put o.dst undef) w := by
  rw [if_pos (by simp [Region.wanted, hgd])]
  subst hm
  obtain ⟨A', c', w', hr, h2, h3, h4, _⟩ := run_append8 (P := P) w hT o.type hown A c xs hr hlen
  unfold Oper.wp execOp
  simp only [ho, resolve, invoke, builtin, Sem.run_bind, Sem.run_pure, Result.andThen_ok, List.map_toArray, List.map_cons, List.map_nil, hs, hx, hr]
  exact h A' c' w' h2 h3 h4


theorem Own8.slice {w : World} {e : TypeId} {v : Value} {xs : List UInt8} (h : Own8 w e v xs) : ∃ A c, v = .slice A xs.length c ∧ xs.length ≤ c ∧ (c : Int) ≤ 9223372036854775807 := by
  rcases h.form with ⟨rfl, rfl⟩ | ⟨g, c, rfl, h1, h2⟩
  · exact ⟨none, 0, rfl, Nat.le_refl _, by omega⟩
  · exact ⟨_, c, rfl, h1, by unfold maxLen at h2; omega⟩
theorem Own8.cap8 {w : World} {e : TypeId} {A : Option Addr} {n c : Nat} {xs : List UInt8} (h : Own8 w e (.slice A n c) xs) : n = xs.length ∧ n ≤ c := by
  obtain ⟨A', c', e1, h1, _⟩ := h.slice
  injection e1 with e2 e3 e4
  subst e2 e3 e4
  exact ⟨rfl, h1⟩
/-- A slice of bytes that came from elsewhere, of blocks below F. -/
def Sl8 (w : World) (F : Nat) (A : Option Addr) (n c : Nat) (xs : List UInt8) : Prop :=
  xs.length = n ∧ n ≤ c ∧ (c : Int) ≤ 9223372036854775807 ∧ RdF8 w F A xs
theorem Sl8.fr {S : Nat → Prop} {w w' : World} {F : Nat} {A : Option Addr} {n c : Nat} {xs : List UInt8} (h : Sl8 w F A n c xs) (hb : Fr S w w') (hS : ∀ k, k < F → ¬ S k) : Sl8 w' F A n c xs := ⟨h.1, h.2.1, h.2.2.1, h.2.2.2.fr hb hS⟩
theorem Sl8.base {w : World} {F : Nat} {A : Option Addr} {n c : Nat} {xs : List UInt8} (h : Sl8 w F A n c xs) : 0 < n → ∃ b off, A = some ⟨b, off, none⟩ := fun h0 => by
  obtain ⟨ad, e, hs, _⟩ := h.2.2.2.1 (by rw [h.1]; exact h0)
  obtain ⟨b, off, sp⟩ := ad
  cases hs
  exact ⟨b, off, e⟩
end Go.Proofs.YtacafjbbdklleaaDoor
