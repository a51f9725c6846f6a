/- A table of answers in memory: what it is, what stays. -/
import Derived.Test.YtdfkoehcmgcoiaaJc
namespace Go.Proofs.Ytdfkoehcmgcoiaa
open Go.RowKit Go.Maps

section
variable {w : World} {k t e : TypeId} {b : Nat} {D : DV}
theorem MV.at1 (h : MV w k b D) (K : Keyed Try.prog k) (ht : Try.prog.underlying t = some (.map k e)) {z : Value} (hz : (zeroValue e).run Try.prog w = .ok z w) {key v : Value} {kl : Lit} (hkey : keyOf Try.prog k key = some kl) (ha : At D kl v) :
    (Instr.lookup t (.map (some b)) key true).run Try.prog w = .ok (.tuple #[v, .bool true]) w ∧ (Instr.lookup t (.map (some b)) key false).run Try.prog w = .ok v w := by
  obtain ⟨u, ps, h1, h2⟩ := World.ownsMap.look_ok h K ht hz (zd := .held z) (zp := []) rfl hkey
  obtain ⟨u', ps', h3, h4⟩ := World.ownsMap.lookup h K ht hz (zd := .held z) (zp := []) rfl hkey
  rw [ha.2] at h2 h4
  rw [ha.1] at h1
  have e1 : u = v := by unfold HV at h2; simp at h2; exact h2.1
  have e2 : u' = v := by unfold HV at h4; simp at h4; exact h4.1
  subst e1 e2
  exact ⟨h1, h3⟩
theorem MV.at0 (h : MV w k b D) (K : Keyed Try.prog k) (ht : Try.prog.underlying t = some (.map k e)) {z : Value} (hz : (zeroValue e).run Try.prog w = .ok z w) {key : Value} {kl : Lit} (hkey : keyOf Try.prog k key = some kl) (ha : has D kl = false) :
    (Instr.lookup t (.map (some b)) key true).run Try.prog w = .ok (.tuple #[z, .bool false]) w ∧ (Instr.lookup t (.map (some b)) key false).run Try.prog w = .ok z w := by
  obtain ⟨u, ps, h1, h2⟩ := World.ownsMap.look_ok h K ht hz (zd := .held z) (zp := []) rfl hkey
  obtain ⟨u', ps', h3, h4⟩ := World.ownsMap.lookup h K ht hz (zd := .held z) (zp := []) rfl hkey
  rw [atKey_of_not_has ha] at h2 h4
  rw [ha] at h1
  have e1 : u = z := by unfold HV at h2; simp at h2; exact h2.1
  have e2 : u' = z := by unfold HV at h4; simp at h4; exact h4.1
  subst e1 e2
  exact ⟨h1, h3⟩
end
theorem zeroRow (w : World) : (zeroValue 42).run Try.prog w = .ok (.slice none 0 0) w := by kernel_rfl
theorem zeroAns (w : World) : (zeroValue 30).run Try.prog w = .ok (.slice none 0 0) w := by kernel_rfl

/-- A row of ints, at whatever place of a block. -/
def RI (w : World) (v : Value) (r : List Int) : Prop := Row w 3 1 v r.length (r.map IV)
theorem tKey : Try.prog.underlying 53 = some (.map 48 30) := Try.underlying53
theorem tRow : Try.prog.underlying 54 = some (.map 3 42) := Try.underlying54

/-- A table: its struct at block g, its answers' map at ba, its rows' map at br; all of it within F. -/
structure TabM (w : World) (g ba br : Nat) (F : Nat → Prop) (t : DT) (Da Dr : DV) : Prop where
  blk : Bk w g 56 #[.int .i64 t.win, .map (some ba), .map (some br)]
  ma : MV w 48 ba Da
  mr : MV w 3 br Dr
  noRow : ∀ c, I64 c → t.row c = [] → has Dr (.int .i64 c) = false
  row : ∀ c, I64 c → t.row c ≠ [] → ∃ v, At Dr (.int .i64 c) v ∧ RI w v (t.row c) ∧ ∀ k, v.ownBlock = some k → F k
  apart : ∀ c c' v v' k, I64 c → I64 c' → At Dr (.int .i64 c) v → At Dr (.int .i64 c') v' → v.ownBlock = some k → v'.ownBlock = some k → c = c'
  noAns : ∀ c s, I64 c → I64 s → s ∉ t.row c → has Da (ky c s) = false
  ans : ∀ c s, I64 c → I64 s → s ∈ t.row c → ∃ A cap, At Da (ky c s) (.slice A (t.ans c s).length cap) ∧ Rd8 w A (t.ans c s) ∧ ∀ ad, A = some ad → 0 < (t.ans c s).length → F ad.block ∧ ∃ cs, Bk w ad.block 5 cs
  ab : ba ≠ br
  sr : Maps.size Dr = t.cs.length
  sa : Maps.size Da = t.n
  fg : F g
  fa : F ba
  fb : F br
  flt : ∀ k, F k → k < w.heap.size

theorem TabM.fr {S F : Nat → Prop} {w w' : World} {g ba br : Nat} {t : DT} {Da Dr : DV} (h : TabM w g ba br F t Da Dr) (hf : Fr S w w') (hS : ∀ k, F k → ¬ S k) : TabM w' g ba br F t Da Dr where
  blk := h.blk.fr hf (hS _ h.fg)
  ma := h.ma.fr hf (hS _ h.fa)
  mr := h.mr.fr hf (hS _ h.fb)
  noRow := h.noRow
  row c hc hr := by
    obtain ⟨v, h1, h2, h3⟩ := h.row c hc hr
    exact ⟨v, h1, Row.fr h2 hf (fun k hk => hS k (h3 k hk)), h3⟩
  apart := h.apart
  noAns := h.noAns
  ans c s hc hs hm := by
    obtain ⟨A, cap, h1, h2, h3⟩ := h.ans c s hc hs hm
    exact ⟨A, cap, h1, h2.fr hf (fun ad e h0 => hS _ (h3 ad e h0).1), fun ad e h0 => by
      obtain ⟨h4, cs, h5⟩ := h3 ad e h0
      exact ⟨h4, cs, h5.fr hf (hS _ h4)⟩⟩
  ab := h.ab
  sr := h.sr
  sa := h.sa
  fg := h.fg
  fa := h.fa
  fb := h.fb
  flt k hk := Nat.lt_of_lt_of_le (h.flt k hk) hf.size
theorem TabM.mono {F F' : Nat → Prop} {w : World} {g ba br : Nat} {t : DT} {Da Dr : DV} (h : TabM w g ba br F t Da Dr) (hF : ∀ k, F k → F' k) (hl : ∀ k, F' k → k < w.heap.size) : TabM w g ba br F' t Da Dr :=
  ⟨h.blk, h.ma, h.mr, h.noRow, fun c hc hr => by
      obtain ⟨v, h1, h2, h3⟩ := h.row c hc hr
      exact ⟨v, h1, h2, fun k hk => hF k (h3 k hk)⟩, h.apart, h.noAns, fun c s hc hs hm => by
      obtain ⟨A, cap, h1, h2, h3⟩ := h.ans c s hc hs hm
      exact ⟨A, cap, h1, h2, fun ad e h0 => ⟨hF _ (h3 ad e h0).1, (h3 ad e h0).2⟩⟩, h.ab, h.sr, h.sa, hF _ h.fg, hF _ h.fa, hF _ h.fb, hl⟩

/-- A table at block g, within F. -/
def Tab (w : World) (g : Nat) (F : Nat → Prop) (t : DT) : Prop := ∃ ba br Da Dr, TabM w g ba br F t Da Dr
theorem Tab.fr {S F : Nat → Prop} {w w' : World} {g : Nat} {t : DT} (h : Tab w g F t) (hf : Fr S w w') (hS : ∀ k, F k → ¬ S k) : Tab w' g F t := by
  obtain ⟨ba, br, Da, Dr, h1⟩ := h
  exact ⟨ba, br, Da, Dr, h1.fr hf hS⟩
theorem Tab.fr0 {F : Nat → Prop} {w w' : World} {g : Nat} {t : DT} (h : Tab w g F t) (hf : Fr (fun _ => False) w w') : Tab w' g F t := h.fr hf (fun _ _ h => h)
theorem Tab.lt {F : Nat → Prop} {w : World} {g : Nat} {t : DT} (h : Tab w g F t) {k : Nat} (hk : F k) : k < w.heap.size := by
  obtain ⟨_, _, _, _, h1⟩ := h
  exact h1.flt k hk
/-- From a table within F to a table. -/
def TabTo (w : World) (g : Nat) (F : Nat → Prop) (w' : World) (t' : DT) : Prop := ∃ F', Tab w' g F' t' ∧ Fr F w w' ∧ ∀ k, F' k → F k ∨ w.heap.size ≤ k
theorem Tab.to {F : Nat → Prop} {w w' : World} {g : Nat} {t : DT} (h : Tab w g F t) (hf : Fr (fun _ => False) w w') : TabTo w g F w' t :=
  ⟨F, h.fr0 hf, hf.mono (fun _ _ h => h.elim), fun _ hk => .inl hk⟩
theorem TabTo.trans {F : Nat → Prop} {w w1 w2 : World} {g : Nat} {t1 t2 : DT} (h : TabTo w g F w1 t1) (k : ∀ F', Tab w1 g F' t1 → TabTo w1 g F' w2 t2) : TabTo w g F w2 t2 := by
  obtain ⟨F1, h1, h2, h3⟩ := h
  obtain ⟨F2, k1, k2, k3⟩ := k F1 h1
  refine ⟨F2, k1, h2.trans k2 (fun x hx hF => ?_), fun x hx => ?_⟩
  · rcases h3 x hF with h | h
    · exact h
    · omega
  · rcases k3 x hx with h | h
    · exact h3 x h
    · have := h2.size; exact .inr (by omega)
end Go.Proofs.Ytdfkoehcmgcoiaa
