/- The reference's clock in memory; its Tick, Next, Drop. -/
import Derived.Test.YtholaofgdahcbaaNa
import Derived.Test.YtholaofgdahcbaaNz
import Derived.Test.YtholaofgdahcbaaWm
namespace Go.Proofs.Ytholaofgdahcbaa
open Go.RowKit

theorem Try.teA : TE Try.prog 27 51 2 16 (.agg #[.int .i64 0, .int .i64 0]) := ⟨Try.underlying27, by kernel_rfl, rfl, by omega⟩
def acell (c : Int × Int) : List Value := [.int .i64 c.1, .int .i64 c.2]
def apc (l : List (Int × Int)) : List Value := l.flatMap acell
theorem apc_append (a b : List (Int × Int)) : apc (a ++ b) = apc a ++ apc b := by simp [apc]
theorem apc_len (l : List (Int × Int)) : (apc l).length = l.length * 2 := by
  induction l with
  | nil => rfl
  | cons c r ih => unfold apc at *; rw [List.flatMap_cons, List.length_append, ih]; simp [acell]; omega
theorem apc_at {l : List (Int × Int)} {i : Nat} (h : i < l.length) : (apc l)[i * 2]? = some (.int .i64 (l.getD i default).1) ∧ (apc l)[i * 2 + 1]? = some (.int .i64 (l.getD i default).2) := by
  induction l generalizing i with
  | nil => simp at h
  | cons c r ih =>
    unfold apc at *
    rw [List.flatMap_cons]
    cases i with
    | zero => exact ⟨rfl, rfl⟩
    | succ i =>
      have h1 := ih (i := i) (by simpa using h)
      rw [show (i + 1) * 2 = i * 2 + 2 by omega]
      rw [List.getElem?_append_right (by simp [acell]), List.getElem?_append_right (by simp [acell])]
      simp only [acell, List.length_cons, List.length_nil]
      rw [show i * 2 + 2 - (0 + 1 + 1) = i * 2 by omega, show i * 2 + 2 + 1 - (0 + 1 + 1) = i * 2 + 1 by omega]
      simpa [List.getD] using h1
theorem apc_one (l : List (Int × Int)) : ∀ u ∈ apc l, u.oneCell' = true := by
  intro u hu
  obtain ⟨p, _, hp⟩ := List.mem_flatMap.1 hu
  simp [acell] at hp
  rcases hp with rfl | rfl <;> rfl
theorem apc_take (l : List (Int × Int)) {k : Nat} (h : k ≤ l.length) : apc (l.take k) = (apc l).take (k * 2) := by
  have : (apc (l.take k)).length = k * 2 := by rw [apc_len, List.length_take]; congr 1; omega
  conv => rhs; rw [← List.take_append_drop k l, apc_append]
  rw [List.take_left' this]
theorem apc_drop (l : List (Int × Int)) {k : Nat} (h : k ≤ l.length) : apc (l.drop k) = (apc l).drop (k * 2) := by
  have : (apc (l.take k)).length = k * 2 := by rw [apc_len, List.length_take]; congr 1; omega
  conv => rhs; rw [← List.take_append_drop k l, apc_append]
  rw [List.drop_left' this]
theorem aTake {w : World} {t : TypeId} {b off n c : Nat} {l : List (Int × Int)} (h : Row w t 2 (.slice (some ⟨b, off, none⟩) n c) n (apc l)) {k : Nat} (hk : k ≤ l.length) : Sl w 2 (.slice (some ⟨b, off, none⟩) k c) k (apc (l.take k)) :=
  Sl.at rfl (by rw [apc_len, List.length_take]; congr 1; omega) (fun j u hu => by
    rw [apc_take l hk] at hu
    refine h.cell ?_
    rw [List.getElem?_take] at hu
    split at hu
    · exact hu
    · cases hu)
theorem aDrop {w : World} {t : TypeId} {b off n c c' : Nat} {l : List (Int × Int)} (h : Row w t 2 (.slice (some ⟨b, off, none⟩) n c) n (apc l)) {k : Nat} (hk : k ≤ l.length) : Sl w 2 (.slice (some ⟨b, off + k * 2, none⟩) (l.length - k) c') (l.length - k) (apc (l.drop k)) :=
  Sl.at rfl (by rw [apc_len, List.length_drop]) (fun j u hu => by
    rw [apc_drop l hk, List.getElem?_drop] at hu
    rw [Nat.add_assoc]
    exact h.cell hu)
theorem own_at {n x : Nat} (h : (Value.slice (some ⟨n, 0, none⟩) 0 0).ownBlock = some x) : x = n := by
  have : n = x := by simpa [Value.ownBlock] using h
  exact this.symm

/-- A row of alarms that is new since w; nothing that was there has turned. -/
structure NewA (w w' : World) (v : Value) (n : Nat) (cs : List Value) : Prop where
  row : Row w' 51 2 v n cs
  new : ∀ x, v.ownBlock = some x → w.heap.size ≤ x
  fr : Fr (fun _ => False) w w'
theorem NewA.fresh (w : World) : NewA w (w.alloc (.cells #[] 51)) (.slice (some ⟨w.heap.size, 0, none⟩) 0 0) 0 [] :=
  ⟨⟨rfl, .inr ⟨w.heap.size, 0, 0, #[], rfl, Bk.new _ _ _, Nat.le_refl _, Nat.zero_le _, Nat.le_refl _, fun j hj => by simp at hj⟩⟩, fun x e => by have := own_at e; omega, (Fr.refl _ _).alloc _⟩
theorem NewA.from {w0 w w' : World} {v : Value} {n : Nat} {cs : List Value} (h : NewA w w' v n cs) (hf : Fr (fun _ => False) w0 w) : NewA w0 w' v n cs :=
  ⟨h.row, fun x e => Nat.le_trans hf.size (h.new x e), hf.trans h.fr (fun _ _ h => h)⟩
theorem NewA.fr0 {w w' w'' : World} {v : Value} {n : Nat} {cs : List Value} (h : NewA w w' v n cs) (hf : Fr (fun _ => False) w' w'') : NewA w w'' v n cs :=
  ⟨h.row.fr0 hf, h.new, h.fr.trans hf (fun _ _ h => h)⟩
theorem NewA.step {w w1 w2 : World} {v v' : Value} {n n' : Nat} {cs cs' : List Value} (h : NewA w w1 v n cs) (hr : Row w2 51 2 v' n' cs') (hf : Fr (fun g => v.ownBlock = some g) w1 w2) (hm : Moved w1 v v') : NewA w w2 v' n' cs' :=
  ⟨hr, fun x e => by
    rcases hm with e1 | ⟨y, e1, hy⟩
    · exact h.new x (e1.symm.trans e)
    · rw [e1] at e; injection e with e; have := h.fr.size; omega, h.fr.trans hf (fun x hx e => by have := h.new x e; omega)⟩

/-- The reference's clock at block g. -/
structure RC (w : World) (g : Nat) (now : Int) (LV : Value) (l : List (Int × Int)) : Prop where
  blk : Bk w g 29 #[.int .i64 now, LV]
  row : Row w 51 2 LV l.length (apc l)
def RB (g : Nat) (LV : Value) (x : Nat) : Prop := x = g ∨ LV.ownBlock = some x
theorem RC.lt {w : World} {g : Nat} {now : Int} {LV : Value} {l : List (Int × Int)} (h : RC w g now LV l) {x : Nat} (hx : RB g LV x) : x < w.heap.size := by
  rcases hx with rfl | e
  · exact h.blk.lt
  · exact h.row.lt e
theorem RC.fr {S : Nat → Prop} {w w' : World} {g : Nat} {now : Int} {LV : Value} {l : List (Int × Int)} (h : RC w g now LV l) (hf : Fr S w w') (hS : ∀ x, RB g LV x → ¬ S x) : RC w' g now LV l :=
  ⟨h.blk.fr hf (hS _ (.inl rfl)), h.row.fr hf (fun x e => hS x (.inr e))⟩
theorem RC.fr0 {w w' : World} {g : Nat} {now : Int} {LV : Value} {l : List (Int × Int)} (h : RC w g now LV l) (hf : Fr (fun _ => False) w w') : RC w' g now LV l := h.fr hf (fun _ _ h => h)
theorem RC.rowg {w : World} {g : Nat} {now : Int} {LV : Value} {l : List (Int × Int)} (h : RC w g now LV l) : LV.ownBlock ≠ some g := h.row.ne h.blk (by decide)
theorem RC.cell {w : World} {g b off c : Nat} {now : Int} {l : List (Int × Int)} (h : RC w g now (.slice (some ⟨b, off, none⟩) l.length c) l) {i : Nat} (hi : i < l.length) :
    w.cell? ⟨b, off + i * 2, none⟩ = some (.int .i64 (l.getD i default).1) ∧ w.cell? ⟨b, off + i * 2 + 1, none⟩ = some (.int .i64 (l.getD i default).2) :=
  ⟨h.row.cell (apc_at hi).1, by rw [Nat.add_assoc]; exact h.row.cell (apc_at hi).2⟩
/-- From a clock to that clock later: its own block alone has turned; its row is as it was, or new. -/
def RTo (w : World) (g : Nat) (LV : Value) (w' : World) (now : Int) (LV' : Value) (l : List (Int × Int)) : Prop := RC w' g now LV' l ∧ Fr (fun k => k = g) w w' ∧ (LV' = LV ∨ ∀ x, LV'.ownBlock = some x → w.heap.size ≤ x)
theorem fr_set1 {w : World} {g : Nat} (i : Nat) (v : Value) : Fr (fun k => k = g) w (w.setCell ⟨g, i, none⟩ v) := Fr.setCell (S := fun k => k = g) (p := ⟨g, i, none⟩) (Fr.refl _ _) (fun _ => rfl) _
/-- Its list is another one, in new memory. -/
theorem RC.relist {w w2 : World} {g : Nat} {now : Int} {LV v : Value} {l l' : List (Int × Int)} {n : Nat} (h : RC w g now LV l) (hn : n = l'.length) (hr : NewA w w2 v n (apc l')) : RTo w g LV (w2.setCell ⟨g, 1, none⟩ v) now v l' := by
  subst hn
  have f4 := fr_set1 (w := w2) (g := g) 1 v
  have hb := h.blk.fr hr.fr (fun h => h)
  have hne := hr.row.ne hb (by decide)
  exact ⟨⟨by simpa using hb.set 1 v, hr.row.fr f4 (fun x e e2 => hne (by rw [e, e2]))⟩, (hr.fr.mono (fun _ _ h => h.elim)).trans f4 (fun _ _ e => e), .inr hr.new⟩

set_option maxHeartbeats 1000000 in
theorem rtick_any (g : Nat) (now k : Int) (LV : Value) (l : List (Int × Int)) (w : World) (h : RC w g now LV l) (h0 : 0 ≤ now) (h1 : now ≤ 1152921504606846976) :
    Calls Try.prog 8 #[.pointer (some ⟨g, 0, none⟩), .int .i64 k] w fun e w' => e = .returned (.int .i64 (tickI now k)) ∧ RTo w g LV w' (tickI now k) LV l := by
  have c0 : w.cell? ⟨g, 0, none⟩ = some (.int .i64 now) := h.blk.cell 0
  have f0 : w.frozen? ⟨g, 0, none⟩ = false := h.blk.frozen 0
  have H := Lib.hid h
  clear h
  by_cases hk1 : k < 1
  · rw [tickI_no (.inl hk1)]
    go_enter Try.func8, Try.ntmps8
    go_wp2
    go_ret
    exact ⟨rfl, H.out, Fr.refl _ _, .inl rfl⟩
  · have hk1' : 1 ≤ k := by omega
    by_cases hk2 : 1048576 < k
    · have hk2' : decide (k ≤ 1048576) = false := by simp; omega
      rw [tickI_no (.inr hk2)]
      clear hk1
      go_enter Try.func8, Try.ntmps8
      go_wp2
      go_ret
      exact ⟨rfl, H.out, Fr.refl _ _, .inl rfl⟩
    · have hk2' : k ≤ 1048576 := by omega
      rw [tickI_yes ⟨hk1', hk2'⟩]
      clear hk1 hk2
      go_enter Try.func8, Try.ntmps8
      go_wp2
      go_ret
      have hf := fr_set1 (w := w) (g := g) 0 (.int .i64 (now + k))
      exact ⟨rfl, ⟨by simpa using H.out.blk.set 0 (.int .i64 (now + k)), H.out.row.fr hf (fun x e e2 => H.out.rowg (by rw [e, e2]))⟩, hf, .inl rfl⟩

/-- The first alarm's tick. -/
def nextL (l : List (Int × Int)) : Int := match l with | [] => 0 | c :: _ => c.2
theorem rnext_any (g : Nat) (now : Int) (LV : Value) (l : List (Int × Int)) (w : World) (h : RC w g now LV l) :
    Calls Try.prog 16 #[.pointer (some ⟨g, 0, none⟩)] w fun e w' => e = .returned (.tuple #[.int .i64 (nextL l), .bool (!l.isEmpty)]) ∧ w' = w := by
  rcases l with _ | ⟨x, r⟩
  · have c1 : w.cell? ⟨g, 1, none⟩ = some LV := h.blk.cell 1
    obtain ⟨A, c, hLV, hlc, _, hA⟩ := h.row.form
    subst hLV
    rw [show nextL [] = 0 from rfl, show (!([] : List (Int × Int)).isEmpty) = false from rfl]
    simp only [List.length_nil] at c1
    clear h hA
    go_enter Try.func16, Try.ntmps16
    go_wp2
    go_ret2
    exact ⟨rfl, rfl⟩
  · have c1 : w.cell? ⟨g, 1, none⟩ = some LV := h.blk.cell 1
    obtain ⟨A, c, hLV, hlc, _, hA⟩ := h.row.form
    subst hLV
    obtain ⟨b, off, rfl⟩ := hA (by simp)
    have m1 := (h.cell (i := 0) (by simp)).2
    rw [Nat.zero_mul, Nat.add_zero] at m1
    have m1' : w.cell? ⟨b, off + 1, none⟩ = some (.int .i64 x.2) := m1
    rw [show nextL (x :: r) = x.2 from rfl, show (!(x :: r).isEmpty) = true from rfl]
    obtain ⟨n, hn⟩ : ∃ n, (x :: r).length = n := ⟨_, rfl⟩
    rw [hn] at c1
    have hn0 : (0 : Int) < (n : Int) := by rw [← hn]; simp only [List.length_cons]; omega
    have hnn : ((n : Int) == 0) = false := by simp; omega
    generalize x.2 = t at *
    clear h hA m1 hlc hn
    go_enter Try.func16, Try.ntmps16
    go_wp2
    go_ret2
    exact ⟨rfl, rfl⟩
end Go.Proofs.Ytholaofgdahcbaa
