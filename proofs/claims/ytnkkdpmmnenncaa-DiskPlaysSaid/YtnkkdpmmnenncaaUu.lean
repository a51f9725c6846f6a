/- DiskOutlasts: the states of its disk. -/
import Derived.Test.YtnkkdpmmnenncaaUt
import Derived.Test.YtnkkdpmmnenncaaStr
import Derived.Deep.RegionHeld3
namespace Go.Proofs.Ytnkkdpmmnenncaa
open Go.RowKit Go.Maps

/-- A write of what an act holds. -/
theorem RunF.dataW {w w1 w3 : World} {g : Nat} {s : DS} {F : Nat → Prop} (h : RunF w w1 g s F) (hq : s.q.length ≤ 1048575) (hw : (s.writes : Int) ≤ 4611686018427387904) (hk : s.keep.length ≤ 140737488355328) {q : Act} {b o sz : Nat} (ha : ActAt w1 w.heap.size b o q) {A : Option Addr} {c : Nat}
    (hr : Rd8 w3 A (dataOf q sz)) (hl : Lies w1 q A) (hf : Fr (fun _ => False) w1 w3) :
    Calls Try.prog 12 #[.pointer (some ⟨g, 0, none⟩), .int .i64 q.sec, .slice A (dataOf q sz).length c] w3 fun e w' => e = .returned (.int .i64 (s.wErr q.sec (dataOf q sz))) ∧ ∃ F', RunF w w' g (s.write q.sec (dataOf q sz)) F' ∧ Fr F w3 w' ∧ ∀ x, x < w3.heap.size → ¬ F x → ¬ F' x :=
  (h.on0 hf).write hq hw hk q.sec A _ c _ hr rfl (fun ad e h0 hF => by
    rcases hl ad e with h1 | ⟨h1, h2⟩
    · have := h.lt hF; omega
    · have h3 := ha.bb ad h1 h2
      have h4 := h.low _ hF
      omega)

/-- Behind k writes of a list of acts. -/
structure OInv (s : DS) (K : List UInt8) (l : List Act) (k c : Nat) : Prop where
  N : s.N = 8
  sz : s.sz = 64
  off : s.off = false
  left : s.left = 0
  keep : s.keep = []
  kept : s.kept = K
  q : s.q.length ≤ k
  wr : s.writes ≤ c + k
  src : ∀ i, i < s.q.length → ∃ j, j < k ∧ (l.getD j default).sec = ((pAt s.q i).1 : Int) ∧ dataOf (l.getD j default) 64 = (pAt s.q i).2
theorem OInv.step {s : DS} {K : List UInt8} {l : List Act} {k c : Nat} (h : OInv s K l k c) : OInv (s.write (l.getD k default).sec (dataOf (l.getD k default) 64)) K l (k + 1) c := by
  have up : OInv s K l (k + 1) c := ⟨h.N, h.sz, h.off, h.left, h.keep, h.kept, by have := h.q; omega, by have := h.wr; omega, fun i hi => by
    obtain ⟨j, h1, h2⟩ := h.src i hi
    exact ⟨j, by omega, h2⟩⟩
  by_cases he : s.err (l.getD k default).sec = 0
  · by_cases hb : (dataOf (l.getD k default) 64).length = s.sz
    · have hl := h.left
      rw [(write_add he hb (by omega)).2]
      obtain ⟨_, h0, h1⟩ := DS.err_in he
      refine ⟨h.N, h.sz, h.off, ?_, h.keep, h.kept, ?_, ?_, fun i hi => ?_⟩
      · show s.left - 1 = 0; omega
      · show (s.q ++ [_]).length ≤ _; have := h.q; simp; omega
      · show s.writes + 1 ≤ _; have := h.wr; omega
      · have hi' : i < (s.q ++ [((l.getD k default).sec.toNat, dataOf (l.getD k default) 64)]).length := hi
        have hi2 : i < s.q.length + 1 := by simpa using hi'
        show ∃ j, j < k + 1 ∧ _ = ((pAt (s.q ++ [((l.getD k default).sec.toNat, dataOf (l.getD k default) 64)]) i).1 : Int) ∧ _
        rcases Nat.lt_or_ge i s.q.length with h2 | h2
        · obtain ⟨j, h3, h4, h5⟩ := h.src i h2
          refine ⟨j, by omega, ?_, ?_⟩
          · rw [pAt_app h2]; exact h4
          · show _ = (pAt (s.q ++ [((l.getD k default).sec.toNat, dataOf (l.getD k default) 64)]) i).2
            rw [pAt_app h2]; exact h5
        · obtain rfl : i = s.q.length := by omega
          refine ⟨k, by omega, ?_, ?_⟩
          · rw [pAt_last]; simp only; omega
          · show _ = (pAt (s.q ++ [((l.getD k default).sec.toNat, dataOf (l.getD k default) 64)]) s.q.length).2
            rw [pAt_last]
    · rw [(write_len he hb).2]; exact up
  · rw [(write_err he).2]; exact up
theorem OInv.sync {s : DS} {K : List UInt8} {l : List Act} {k c : Nat} (h : OInv s K l k c) (l' : List Act) : OInv (syncS s) (syncS s).kept l' 0 (c + k) := by
  unfold syncS
  rw [if_neg (by rw [h.off]; simp)]
  exact ⟨h.N, h.sz, h.off, h.left, h.keep, rfl, Nat.zero_le _, h.wr, fun i hi => by simp [DS.sync] at hi⟩
theorem OInv.syncE {s : DS} {K : List UInt8} {l : List Act} {k c : Nat} (h : OInv s K l k c) : syncE s = 0 := if_neg (by rw [h.off]; simp)
def b8 : DS := DS.new 8 64
theorem b8_inv (l : List Act) : OInv b8 b8.kept l 0 0 := ⟨rfl, rfl, rfl, rfl, rfl, rfl, Nat.le_refl _, Nat.le_refl _, fun i hi => absurd (show i < 0 from hi) (Nat.not_lt_zero _)⟩
theorem b8_new (w : World) :
    Calls Try.prog 10 #[.int .i64 8, .int .i64 64] w fun e w' => ∃ g F, e = .returned (.tuple #[.pointer (some ⟨g, 0, none⟩), .int .i64 0]) ∧ RunF w w' g b8 F := by
  refine (new_any 8 64 w (by omega) (by omega) (by omega) (by omega)).mono ?_
  rintro e w1 ⟨g, F, rfl, h1, h2, h3⟩
  exact ⟨g, F, rfl, h1, h2, h3⟩

/-- Is it one of the first k acts' data for that sector, or what was there? -/
def okN (K : List UInt8) (l : List Act) (x : Nat) (X : List UInt8) : Nat → Bool
  | 0 => X == pieceOf 64 K x
  | k + 1 => okN K l x X k || (decide ((l.getD k default).sec = (x : Int)) && (dataOf (l.getD k default) 64 == X))
theorem okN_on {K : List UInt8} {l : List Act} {x : Nat} {X : List UInt8} {i k : Nat} (h : okN K l x X i = true) (hik : i ≤ k) : okN K l x X k = true := by
  induction k with
  | zero => obtain rfl : i = 0 := by omega
            exact h
  | succ k ih =>
    rcases Nat.eq_or_lt_of_le hik with e | e
    · subst e; exact h
    · unfold okN; rw [ih (by omega)]; rfl
/-- What each sector holds behind the cut. -/
theorem OInv.cut {s : DS} {K : List UInt8} {l : List Act} {k c : Nat} (h : OInv s K l k c) (ok : s.ok) (keep : List Bool) (x : Nat) (hx : x < 8) :
    ((s.cut keep).on.err (x : Int) = 0) ∧ ((s.cut keep).on.sz = 64) ∧ ((s.cut keep).on.q.length = 0) ∧ okN K l x ((s.cut keep).on.read x) k = true := by
  have he : (s.cut keep).on.err (x : Int) = 0 := by
    unfold DS.err
    rw [show (s.cut keep).on.off = false from rfl, if_neg (by simp), if_neg (by show ¬ ((x : Int) < 0 ∨ (s.N : Int) ≤ x); rw [h.N]; omega)]
  refine ⟨he, h.sz, rfl, ?_⟩
  have hr : (s.cut keep).on.read x = pieceOf s.sz (keepN s.sz s.q (kOf keep) s.kept s.q.length) x := read_piece rfl
  rw [hr]
  rcases keepN_piece ok (kOf keep) x s.q.length (Nat.le_refl _) with e | ⟨j, h1, h2, h3, e⟩
  · refine okN_on (i := 0) ?_ (Nat.zero_le _)
    unfold okN
    rw [e, h.sz, h.kept]; simp
  · obtain ⟨j', h4, h5, h6⟩ := h.src j h1
    refine okN_on (i := j' + 1) ?_ (by omega)
    unfold okN
    rw [e, h6, h5, h3]
    simp
end Go.Proofs.Ytnkkdpmmnenncaa
