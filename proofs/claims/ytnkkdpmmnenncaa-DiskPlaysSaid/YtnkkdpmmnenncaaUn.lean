/- The walk of DiskArmed. -/
import Derived.Test.YtnkkdpmmnenncaaUm
namespace Go.Proofs.Ytnkkdpmmnenncaa
open Go.RowKit Go.Maps

/-- Behind k writes of which the L-th is armed. -/
structure AInv (s : DS) (L k : Nat) : Prop where
  N : s.N = 4
  sz : s.sz = 64
  keep : s.keep = []
  q : s.q.length ≤ k
  wr : s.writes = min k (L - 1)
  off : s.off = decide (L ≤ k)
  left : k < L → s.left = L - k
  dead : L ≤ k → s.q = [] ∧ s.left = 0
theorem AInv.sync {s : DS} {L k : Nat} (h : AInv s L k) : AInv (syncS s) L k := by
  unfold syncS
  split
  · exact h
  · exact ⟨h.N, h.sz, h.keep, by simp [DS.sync], h.wr, h.off, h.left, fun hk => ⟨rfl, (h.dead hk).2⟩⟩
theorem AInv.write {s : DS} {L k : Nat} (h : AInv s L k) (hL : 1 ≤ L) {x : Nat} (hx : x < 4) {b : List UInt8} (hb : b.length = 64) :
    s.wErr x b = (if k + 1 < L then 0 else 5) ∧ AInv (s.write x b) L (k + 1) := by
  have hN := h.N
  have hsz := h.sz
  have hq := h.q
  have hwr := h.wr
  rcases Nat.lt_or_ge k L with hk | hk
  · have hoff : s.off = false := by rw [h.off]; simp; omega
    have he : s.err x = 0 := by unfold DS.err; rw [hoff, if_neg (by simp), if_neg (by rw [hN]; omega)]
    have hl := h.left hk
    rcases Nat.eq_or_lt_of_le (show 1 ≤ L - k by omega) with h1 | h1
    · obtain ⟨e1, e2⟩ := write_cut he (b := b) (by omega) (by omega)
      rw [e1, e2, if_neg (by omega)]
      refine ⟨rfl, h.N, h.sz, rfl, by simp [DS.cut], ?_, ?_, fun h2 => by omega, fun _ => ⟨rfl, rfl⟩⟩
      · show s.writes = _; omega
      · show true = _; simp; omega
    · obtain ⟨e1, e2⟩ := write_add he (b := b) (by omega) (by omega)
      rw [e1, e2, if_pos (by omega)]
      refine ⟨rfl, h.N, h.sz, h.keep, by simp [DS.add]; omega, ?_, ?_, fun h2 => ?_, fun h2 => by omega⟩
      · show s.writes + 1 = _; omega
      · show s.off = _; rw [hoff]; simp; omega
      · show s.left - 1 = _; omega
  · have hoff : s.off = true := by rw [h.off]; simp; omega
    have he : s.err x = 5 := by unfold DS.err; rw [hoff, if_pos rfl]
    obtain ⟨e1, e2⟩ := write_err (b := b) (show s.err x ≠ 0 by omega)
    rw [e1, e2, he, if_neg (by omega)]
    exact ⟨rfl, h.N, h.sz, h.keep, by omega, by omega, by rw [hoff]; simp; omega, fun h2 => by omega, fun _ => h.dead hk⟩

def a0 : DS := DS.new 4 64
theorem a0_new (w : World) :
    Calls Try.prog 10 #[.int .i64 4, .int .i64 64] w fun e w' => ∃ g F, e = .returned (.tuple #[.pointer (some ⟨g, 0, none⟩), .int .i64 0]) ∧ RunF w w' g a0 F := by
  refine (new_any 4 64 w (by omega) (by omega) (by omega) (by omega)).mono ?_
  rintro e w1 ⟨g, F, rfl, h1, h2, h3⟩
  exact ⟨g, F, rfl, h1, h2, h3⟩
theorem a0_inv (n : Int) : AInv (a0.arm n []) (max n 1).toNat 0 :=
  ⟨rfl, rfl, rfl, Nat.le_refl _, by show 0 = _; omega, by show false = _; symm; rw [decide_eq_false_iff_not]; omega, fun _ => rfl, fun h => by omega⟩
theorem RunF.arm {w w1 : World} {g : Nat} {s : DS} {F : Nat → Prop} (h : RunF w w1 g s F) (n : Int) (hn : n ≤ 9223372036854775807) (A : Option Addr) (k c : Nat) (xs : List Bool) (hr : RdB w1 A xs) (hk : xs.length = k) (hb : k ≤ 140737488355328) :
    Calls Try.prog 17 #[.pointer (some ⟨g, 0, none⟩), .int .i64 n, .slice A k c] w1 fun e w' => e = .returned (.tuple #[]) ∧ ∃ F', RunF w w' g (s.arm n xs) F' ∧ Fr F w1 w' ∧ ∀ x, x < w1.heap.size → ¬ F x → ¬ F' x :=
  (armD_any h.dsk n hn A k c xs hr hk hb).mono fun _ _ ⟨he, hd⟩ => ⟨he, h.step hd⟩
/-- What a law is told of the disk itself. -/
theorem RunF.offC {w w1 : World} {g : Nat} {s : DS} {F : Nat → Prop} (h : RunF w w1 g s F) : Calls Try.prog 28 #[.pointer (some ⟨g, 0, none⟩)] w1 fun e w' => e = .returned (.bool s.off) ∧ w1 = w' := off_any h.dsk
/-- A write of zeros at the k-th place. -/
theorem RunF.zero {w w1 : World} {g : Nat} {s : DS} {F : Nat → Prop} (h : RunF w w1 g s F) {L k : Nat} (hi : AInv s L k) (hk : k ≤ 100) (hL : 1 ≤ L) (x : Nat) (hx : x < 4) (z : Int) (hz : z = (if k + 1 < L then 0 else 5)) {cur : Array Value} (hc : cur = (Z64.map B8).toArray) :
    Calls Try.prog 12 #[.pointer (some ⟨g, 0, none⟩), .int .i64 (x : Int), .slice (some ⟨w1.heap.size, 0, none⟩) 64 64] (w1.alloc (.cells cur 5)) fun e w' => e = .returned (.int .i64 z) ∧ ∃ s' F', AInv s' L (k + 1) ∧ RunF w w' g s' F' := by
  have hb : Z64.length = 64 := by simp [Z64]
  have hq := hi.q
  have hwr := hi.wr
  obtain ⟨e1, e2⟩ := hi.write hL hx hb
  have h1 : RunF w (w1.alloc (.cells cur 5)) g s F := h.on0 ((Fr.refl _ _).alloc _)
  refine (h1.writeL (by omega) (by omega) (by rw [hi.keep]; simp) (x : Int) w1.heap.size 64 64 Z64 (Loc.of (Bk.new w1 _ _) hc) hb (fun hF => by have := h.lt hF; omega)).mono ?_
  rintro e w2 ⟨rfl, F2, h2, _, _⟩
  exact ⟨by rw [e1, hz], _, F2, e2, h2⟩
end Go.Proofs.Ytnkkdpmmnenncaa
