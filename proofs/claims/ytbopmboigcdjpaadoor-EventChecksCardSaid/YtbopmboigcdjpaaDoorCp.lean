/- What every law asks first. -/
import Derived.Test.YtbopmboigcdjpaaDoorCo
import Derived.Test.YtbopmboigcdjpaaDoorStr
import Derived.Laws.BytesArg
import Derived.Lib.SlBytesConst
namespace Go.Proofs.YtbopmboigcdjpaaDoor
open Go.RowKit

theorem fold64 : foldN 64 = 128 := by unfold foldN; rw [if_pos (by omega)]; omega
theorem enc128 : enc 128 = [128, 1] := by
  rw [enc_ge 128 (Nat.le_refl _), enc_lt (128 / 128) (by omega)]
  decide +kernel
theorem enc4 : enc (2 * 2) = [4] := by
  rw [enc_lt (2 * 2) (by omega)]
  decide +kernel
theorem known1 : enc (foldN 64) ++ (enc (2 * 2) ++ [97, 98]) = [128, 1, 4, 97, 98] := by
  rw [fold64, enc128, enc4]
  decide +kernel
theorem known2 (wh : ByteArray) : stInt [128, 1, 4, 97, 98] wh (.at_ 0) = (64, .at_ 2) := rfl
theorem known3 (wh : ByteArray) : stBytes [128, 1, 4, 97, 98] wh 9 (.at_ 2) = ([97, 98], .at_ 5) := rfl
theorem known4 : stEnd [128, 1, 4, 97, 98] (.at_ 5) = none := rfl
theorem known5 : rdFrame (frameOf [97, 98, 99]) = .good [97, 98, 99] 15 := by rfl
theorem known6 : crcOf [49, 50, 51, 52, 53, 54, 55, 56, 57] = 3808858755 := by decide +kernel

/-- The blocks that the words of a world say. -/
theorem ErrT.lt {w : World} (h : ErrT w) : 0 < w.heap.size := World.block_lt_of_cell? w _ h
/-- A slice of two or three bytes that the text lays. -/
theorem rd_lit (w : World) (xs : List UInt8) (cs : Array Value) (hcs : cs = (xs.map B8).toArray) : Rd8 (w.alloc (.cells cs 5 (cs.size, cs.size + 1))) (some ⟨w.heap.size, 0, none⟩) xs := fun _ => by
  refine ⟨_, rfl, rfl, fun j hj => ?_⟩
  rw [Nat.zero_add, cell_of_row _ w.heap.size j cs 5 (cs.size, cs.size + 1) (heap_alloc_new w _), hcs]
  simp [hj, B8]

/-- From block B on anything may turn. -/
abbrev Nb (B : Nat) (w w' : World) : Prop := Fr (fun x => B ≤ x) w w'
theorem Nb.add {B : Nat} {a b c : World} (h : Nb B a b) (k : Nb B b c) : Nb B a c := h.trans k (fun _ _ h => h)
theorem Fr.nb {S : Nat → Prop} {w w' : World} (h : Fr S w w') {B : Nat} (hS : ∀ x, S x → B ≤ x) : Nb B w w' := h.mono (fun x _ h => hS x h)
theorem Fr.nb0 {w w' : World} (h : Fr (fun _ => False) w w') (B : Nat) : Nb B w w' := h.mono (fun _ _ h => h.elim)
/-- v's block, if it has one, is from B on. -/
def From (B : Nat) (v : Value) : Prop := ∀ k, v.ownBlock = some k → B ≤ k
theorem From.nil (B : Nat) (n c : Nat) : From B (.slice none n c) := fun k hk => by simp [Value.ownBlock] at hk
theorem From.moved {B : Nat} {w : World} {v v' : Value} (h : From B v) (hm : Moved w v v') (hB : B ≤ w.heap.size) : From B v' := fun k hk => by
  rcases hm with e | ⟨x, e, hx⟩
  · exact h k (e ▸ hk)
  · rw [e] at hk; injection hk with hk; omega
theorem Fresh.from {w w' : World} {v : Value} (h : Fresh w w' v) {B : Nat} (hB : B ≤ w.heap.size) : From B v := fun k hk => Nat.le_trans hB (h.2 k hk)

end Go.Proofs.YtbopmboigcdjpaaDoor
