/- A frame is read. -/
import Derived.Test.YtbopmboigcdjpaaDoorCd
namespace Go.Proofs.YtbopmboigcdjpaaDoor
open Go.RowKit

def sHead : ByteArray := ⟨#[104, 101, 97, 100]⟩
def sLength : ByteArray := ⟨#[108, 101, 110, 103, 116, 104]⟩
def sBody : ByteArray := ⟨#[98, 111, 100, 121]⟩

/-- What reading a frame comes to. -/
inductive RF where
  | bad (er at_ : Nat) (what : ByteArray)
  | good (body : List UInt8) (n : Nat)

def rdFrame (xs : List UInt8) : RF :=
  if xs.length < 8 then .bad 7 0 sHead
  else if crcOf (xs.take 4) ≠ le32 (xs.drop 4) then .bad 9 0 sHead
  else if 1048576 < le32 xs then .bad 10 0 sLength
  else if xs.length < 12 + le32 xs then .bad 7 8 sBody
  else if crcOf ((xs.drop 8).take (le32 xs)) ≠ le32 (xs.drop (8 + le32 xs)) then .bad 9 8 sBody
  else .good ((xs.drop 8).take (le32 xs)) (12 + le32 xs)

theorem Rd8.part {w : World} {b o : Nat} {xs : List UInt8} (h : Rd8 w (some ⟨b, o, none⟩) xs) (k m : Nat) : Rd8 w (some ⟨b, o + k, none⟩) ((xs.drop k).take m) := fun h0 => by
  simp at h0
  obtain ⟨ad, e, _, hc⟩ := h (by omega)
  injection e with e
  subst e
  refine ⟨_, rfl, rfl, fun j hj => ?_⟩
  simp at hj
  have := hc (k + j) (by omega)
  rw [Nat.add_assoc]
  simpa using this
theorem Rd8.tail {w : World} {b o : Nat} {xs : List UInt8} (h : Rd8 w (some ⟨b, o, none⟩) xs) (k : Nat) : Rd8 w (some ⟨b, o + k, none⟩) (xs.drop k) := by
  have := h.part k xs.length
  rwa [List.take_of_length_le (by simp)] at this
theorem Rd8.front {w : World} {b o : Nat} {xs : List UInt8} (h : Rd8 w (some ⟨b, o, none⟩) xs) (m : Nat) : Rd8 w (some ⟨b, o, none⟩) (xs.take m) := by
  have := h.part 0 m
  simpa using this

theorem Fr.of_drewN {S : Nat → Prop} {a w w' : World} (h : Fr S a w) {n : Nat} (e : w.drewN n = w') : Fr S a w' := by subst e; exact h.drewN n

end Go.Proofs.YtbopmboigcdjpaaDoor
