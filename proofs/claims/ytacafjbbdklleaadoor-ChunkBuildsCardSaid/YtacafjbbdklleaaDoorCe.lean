/- A frame is read. -/
import Derived.Test.YtacafjbbdklleaaDoorCd
namespace Go.Proofs.YtacafjbbdklleaaDoor
open Go.RowKit

/-- An error that is a Fault in a block of its own. -/
def FaultAt (w : World) (fb : Nat) (er at_ : Nat) (what : ByteArray) : Prop := Bk w fb 104 #[.int .i64 er, .int .i64 at_, .string what]
def faultV (fb : Nat) : Value := .iface 74 (.pointer (some ⟨fb, 0, none⟩))

def sHead : ByteArray := ⟨#[104, 101, 97, 100]⟩
def sLength : ByteArray := ⟨#[108, 101, 110, 103, 116, 104]⟩
def sBody : ByteArray := ⟨#[98, 111, 100, 121]⟩

/-- What reading a frame comes to. -/
inductive RF where
  | bad (er at_ : Nat) (what : ByteArray)
  | good (body : List UInt8) (n : Nat)

def rdFrame (xs : List UInt8) : RF :=
  if xs.length < 8 then .bad 7 0 sHead
  else if crcOf (xs.take 4) ≠ le32 (xs.drop 4) then .bad 9 0 sHead
  else if 1048576 < le32 xs then .bad 10 0 sLength
  else if xs.length < 12 + le32 xs then .bad 7 8 sBody
  else if crcOf ((xs.drop 8).take (le32 xs)) ≠ le32 (xs.drop (8 + le32 xs)) then .bad 9 8 sBody
  else .good ((xs.drop 8).take (le32 xs)) (12 + le32 xs)

def RFPost (w : World) (r : RF) (e : Ending) (w' : World) : Prop :=
  match r with
  | .bad er at_ what => ∃ fb, e = .returned (.tuple #[.slice none 0 0, .int .i64 0, faultV fb]) ∧ FaultAt w' fb er at_ what ∧ Fr (fun _ => False) w w' ∧ w.heap.size ≤ fb
  | .good body n => ∃ A' c', e = .returned (.tuple #[.slice A' body.length c', .int .i64 n, .nilIface]) ∧ Own8 w' 5 (.slice A' body.length c') body ∧ Fresh w w' (.slice A' body.length c')

theorem Rd8.part {w : World} {b o : Nat} {xs : List UInt8} (h : Rd8 w (some ⟨b, o, none⟩) xs) (k m : Nat) : Rd8 w (some ⟨b, o + k, none⟩) ((xs.drop k).take m) := fun h0 => by
  simp at h0
  obtain ⟨ad, e, _, hc⟩ := h (by omega)
  injection e with e
  subst e
  refine ⟨_, rfl, rfl, fun j hj => ?_⟩
  simp at hj
  have := hc (k + j) (by omega)
  rw [Nat.add_assoc]
  simpa using this
theorem Rd8.tail {w : World} {b o : Nat} {xs : List UInt8} (h : Rd8 w (some ⟨b, o, none⟩) xs) (k : Nat) : Rd8 w (some ⟨b, o + k, none⟩) (xs.drop k) := by
  have := h.part k xs.length
  rwa [List.take_of_length_le (by simp)] at this
theorem Rd8.front {w : World} {b o : Nat} {xs : List UInt8} (h : Rd8 w (some ⟨b, o, none⟩) xs) (m : Nat) : Rd8 w (some ⟨b, o, none⟩) (xs.take m) := by
  have := h.part 0 m
  simpa using this

theorem sum_q (A : Option Addr) (n c : Nat) (xs : List UInt8) (w : World) (k : Nat) (ht : Tab w) (hr : Rd8 w A xs) (hn : xs.length = n) (hb : n ≤ 140737488355328) :
    Calls Tryd.prog 35 #[.slice A n c] (w.drewN k) fun e w' => e = .returned (.int .u32 (crcOf xs)) ∧ w' = w.drewN k :=
  (sum_any A n c xs (w.drewN k) ht hr hn hb).mono fun _ _ ⟨h1, h2⟩ => ⟨h1, h2.symm⟩
theorem Fr.of_drewN {S : Nat → Prop} {a w w' : World} (h : Fr S a w) {n : Nat} (e : w.drewN n = w') : Fr S a w' := by subst e; exact h.drewN n

end Go.Proofs.YtacafjbbdklleaaDoor
