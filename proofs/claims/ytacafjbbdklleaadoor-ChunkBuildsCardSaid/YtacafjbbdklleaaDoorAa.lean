/- chunk: pieces and what is built of them, as plain data; where they lie in memory. -/
import Derived.Test.YtacafjbbdklleaaDoorCc
import Derived.Test.YtacafjbbdklleaaDoorNa
import Derived.Deep.QuietTactic
import Derived.BigQuiet
namespace Go.Proofs.YtacafjbbdklleaaDoor
open Go.RowKit

/-- A piece. -/
structure Pc where
  id : Int
  at_ : Int
  total : Int
  sum : Nat
  data : List UInt8
/-- May a piece be added at all? -/
def Pc.may (p : Pc) : Prop := 0 ≤ p.id ∧ 0 ≤ p.total ∧ p.total ≤ 1048576 ∧ 0 ≤ p.at_ ∧ p.at_ ≤ p.total - p.data.length ∧ (0 < p.data.length ∨ p.total = 0)
instance (p : Pc) : Decidable p.may := by unfold Pc.may; infer_instance

/-- What is built; Id -1: nothing. -/
structure BSt where
  id : Int
  total : Int
  sum : Nat
  data : List UInt8
def BSt.none : BSt := ⟨-1, -1, 0, []⟩
/-- What p's Id begins with. -/
def BSt.begin (s : BSt) (p : Pc) : BSt := if s.id < p.id then ⟨p.id, p.total, p.sum, []⟩ else s
/-- What is added, with p behind it. -/
def BSt.put (s : BSt) (p : Pc) : BSt := { s with data := s.data ++ p.data.drop (s.data.length - p.at_.toNat) }
/-- What is wrong of a piece that is added (0: nothing). -/
def BSt.addE (s : BSt) (p : Pc) : Int :=
  if ¬ p.may then 1 else if p.id < s.id then 6 else if p.id = s.id ∧ (p.total ≠ s.total ∨ p.sum ≠ s.sum) then 8
  else if ((s.begin p).data.length : Int) < p.at_ then 6 else 0
def BSt.add (s : BSt) (p : Pc) : BSt := if s.addE p = 0 then (s.begin p).put p else s
def BSt.whole (s : BSt) : Prop := (s.data.length : Int) = s.total
instance (s : BSt) : Decidable s.whole := by unfold BSt.whole; infer_instance
def BSt.doneE (s : BSt) : Int := if ¬ s.whole then 6 else if crcOf s.data ≠ s.sum then 9 else 0
def BSt.done (s : BSt) : BSt := if s.doneE = 6 then s else BSt.none
/-- States that a builder may come to. -/
def BSt.Ok (s : BSt) : Prop := s = BSt.none ∨ (0 ≤ s.id ∧ s.sum < 4294967296 ∧ (s.data.length : Int) ≤ s.total ∧ s.total ≤ 1048576)
theorem BSt.Ok.len {s : BSt} (h : s.Ok) : s.data.length ≤ 1048576 := by
  rcases h with rfl | ⟨_, _, h1, h2⟩
  · simp [BSt.none]
  · omega
theorem BSt.Ok.tot {s : BSt} (h : s.Ok) : -1 ≤ s.total ∧ s.total ≤ 1048576 := by
  rcases h with rfl | ⟨_, _, h1, h2⟩
  · simp [BSt.none]
  · omega
theorem BSt.Ok.sum {s : BSt} (h : s.Ok) : s.sum < 4294967296 := by
  rcases h with rfl | ⟨_, h1, _, _⟩
  · simp [BSt.none]
  · exact h1
theorem BSt.none_ok : BSt.none.Ok := .inl rfl
theorem BSt.done_ok {s : BSt} (h : s.Ok) : s.done.Ok := by
  unfold BSt.done; split
  · exact h
  · exact BSt.none_ok
theorem BSt.addE_ok {s : BSt} {p : Pc} (h : s.addE p = 0) : p.may ∧ s.id ≤ p.id ∧ (p.id = s.id → p.total = s.total ∧ p.sum = s.sum) ∧ p.at_ ≤ ((s.begin p).data.length : Int) := by
  unfold BSt.addE at h
  by_cases h1 : p.may
  · rw [if_neg (by simpa using h1)] at h
    by_cases h2 : p.id < s.id
    · rw [if_pos h2] at h; omega
    rw [if_neg h2] at h
    by_cases h3 : p.id = s.id ∧ (p.total ≠ s.total ∨ p.sum ≠ s.sum)
    · rw [if_pos h3] at h; omega
    rw [if_neg h3] at h
    by_cases h4 : ((s.begin p).data.length : Int) < p.at_
    · rw [if_pos h4] at h; omega
    refine ⟨h1, by omega, fun e => ?_, by omega⟩
    constructor
    · by_cases h5 : p.total = s.total
      · exact h5
      · exact absurd ⟨e, .inl h5⟩ h3
    · by_cases h5 : p.sum = s.sum
      · exact h5
      · exact absurd ⟨e, .inr h5⟩ h3
  · rw [if_pos h1] at h; omega
theorem BSt.begin_total {s : BSt} {p : Pc} (h : s.addE p = 0) : (s.begin p).id = p.id ∧ (s.begin p).total = p.total ∧ (s.begin p).sum = p.sum := by
  obtain ⟨_, h2, h3, _⟩ := BSt.addE_ok h
  unfold BSt.begin
  by_cases h5 : s.id < p.id
  · rw [if_pos h5]; exact ⟨rfl, rfl, rfl⟩
  · rw [if_neg h5]
    have h6 : p.id = s.id := by omega
    exact ⟨h6.symm, (h3 h6).1.symm, (h3 h6).2.symm⟩
theorem BSt.add_ok {s : BSt} {p : Pc} (h : s.Ok) (hp : p.sum < 4294967296) : (s.add p).Ok := by
  unfold BSt.add
  by_cases hE : s.addE p = 0
  · rw [if_pos hE]
    obtain ⟨hm, h2, h3, h4⟩ := BSt.addE_ok hE
    obtain ⟨b1, b2, b3⟩ := BSt.begin_total hE
    refine .inr ⟨?_, ?_, ?_, ?_⟩
    · show 0 ≤ (s.begin p).id
      rw [b1]; exact hm.1
    · show (s.begin p).sum < _
      rw [b3]; exact hp
    · show (((s.begin p).data ++ p.data.drop ((s.begin p).data.length - p.at_.toNat)).length : Int) ≤ (s.begin p).total
      rw [b2, List.length_append, List.length_drop]
      have hb : ((s.begin p).data.length : Int) ≤ p.total := by
        rw [← b2]
        unfold BSt.begin
        by_cases h5 : s.id < p.id
        · rw [if_pos h5]; simp; exact hm.2.1
        · rw [if_neg h5]
          rcases h with rfl | ⟨_, _, h6, _⟩
          · have := hm.1
            simp [BSt.none] at h5; omega
          · exact h6
      obtain ⟨_, _, _, m1, m2, _⟩ := hm
      omega
    · show (s.begin p).total ≤ _
      rw [b2]; exact hm.2.2.1
  · rw [if_neg hE]; exact h

/-- A piece by value, its bytes at v. -/
def Pc.v (p : Pc) (x : Value) : Value := .agg #[.int .i64 p.id, .int .i64 p.at_, .int .i64 p.total, .int .u32 p.sum, x]
def Pc.cells (p : Pc) (x : Value) : Array Value := #[.int .i64 p.id, .int .i64 p.at_, .int .i64 p.total, .int .u32 p.sum, x]
/-- A piece's bytes are at the slice A, of blocks below F. -/
def RdF8 (w : World) (F : Nat) (A : Option Addr) (xs : List UInt8) : Prop := Rd8 w A xs ∧ ∀ ad, A = some ad → 0 < xs.length → ad.block < F
theorem RdF8.fr {S : Nat → Prop} {w w' : World} {F : Nat} {A : Option Addr} {xs : List UInt8} (h : RdF8 w F A xs) (hb : Fr S w w') (hS : ∀ k, k < F → ¬ S k) : RdF8 w' F A xs :=
  ⟨h.1.fr hb (fun ad e h0 => hS _ (h.2 ad e h0)), h.2⟩

/-- A builder at block b, its bytes at v. -/
def Bd (w : World) (b : Nat) (s : BSt) (v : Value) : Prop :=
  s.Ok ∧ ((s = BSt.none ∧ v = .slice none 0 0 ∧ Bk w b 79 #[.pointer none]) ∨
    ∃ fb, Bk w b 79 #[.pointer (some ⟨fb, 0, none⟩)] ∧ Bk w fb 36 #[.int .i64 s.id, .int .i64 0, .int .i64 s.total, .int .u32 s.sum, v] ∧ Own8 w 5 v s.data)
theorem Bd.own {w : World} {b : Nat} {s : BSt} {v : Value} (h : Bd w b s v) : Own8 w 5 v s.data := by
  rcases h.2 with ⟨rfl, rfl, _⟩ | ⟨_, _, _, h⟩
  · exact Own8.nil _ _
  · exact h
theorem Bd.bk {w : World} {b : Nat} {s : BSt} {v : Value} (h : Bd w b s v) : ∃ cs, Bk w b 79 cs := by
  rcases h.2 with ⟨_, _, h⟩ | ⟨_, h, _⟩
  · exact ⟨_, h⟩
  · exact ⟨_, h⟩
end Go.Proofs.YtacafjbbdklleaaDoor
