/- A call as plain data; its bytes; a call read from bytes; there and back. -/
import Derived.Test.YtblfnbmgijppmaaDoorKn
namespace Go.Proofs.YtblfnbmgijppmaaDoor

/-- A decision. -/
structure Dn where
  k : Int
  i : Int
  l : Int
  n : Int
  bs : List UInt8
/-- A call. -/
structure Cl where
  a0 : Int
  a1 : Int
  a2 : Int
  a3 : Int
  t0 : Int
  t1 : Int
  t2 : Int
  t3 : Int
  bs : List UInt8
  L : List Dn
instance : Inhabited Dn := ⟨⟨0, 0, 0, 0, []⟩⟩
def eI (a : Int) : List UInt8 := enc (foldN a)
def eB (xs : List UInt8) : List UInt8 := enc (2 * xs.length) ++ xs
def eD (d : Dn) : List UInt8 := eI d.k ++ (eI d.i ++ (eI d.l ++ (eI d.n ++ eB d.bs)))
def eDs (l : List Dn) : List UInt8 := l.flatMap eD
def eH (c : Cl) : List UInt8 := eI c.a0 ++ (eI c.a1 ++ (eI c.a2 ++ (eI c.a3 ++ (eI c.t0 ++ (eI c.t1 ++ (eI c.t2 ++ eI c.t3))))))
def eC (c : Cl) : List UInt8 := eH c ++ (eB c.bs ++ (eI c.L.length ++ eDs c.L))

/-- What a reader's words are called. -/
def wKind : ByteArray := ⟨#[107, 105, 110, 100]⟩
def wFlow : ByteArray := ⟨#[102, 108, 111, 119]⟩
def wList : ByteArray := ⟨#[108, 105, 115, 116]⟩
def wN : ByteArray := ⟨#[110]⟩
def wTok : ByteArray := ⟨#[116, 111, 107, 101, 110]⟩
def wData : ByteArray := ⟨#[100, 97, 116, 97]⟩
def wCount : ByteArray := ⟨#[99, 111, 117, 110, 116]⟩
def wDec : ByteArray := ⟨#[100, 101, 99, 105, 115, 105, 111, 110]⟩

section
variable (xs : List UInt8)
/-- A decision, read. -/
def d1 (s : St) : St := (stInt xs wDec s).2
def d2 (s : St) : St := (stInt xs wDec (d1 xs s)).2
def d3 (s : St) : St := (stInt xs wDec (d2 xs s)).2
def d4 (s : St) : St := (stInt xs wDec (d3 xs s)).2
def rdDv (s : St) : Dn := ⟨(stInt xs wDec s).1, (stInt xs wDec (d1 xs s)).1, (stInt xs wDec (d2 xs s)).1, (stInt xs wDec (d3 xs s)).1, (stBytes xs wDec 4096 (d4 xs s)).1⟩
def rdDs (s : St) : St := (stBytes xs wDec 4096 (d4 xs s)).2
/-- So many decisions, read. -/
def rdS : Nat → St → St
  | 0, s => s
  | k + 1, s => rdDs xs (rdS k s)
def rdV : Nat → St → List Dn
  | 0, _ => []
  | k + 1, s => rdV k s ++ [rdDv xs (rdS xs k s)]
theorem rdV_len (k : Nat) (s : St) : (rdV xs k s).length = k := by
  induction k with
  | zero => rfl
  | succ k ih => simp [rdV, ih]
def h1 : St := (stInt xs wKind (.at_ 0)).2
def h2 : St := (stInt xs wFlow (h1 xs)).2
def h3 : St := (stInt xs wList (h2 xs)).2
def h4 : St := (stInt xs wN (h3 xs)).2
def h5 : St := (stInt xs wTok (h4 xs)).2
def h6 : St := (stInt xs wTok (h5 xs)).2
def h7 : St := (stInt xs wTok (h6 xs)).2
def h8 : St := (stInt xs wTok (h7 xs)).2
def h9 : St := (stBytes xs wData 4096 (h8 xs)).2
def hN : Int := (stBetween xs wCount 0 32 (h9 xs)).1
def h10 : St := (stBetween xs wCount 0 32 (h9 xs)).2
def rdCs : St := rdS xs (hN xs).toNat (h10 xs)
def rdC : Cl := ⟨(stInt xs wKind (.at_ 0)).1, (stInt xs wFlow (h1 xs)).1, (stInt xs wList (h2 xs)).1, (stInt xs wN (h3 xs)).1, (stInt xs wTok (h4 xs)).1, (stInt xs wTok (h5 xs)).1, (stInt xs wTok (h6 xs)).1, (stInt xs wTok (h7 xs)).1,
  (stBytes xs wData 4096 (h8 xs)).1, rdV xs (hN xs).toNat (h10 xs)⟩
end

/-- A reader at its fault goes no further. -/
def St.isBad : St → Prop
  | .bad _ _ _ => True
  | .at_ _ => False
theorem stInt_bad {xs : List UInt8} {wh : ByteArray} {s : St} (h : s.isBad) : stInt xs wh s = (0, s) := by cases s with | bad => rfl | at_ => exact h.elim
theorem stBytes_bad {xs : List UInt8} {wh : ByteArray} {m : Int} {s : St} (h : s.isBad) : stBytes xs wh m s = ([], s) := by cases s with | bad => rfl | at_ => exact h.elim
theorem rdDs_bad {xs : List UInt8} {s : St} (h : s.isBad) : rdDs xs s = s := by
  have e1 : d1 xs s = s := by unfold d1; rw [stInt_bad h]
  have e2 : d2 xs s = s := by unfold d2; rw [e1, stInt_bad h]
  have e3 : d3 xs s = s := by unfold d3; rw [e2, stInt_bad h]
  have e4 : d4 xs s = s := by unfold d4; rw [e3, stInt_bad h]
  unfold rdDs; rw [e4, stBytes_bad h]
theorem rdS_bad {xs : List UInt8} {s : St} {i k : Nat} (h : (rdS xs i s).isBad) (hik : i ≤ k) : rdS xs k s = rdS xs i s := by
  induction k with
  | zero => rw [show i = 0 by omega]
  | succ k ih =>
    rcases Nat.eq_or_lt_of_le hik with e | e
    · rw [e]
    · have h1 := ih (by omega)
      show rdDs xs (rdS xs k s) = _
      rw [h1]; exact rdDs_bad h
theorem stEnd_bad {xs : List UInt8} {s : St} (h : s.isBad) : stEnd xs s ≠ none := by cases s with | bad => simp [stEnd] | at_ => exact h.elim

/-! There and back. -/
def okI (a : Int) : Prop := -9223372036854775808 ≤ a ∧ a ≤ 9223372036854775807
theorem back_int (a : Int) (ha : okI a) (wh : ByteArray) (p r : List UInt8) : stInt (p ++ (eI a ++ r)) wh (.at_ p.length) = (a, .at_ (p ++ eI a).length) := by
  unfold stInt
  simp only [drop_at]
  unfold eI
  rw [rdNum_enc _ _ (foldN_lt _ ha.1 ha.2)]
  simp [unfN_foldN]
theorem back_bytes (xs : List UInt8) (hx : (xs.length : Int) ≤ 4096) (wh : ByteArray) (p r : List UInt8) : stBytes (p ++ (eB xs ++ r)) wh 4096 (.at_ p.length) = (xs, .at_ (p ++ eB xs).length) := by
  have hr : srRun (p ++ (eB xs ++ r)) p.length 4096 = (.ok (p ++ eB xs).length, xs) := by
    unfold srRun
    simp only [drop_at]
    unfold eB
    rw [← foldN_nat, List.append_assoc, rdNum_enc _ _ (foldN_lt _ (by omega) (by omega))]
    simp only [unfN_foldN]
    rw [if_neg (by omega), if_neg (by omega), if_neg (by simp only [List.length_append]; omega)]
    rw [← List.append_assoc p, show p.length + (enc (foldN xs.length)).length = (p ++ enc (foldN xs.length)).length by simp, drop_at]
    simp
    omega
  unfold stBytes
  simp only [hr]
theorem long_bytes (xs : List UInt8) (hx : (4096 : Int) < xs.length) (hb : (xs.length : Int) ≤ 9223372036854775807) (wh : ByteArray) (p r : List UInt8) : (stBytes (p ++ (eB xs ++ r)) wh 4096 (.at_ p.length)).2.isBad := by
  have hr : (srRun (p ++ (eB xs ++ r)) p.length 4096).1 = .bad 10 := by
    unfold srRun
    simp only [drop_at]
    unfold eB
    rw [← foldN_nat, List.append_assoc, rdNum_enc _ _ (foldN_lt _ (by omega) (by omega))]
    simp only [unfN_foldN]
    rw [if_neg (by omega), if_pos (by omega)]
  unfold stBytes
  simp only [hr]
  trivial
theorem back_between (a : Int) (h0 : 0 ≤ a) (h1 : a ≤ 32) (wh : ByteArray) (p r : List UInt8) : stBetween (p ++ (eI a ++ r)) wh 0 32 (.at_ p.length) = (a, .at_ (p ++ eI a).length) := by
  unfold stBetween srWithin
  simp only [drop_at]
  unfold eI
  rw [rdNum_enc _ _ (foldN_lt _ (by omega) (by omega))]
  simp only [unfN_foldN]
  rw [if_neg (by omega)]
  simp
theorem far_between (a : Int) (h1 : 32 < a) (hb : a ≤ 9223372036854775807) (wh : ByteArray) (p r : List UInt8) : (stBetween (p ++ (eI a ++ r)) wh 0 32 (.at_ p.length)).2.isBad := by
  unfold stBetween srWithin
  simp only [drop_at]
  unfold eI
  rw [rdNum_enc _ _ (foldN_lt _ (by omega) (by omega))]
  simp only [unfN_foldN]
  rw [if_pos (by omega)]
  trivial
end Go.Proofs.YtblfnbmgijppmaaDoor
