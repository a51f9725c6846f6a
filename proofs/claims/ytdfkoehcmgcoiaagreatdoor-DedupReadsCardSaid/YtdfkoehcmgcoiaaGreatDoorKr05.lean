import Derived.Test.YtdfkoehcmgcoiaaGreatDoorKr04
import Derived.LaidEql
import Derived.Stop.Asserts
import Derived.RowKitTokens
import Derived.Deep.RegionHeld3

/- A frame is read. -/
namespace Go.Proofs.YtdfkoehcmgcoiaaGreatDoor
open Go.RowKit

/-- An error that is a Fault in a block of its own. -/
def FaultAt (w : World) (fb : Nat) (er at_ : Nat) (what : ByteArray) : Prop := Bk w fb 47 #[.int .i64 er, .int .i64 at_, .string what]
def faultV (fb : Nat) : Value := .iface 43 (.pointer (some ⟨fb, 0, none⟩))

def sHead : ByteArray := ⟨#[104, 101, 97, 100]⟩
def sLength : ByteArray := ⟨#[108, 101, 110, 103, 116, 104]⟩
def sBody : ByteArray := ⟨#[98, 111, 100, 121]⟩

/-- What reading a frame comes to. -/
inductive RF where
  | bad (er at_ : Nat) (what : ByteArray)
  | good (body : List UInt8) (n : Nat)

def rdFrame (xs : List UInt8) : RF :=
  if xs.length < 8 then .bad 7 0 sHead
  else if crcOf (xs.take 4) ≠ le32 (xs.drop 4) then .bad 9 0 sHead
  else if 1048576 < le32 xs then .bad 10 0 sLength
  else if xs.length < 12 + le32 xs then .bad 7 8 sBody
  else if crcOf ((xs.drop 8).take (le32 xs)) ≠ le32 (xs.drop (8 + le32 xs)) then .bad 9 8 sBody
  else .good ((xs.drop 8).take (le32 xs)) (12 + le32 xs)

def RFPost (w : World) (r : RF) (e : Ending) (w' : World) : Prop :=
  match r with
  | .bad er at_ what => ∃ fb, e = .returned (.tuple #[.slice none 0 0, .int .i64 0, faultV fb]) ∧ FaultAt w' fb er at_ what ∧ Fr (fun _ => False) w w' ∧ w.heap.size ≤ fb
  | .good body n => ∃ A' c', e = .returned (.tuple #[.slice A' body.length c', .int .i64 n, .nilIface]) ∧ Own8 w' 5 (.slice A' body.length c') body ∧ Fresh w w' (.slice A' body.length c')

theorem Rd8.part {w : World} {b o : Nat} {xs : List UInt8} (h : Rd8 w (some ⟨b, o, none⟩) xs) (k m : Nat) : Rd8 w (some ⟨b, o + k, none⟩) ((xs.drop k).take m) := fun h0 => by
  simp at h0
  obtain ⟨ad, e, _, hc⟩ := h (by omega)
  injection e with e
  subst e
  refine ⟨_, rfl, rfl, fun j hj => ?_⟩
  simp at hj
  have := hc (k + j) (by omega)
  rw [Nat.add_assoc]
  simpa using this
theorem Rd8.tail {w : World} {b o : Nat} {xs : List UInt8} (h : Rd8 w (some ⟨b, o, none⟩) xs) (k : Nat) : Rd8 w (some ⟨b, o + k, none⟩) (xs.drop k) := by
  have := h.part k xs.length
  rwa [List.take_of_length_le (by simp)] at this
theorem Rd8.front {w : World} {b o : Nat} {xs : List UInt8} (h : Rd8 w (some ⟨b, o, none⟩) xs) (m : Nat) : Rd8 w (some ⟨b, o, none⟩) (xs.take m) := by
  have := h.part 0 m
  simpa using this

theorem Fr.of_drewN {S : Nat → Prop} {a w w' : World} (h : Fr S a w) {n : Nat} (e : w.drewN n = w') : Fr S a w' := by subst e; exact h.drewN n

end Go.Proofs.YtdfkoehcmgcoiaaGreatDoor

/- errors.Is, at a codec's Fault and an Errno. -/
namespace Go.Proofs.YtdfkoehcmgcoiaaGreatDoor
open Go.RowKit Go.Extern.Stop Go.Stop Go.Extern

theorem Tryz.isTypeOfN (v : Value) (w : World) : (callFunc 63 #[.iface 26 v]).run Tryz.prog w = .ok (.value (.iface 126 (.agg #[.pointer (some ⟨1, 26, none⟩)]))) w := by kernel_rfl
theorem Tryz.isComparableN (w : World) : (callFunc 132 #[.agg #[.pointer (some ⟨1, 26, none⟩)]]).run Tryz.prog w = .ok (.value (.bool true)) w := by kernel_rfl
theorem Tryz.isMethodComparable (h : Value) (w : World) : (Go.method (207 + 100) 126 (.agg #[h]) "Comparable").run Tryz.prog w = .ok (132, .agg #[h]) w := by kernel_rfl
theorem Tryz.methodUnwrapF (v : Value) (w : World) : (Go.method (207 + 100) 43 v "Unwrap").run Tryz.prog w = .ok (126, v) w := by kernel_rfl
theorem Tryz.isCompN : (Tryz.prog.info? 26).map (·.comparable) = some true := by kernel_rfl

theorem Tryz.noIsF (v : Value) (xT : TypeId) (w : World) : (Instr.typeAssert (.iface 43 v) xT 157 true).run Tryz.prog w = .ok (.tuple #[.nilIface, .bool false]) w := run_typeAssert_lacksB Tryz.underlying157 (by kernel_rfl) (by kernel_rfl) v xT w
theorem Tryz.hasUnwrapF (v : Value) (xT : TypeId) (w : World) : (Instr.typeAssert (.iface 43 v) xT 134 true).run Tryz.prog w = .ok (.tuple #[.iface 43 v, .bool true]) w := run_typeAssert_hasB Tryz.underlying134 (by kernel_rfl) v xT w
theorem Tryz.noIsN (v : Value) (xT : TypeId) (w : World) : (Instr.typeAssert (.iface 26 v) xT 157 true).run Tryz.prog w = .ok (.tuple #[.nilIface, .bool false]) w := run_typeAssert_lacksB Tryz.underlying157 (by kernel_rfl) (by kernel_rfl) v xT w
theorem Tryz.noUnwrapN (v : Value) (xT : TypeId) (w : World) : (Instr.typeAssert (.iface 26 v) xT 134 true).run Tryz.prog w = .ok (.tuple #[.nilIface, .bool false]) w := run_typeAssert_lacksB Tryz.underlying134 (by kernel_rfl) (by kernel_rfl) v xT w
theorem Tryz.noUnwrapsN (v : Value) (xT : TypeId) (w : World) : (Instr.typeAssert (.iface 26 v) xT 135 true).run Tryz.prog w = .ok (.tuple #[.nilIface, .bool false]) w := run_typeAssert_lacksB Tryz.underlying135 (by kernel_rfl) (by kernel_rfl) v xT w

/-- Two interface values of one integer type are equal as their numbers are. -/
theorem run_eql_ints {P : Program} (w : World) {ti tn : TypeId} {ms : Array (String × TypeId)} {i : TypeInfo} {k : IntKind} (a b : Int)
    (hi : P.underlying ti = some (.interface ms)) (hn : P.underlying tn = some (.int k)) (hinfo : P.info? tn = some i) (hcomp : i.comparable = true) :
    (binOp .eql ti (.iface tn (.int k a)) (.iface tn (.int k b))).run P w = .ok (.bool (a == b)) w := by
  have h : ∀ d : Nat, (Op.equalIn (d + 2) ti (.iface tn (.int k a)) (.iface tn (.int k b))).run P w = .ok (a == b) w := fun d => by
    simp [Op.equalIn, run_underlying hi, run_underlying hn, typeInfo, hinfo, hcomp]
  simp only [binOp]
  simp [Op.equal, Op.maxDepth, h 9998]

set_option maxRecDepth 100000 in
set_option maxHeartbeats 2000000 in
theorem is_fault_same (b o : Nat) (k t : Int) (hk : (k == t) = true) (w : World) (hc : w.cell? ⟨b, o, none⟩ = some (.int .i64 k)) :
    Calls Tryz.prog 74 #[.iface 43 (.pointer (some ⟨b, o, none⟩)), .iface 26 (.int .i64 t)] w fun e w' => e = .returned (.bool true) ∧ w = w' := by
  obtain ⟨i, hi, hcmp⟩ := Option.map_eq_some_iff.1 Tryz.isCompN
  have tT := Tryz.isTypeOfN
  have cT := Tryz.isComparableN
  have mC := Tryz.isMethodComparable
  have mU := Tryz.methodUnwrapF
  have hty := run_eql_iface_types (P := Tryz.prog) 43 26 (.pointer (some ⟨b, o, none⟩)) (.int .i64 t) Tryz.underlying37 (by decide) w
  have heq := run_eql_ints (P := Tryz.prog) w k t Tryz.underlying37 Tryz.underlying26 hi hcmp
  rw [hk] at heq
  clear hi hcmp hk
  have n1 := Tryz.noIsF
  have n2 := Tryz.hasUnwrapF
  have n3 := Tryz.noIsN
  have n4 := Tryz.noUnwrapN
  have n5 := Tryz.noUnwrapsN
  go_enter Tryz.func74, Tryz.ntmps74
  go_wp2
  refine wp_loop_rounds 2 ?_
  rw [rounds_succ]
  go_wp2
  rw [rounds_succ]
  go_wp2
  go_ret
  exact ⟨rfl, rfl⟩

set_option maxRecDepth 100000 in
set_option maxHeartbeats 2000000 in
theorem is_fault_other (b o : Nat) (k t : Int) (hk : (k == t) = false) (w : World) (hc : w.cell? ⟨b, o, none⟩ = some (.int .i64 k)) :
    Calls Tryz.prog 74 #[.iface 43 (.pointer (some ⟨b, o, none⟩)), .iface 26 (.int .i64 t)] w fun e w' => e = .returned (.bool false) ∧ w = w' := by
  obtain ⟨i, hi, hcmp⟩ := Option.map_eq_some_iff.1 Tryz.isCompN
  have tT := Tryz.isTypeOfN
  have cT := Tryz.isComparableN
  have mC := Tryz.isMethodComparable
  have mU := Tryz.methodUnwrapF
  have hty := run_eql_iface_types (P := Tryz.prog) 43 26 (.pointer (some ⟨b, o, none⟩)) (.int .i64 t) Tryz.underlying37 (by decide) w
  have heq := run_eql_ints (P := Tryz.prog) w k t Tryz.underlying37 Tryz.underlying26 hi hcmp
  rw [hk] at heq
  clear hi hcmp hk
  have n1 := Tryz.noIsF
  have n2 := Tryz.hasUnwrapF
  have n3 := Tryz.noIsN
  have n4 := Tryz.noUnwrapN
  have n5 := Tryz.noUnwrapsN
  go_enter Tryz.func74, Tryz.ntmps74
  go_wp2
  refine wp_loop_rounds 2 ?_
  rw [rounds_succ]
  go_wp2
  rw [rounds_succ]
  go_wp2
  go_ret
  exact ⟨rfl, rfl⟩


end Go.Proofs.YtdfkoehcmgcoiaaGreatDoor

/- The codec's reader: failed, next, number. -/
namespace Go.Proofs.YtdfkoehcmgcoiaaGreatDoor
open Go.RowKit

/-- A reader at block g: the bytes xs, the place at, the fault (er 0: none). -/
structure Rdr (w : World) (g : Nat) (A : Option Addr) (n c : Nat) (xs : List UInt8) (at_ er fat : Int) (what : ByteArray) : Prop where
  bk : Bk w g 108 #[.slice A n c, .int .i64 at_, .int .i64 er, .int .i64 fat, .string what]
  rd : Rd8 w A xs
  len : xs.length = n
  cap : n ≤ c
  big : n ≤ 140737488355328
  apart : ∀ ad, A = some ad → 0 < n → ad.block ≠ g
  spot : ∀ ad, A = some ad → 0 < n → ad.spot = none

section
variable {w w' : World} {g : Nat} {A : Option Addr} {n c : Nat} {xs : List UInt8} {at_ er fat : Int} {what : ByteArray}
theorem Rdr.fr {S : Nat → Prop} (h : Rdr w g A n c xs at_ er fat what) (hf : Fr S w w') (hg : ¬ S g) (hA : ∀ ad, A = some ad → 0 < n → ¬ S ad.block) : Rdr w' g A n c xs at_ er fat what :=
  { h with bk := h.bk.fr hf hg, rd := h.rd.fr hf (by rw [h.len]; exact hA) }
theorem Rdr.quiet (h : Rdr w g A n c xs at_ er fat what) (hf : Fr (fun _ => False) w w') : Rdr w' g A n c xs at_ er fat what := h.fr hf (fun h => h) (fun _ _ _ h => h)
theorem Rdr.set (h : Rdr w g A n c xs at_ er fat what) (x : Int) : Rdr (w.setCell ⟨g, 1, none⟩ (.int .i64 x)) g A n c xs x er fat what :=
  { h with bk := by simpa using h.bk.set 1 (.int .i64 x), rd := h.rd.fr (Fr.setCell (S := fun k => k = g) (p := ⟨g, 1, none⟩) (Fr.refl _ _) (fun _ => rfl) _) (fun ad ha h0 => h.apart ad ha (by rw [← h.len]; exact h0)) }
end

theorem fr_set {w : World} {g i : Nat} {v : Value} : Fr (fun k => k = g) w (w.setCell ⟨g, i, none⟩ v) := Fr.setCell (S := fun k => k = g) (p := ⟨g, i, none⟩) (Fr.refl _ _) (fun _ => rfl) _

set_option maxRecDepth 100000 in
set_option maxHeartbeats 1000000 in
theorem failed_any {w : World} {g : Nat} {A : Option Addr} {n c : Nat} {xs : List UInt8} {at_ er fat : Int} {what : ByteArray} (h : Rdr w g A n c xs at_ er fat what) (b : Bool) (hb : (er == 0) = b) :
    Calls Tryz.prog 55 #[.pointer (some ⟨g, 0, none⟩)] w fun e w' => e = .returned (.bool (!b)) ∧ w = w' := by
  have hc : w.cell? ⟨g, 2, none⟩ = some (.int .i64 er) := h.bk.cell 2
  cases b
  · go_enter Tryz.func55, Tryz.ntmps55
    go_wp2_with (go_at_call 74; refine (is_fault_other g 2 er 0 hb w hc).mono ?_; rintro e w' ⟨rfl, rfl⟩)
    go_ret
    exact ⟨rfl, rfl⟩
  · go_enter Tryz.func55, Tryz.ntmps55
    go_wp2_with (go_at_call 74; refine (is_fault_same g 2 er 0 hb w hc).mono ?_; rintro e w' ⟨rfl, rfl⟩)
    go_ret
    exact ⟨rfl, rfl⟩

/-- A panic with an Errno. -/
abbrev pan (k : Int) : Ending := .panicked [{ v := .iface 26 (.int .i64 k), recovered := false }]

set_option maxRecDepth 100000 in
set_option maxHeartbeats 1000000 in
theorem next_some {w : World} {g : Nat} {A : Option Addr} {n c : Nat} {xs : List UInt8} {er fat : Int} {what : ByteArray} (k : Nat) (h : Rdr w g A n c xs k er fat what) (hk : k < xs.length) :
    Calls Tryz.prog 80 #[.pointer (some ⟨g, 0, none⟩)] w fun e w' => e = .returned (.int .u8 (xs[k]'hk).toNat) ∧ Rdr w' g A n c xs (k + 1 : Nat) er fat what ∧ Fr (fun x => x = g) w w' := by
  have hl := h.len
  obtain ⟨ad, rfl, hsp, hc⟩ := h.rd (by omega)
  obtain ⟨b, o, sp⟩ := ad
  cases hsp
  have hx := hc k hk
  have h0 : w.cell? ⟨g, 0, none⟩ = some (.slice (some ⟨b, o, none⟩) n c) := h.bk.cell 0
  have h1 : w.cell? ⟨g, 1, none⟩ = some (.int .i64 k) := h.bk.cell 1
  have f1 : w.frozen? ⟨g, 1, none⟩ = false := h.bk.frozen 1
  have hcap := h.cap
  have hbig := h.big
  have hne : ((k : Int) == (n : Int)) = false := by rw [beq_eq_false_iff_ne]; omega
  have i1 : (k : Int) < n := by omega
  have i2 : k < n := by omega
  simp only at hx
  clear hc hl
  go_enter Tryz.func80, Tryz.ntmps80
  go_wp2_with fail
  go_quiet (fail)
  go_wp2_with fail
  go_quiet (fail)
  go_wp2
  go_ret
  have hq : ∀ m, Fr (fun _ => False) w (w.drewN m) := fun m => (Fr.refl _ _).drewN _
  exact ⟨rfl, by rw [Int.natCast_add]; exact (h.quiet (hq _)).set _, ((hq _).mono (fun _ _ h => h.elim)).trans fr_set (fun _ _ h => h)⟩

set_option maxRecDepth 100000 in
set_option maxHeartbeats 1000000 in
theorem next_none {w : World} {g : Nat} {A : Option Addr} {n c : Nat} {xs : List UInt8} {er fat : Int} {what : ByteArray} (h : Rdr w g A n c xs (n : Nat) er fat what) :
    Calls Tryz.prog 80 #[.pointer (some ⟨g, 0, none⟩)] w fun e w' => e = pan 7 ∧ Fr (fun x => False) w w' := by
  have h0 : w.cell? ⟨g, 0, none⟩ = some (.slice A n c) := h.bk.cell 0
  have h1 : w.cell? ⟨g, 1, none⟩ = some (.int .i64 n) := h.bk.cell 1
  go_enter Tryz.func80, Tryz.ntmps80
  go_wp2_with fail
  go_quiet (fail)
  go_wp2
  exact ⟨rfl, rfl, (Fr.refl _ _).drewN _⟩

/-- What reading a number comes to. -/
inductive NR where
  | bad (k : Int)
  | ok (u n : Nat)

/-- From byte i of a number on, acc being what stood before. -/
def num : Nat → Nat → Nat → List UInt8 → NR
  | 0, _, _, _ => .bad 8
  | _ + 1, _, _, [] => .bad 7
  | f + 1, i, acc, c :: l =>
    if 128 ≤ c.toNat then num f (i + 1) (acc + (c.toNat % 128) * 128 ^ i) l
    else if (0 < i ∧ c.toNat = 0) ∨ (i = 9 ∧ 1 < c.toNat) then .bad 8
    else .ok (acc + c.toNat * 128 ^ i) (i + 1)
/-- A number at the front of l. -/
def rdNum (l : List UInt8) : NR := num 10 0 0 l

/-- unfold: a number's integer. -/
def unfN (u : Nat) : Int := if u % 2 = 0 then (u / 2 : Nat) else - ((u / 2 : Nat) : Int) - 1
theorem unfN_foldN (a : Int) : unfN (foldN a) = a := by unfold unfN foldN; split <;> split <;> omega
theorem unfN_range (u : Nat) (h : u < 18446744073709551616) : -9223372036854775808 ≤ unfN u ∧ unfN u ≤ 9223372036854775807 := by unfold unfN; split <;> omega

theorem unf_val (u : Nat) (h : (u : Int) ≤ 18446744073709551615) : bits BinOp.xor IntKind.i64 ((u : Int) / 2) (wrap64 (-wrap64 (bits BinOp.and IntKind.u64 (u : Int) 1))) = unfN u := by
  have e1 : bits BinOp.and IntKind.u64 (u : Int) 1 = ((u % 2 : Nat) : Int) := by
    rw [show (1 : Int) = ((1 : Nat) : Int) from rfl, u64_and_nat _ _ (by omega) (by omega), nat_mask1]
  rw [e1]
  unfold unfN
  rcases Nat.mod_two_eq_zero_or_one u with h2 | h2
  · rw [if_pos h2, h2, show (u : Int) / 2 = ((u / 2 : Nat) : Int) by omega, show wrap64 (-wrap64 ((0 : Nat) : Int)) = 0 by unfold wrap64; rfl]
    show IntKind.i64.wrap ((BitVec.ofInt 64 ((u / 2 : Nat) : Int) ^^^ 0#64).toNat : Int) = _
    rw [BitVec.xor_zero, BitVec.toNat_ofInt, IntKind.wrap_i64]
    omega
  · rw [if_neg (by omega), h2, show (u : Int) / 2 = ((u / 2 : Nat) : Int) by omega, show wrap64 (-wrap64 ((1 : Nat) : Int)) = -1 by unfold wrap64; rfl]
    show IntKind.i64.wrap ((BitVec.ofInt 64 ((u / 2 : Nat) : Int) ^^^ BitVec.allOnes 64).toNat : Int) = _
    rw [BitVec.xor_allOnes, BitVec.toNat_not, BitVec.toNat_ofInt, IntKind.wrap_i64]
    omega

set_option maxRecDepth 100000 in
set_option maxHeartbeats 1000000 in
theorem unfold_any (u : Nat) (h : (u : Int) ≤ 18446744073709551615) (w : World) :
    Calls Tryz.prog 81 #[.int .u64 u] w fun e w' => e = .returned (.int .i64 (unfN u)) ∧ w = w' := by
  go_enter Tryz.func81, Tryz.ntmps81
  have hv := unf_val u h
  go_wp2
  go_ret
  exact ⟨rfl, rfl⟩

theorem shl_val (acc x j : Nat) (hx : x < 2 ^ 8) (hj : j ≤ 9) (ha : acc < 128 ^ j) (hs : j ≤ 8 ∨ x % 128 ≤ 1) :
    bits BinOp.or IntKind.u64 (acc : Int) (IntKind.u64.wrap (IntKind.u64.wrap (bits BinOp.and IntKind.u8 (x : Int) 127) * 2 ^ (7 * j))) = ((acc + x % 128 * 128 ^ j : Nat) : Int) := by
  have e128 : 128 ^ j = 2 ^ (7 * j) := by rw [Nat.pow_mul]
  have hlim : x % 128 * 2 ^ (7 * j) < 18446744073709551616 := by
    rw [← e128]
    rcases Nat.lt_or_ge j 9 with h | h
    · have h1 : 128 ^ j ≤ 128 ^ 8 := Nat.pow_le_pow_right (by omega) (by omega)
      have h2 : x % 128 * 128 ^ j ≤ 127 * 128 ^ 8 := Nat.mul_le_mul (by omega) h1
      omega
    · have : j = 9 := by omega
      subst this
      have h2 : x % 128 * 128 ^ 9 ≤ 1 * 128 ^ 9 := Nat.mul_le_mul_right _ (by omega)
      omega
  have hacc : acc < 18446744073709551616 := by
    have h1 : 128 ^ j ≤ 128 ^ 9 := Nat.pow_le_pow_right (by omega) hj
    omega
  have e1 : bits BinOp.and IntKind.u8 (x : Int) 127 = ((x % 128 : Nat) : Int) := by
    rw [show (127 : Int) = ((127 : Nat) : Int) from rfl, u8_and_nat _ _ (by omega) (by omega), nat_mask7]
  rw [e1, show IntKind.u64.wrap ((x % 128 : Nat) : Int) = ((x % 128 : Nat) : Int) from IntWalk.u64_in _ (by omega)]
  have e2 : ((x % 128 : Nat) : Int) * 2 ^ (7 * j) = ((x % 128 * 2 ^ (7 * j) : Nat) : Int) := by rw [Int.natCast_mul, Int.natCast_pow]; rfl
  rw [e2, show IntKind.u64.wrap ((x % 128 * 2 ^ (7 * j) : Nat) : Int) = ((x % 128 * 2 ^ (7 * j) : Nat) : Int) from IntWalk.u64_in _ (by omega), u64_or_nat _ _ hacc hlim, e128, Nat.or_comm, nat_join (7 * j) _ _ (Nat.mul_mod_left _ _) (by rw [← e128]; exact ha), Nat.add_comm]

theorem acc_lim (acc x j : Nat) (hj : j ≤ 9) (ha : acc < 128 ^ j) (hs : j ≤ 8 ∨ x % 128 ≤ 1) : acc + x % 128 * 128 ^ j < 18446744073709551616 := by
  rcases Nat.lt_or_ge j 9 with h | h
  · have h1 : 128 ^ j ≤ 128 ^ 8 := Nat.pow_le_pow_right (by omega) (by omega)
    have h2 : x % 128 * 128 ^ j ≤ 127 * 128 ^ 8 := Nat.mul_le_mul (by omega) h1
    omega
  · have : j = 9 := by omega
    subst this
    have h2 : x % 128 * 128 ^ 9 ≤ 1 * 128 ^ 9 := Nat.mul_le_mul_right _ (by omega)
    omega
theorem acc_next (acc x j : Nat) (ha : acc < 128 ^ j) : acc + x % 128 * 128 ^ j < 128 ^ (j + 1) := by
  have h : x % 128 * 128 ^ j ≤ 127 * 128 ^ j := Nat.mul_le_mul_right _ (by omega)
  rw [Nat.pow_succ]; omega
/-- Behind a number is read at k. -/
def NumPost (w : World) (g : Nat) (A : Option Addr) (n c : Nat) (xs : List UInt8) (k : Nat) (er fat : Int) (what : ByteArray) (r : NR) (e : Ending) (w' : World) : Prop :=
  match r with
  | .bad b => e = pan b ∧ (∃ at_, Rdr w' g A n c xs at_ er fat what) ∧ Fr (fun x => x = g) w w'
  | .ok u m => e = .returned (.int .i64 (unfN u)) ∧ k + m ≤ n ∧ Rdr w' g A n c xs (k + m : Nat) er fat what ∧ Fr (fun x => x = g) w w'

set_option maxRecDepth 100000 in
set_option maxHeartbeats 1000000 in
theorem number_any {w : World} {g : Nat} {A : Option Addr} {n c : Nat} {xs : List UInt8} {er fat : Int} {what : ByteArray} (k : Nat) (h : Rdr w g A n c xs k er fat what) (hk : k ≤ n) :
    Calls Tryz.prog 72 #[.pointer (some ⟨g, 0, none⟩)] w (NumPost w g A n c xs k er fat what (rdNum (xs.drop k))) := by
  generalize hR : rdNum (xs.drop k) = R
  go_enter Tryz.func72, Tryz.ntmps72
  have hl := h.len
  go_wp2_with fail
  go_loopw [3, 4, 5, 6] (fun u _ _ i wr => ∃ (j acc : Nat), (j : Int) ≤ 10 ∧ k + j ≤ n ∧ i = .int .i64 j ∧ ((j : Int) ≤ 9 → u = .int .u64 acc ∧ acc < 128 ^ j) ∧ Rdr wr g A n c xs (k + j : Nat) er fat what ∧ Fr (fun x => x = g) w wr ∧
    num (10 - j) j acc (xs.drop (k + j)) = R) (fun _ _ _ i _ => 10 - (intOf i).toNat)
  case atStart => exact ⟨0, 0, by omega, by omega, rfl, fun _ => ⟨rfl, by decide⟩, h, Fr.refl _ _, hR⟩
  case round =>
    obtain ⟨j, acc, hj, hkj, rfl, hu, hr, hf, hnum⟩ := hrel
    clear hR
    by_cases hj10 : (10 : Int) ≤ j
    · rw [show 10 - j = 0 by omega] at hnum
      have HN := Lib.hid hnum
      clear hu hnum
      go_wp2
      have e := HN.out
      subst e
      exact ⟨rfl, rfl, ⟨_, hr⟩, hf⟩
    · obtain ⟨rfl, hacc⟩ := hu (by omega)
      clear hu
      have hA := Lib.hid hacc
      clear hacc
      rw [show 10 - j = (9 - j) + 1 by omega] at hnum
      by_cases hn : k + j = n
      · rw [List.drop_of_length_le (show xs.length ≤ k + j by omega)] at hnum
        have HN := Lib.hid hnum
        clear hnum
        go_wp2_with fail
        rw [hn] at hr
        refine (next_none hr).mono ?_; rintro e w1 ⟨rfl, hf1⟩
        have e := HN.out
        subst e
        exact ⟨rfl, rfl, ⟨_, hr.quiet hf1⟩, hf.trans hf1 (fun _ _ h => h.elim)⟩
      · have hlt : k + j < xs.length := by omega
        have hj9 : (j : Int) ≤ 9 := by omega
        clear hj
        rw [List.drop_eq_getElem_cons hlt] at hnum
        unfold num at hnum
        go_wp2_with fail
        refine (next_some (k + j) hr hlt).mono ?_; rintro e w1 ⟨rfl, hr1, hf1⟩
        have hb := (xs[k + j]'hlt).toNat_lt
        generalize hx : (xs[k + j]'hlt).toNat = x at *
        clear hx
        have hf2 := hf.trans hf1 (fun _ _ h => h)
        by_cases h128 : 128 ≤ x
        · rw [if_pos h128] at hnum
          have HN := Lib.hid hnum
          clear hnum
          go_wp2
          go_roundw
          case rel =>
            refine ⟨j + 1, acc + x % 128 * 128 ^ j, by omega, by omega, by go_num, fun h9 => ?_, hr1, hf2, ?_⟩
            · exact ⟨by rw [shl_val acc x j hb (by omega) hA.out (by omega)], acc_next acc x j hA.out⟩
            · have e := HN.out
              rw [show 9 - j = 10 - (j + 1) by omega] at e
              exact e
          case measure => simp [intOf]; omega
        · rw [if_neg h128] at hnum
          by_cases hbad : (0 < j ∧ x = 0) ∨ (j = 9 ∧ 1 < x)
          · rw [if_pos hbad] at hnum
            have HN := Lib.hid hnum
            clear hnum
            rcases hbad with ⟨hj0, hx0⟩ | ⟨hj9', hx1⟩
            · subst hx0
              have t1 : (0 : Int) < j := by omega
              go_wp2
              have e := HN.out
              subst e
              exact ⟨rfl, rfl, ⟨_, hr1⟩, hf2⟩
            · subst hj9'
              have t2 : (1 : Int) < x := by omega
              have t3 : ((x : Int) == 0) = false := by rw [beq_eq_false_iff_ne]; omega
              go_wp2
              have e := HN.out
              subst e
              exact ⟨rfl, rfl, ⟨_, hr1⟩, hf2⟩
          · rw [if_neg hbad] at hnum
            obtain ⟨v, hv, hvl, hve⟩ : ∃ v : Nat, bits BinOp.or IntKind.u64 (acc : Int) (IntKind.u64.wrap (IntKind.u64.wrap (bits BinOp.and IntKind.u8 (x : Int) 127) * 2 ^ (7 * j))) = (v : Int) ∧ (v : Int) ≤ 18446744073709551615 ∧ acc + x * 128 ^ j = v := by
              refine ⟨_, shl_val acc x j hb (by omega) hA.out (by omega), ?_, by rw [Nat.mod_eq_of_lt (by omega)]⟩
              have h1 := acc_lim acc x j (by omega) hA.out (by omega)
              omega
            rw [hve] at hnum
            have HN := Lib.hid hnum
            clear hnum hve hA
            by_cases hj0 : j = 0
            · have t1 : ¬ (0 : Int) < j := by omega
              have t2 : ((j : Int) == 9) = false := by rw [beq_eq_false_iff_ne]; omega
              clear hj0
              go_wp2_with (go_at_call 81; refine (unfold_any v hvl _).mono ?_; rintro e _ ⟨rfl, rfl⟩)
              go_ret
              have e := HN.out
              subst e
              exact ⟨rfl, by omega, hr1, hf2⟩
            · have t1 : (0 : Int) < j := by omega
              have t3 : ((x : Int) == 0) = false := by rw [beq_eq_false_iff_ne]; omega
              by_cases hj9' : j = 9
              · have t2 : ((j : Int) == 9) = true := by rw [beq_iff_eq]; omega
                have t4 : ¬ (1 : Int) < x := by omega
                clear hj0 hj9' hbad
                go_wp2_with (go_at_call 81; refine (unfold_any v hvl _).mono ?_; rintro e _ ⟨rfl, rfl⟩)
                go_ret
                have e := HN.out
                subst e
                exact ⟨rfl, by omega, hr1, hf2⟩
              · have t2 : ((j : Int) == 9) = false := by rw [beq_eq_false_iff_ne]; omega
                clear hj0 hj9' hbad
                go_wp2_with (go_at_call 81; refine (unfold_any v hvl _).mono ?_; rintro e _ ⟨rfl, rfl⟩)
                go_ret
                have e := HN.out
                subst e
                exact ⟨rfl, by omega, hr1, hf2⟩
end Go.Proofs.YtdfkoehcmgcoiaaGreatDoor

/- errors.As, at an Errno and a *Errno. -/
namespace Go.Proofs.YtdfkoehcmgcoiaaGreatDoor
open Go.RowKit Go.Extern.Stop Go.Stop Go.Extern

def hdl (t : TypeId) : Value := .pointer (some ⟨1, t, none⟩)

theorem Tryz.asValueOfP (t : Addr) (w : World) : (callFunc 42 #[.iface 148 (.pointer (some t))]).run Tryz.prog w
    = .ok (.value (.agg #[.pointer (some ⟨1, 148, none⟩), .pointer (some ⟨w.heap.size, 0, none⟩), .int .u64 150])) (w.alloc (.cells #[.pointer (some t)] 148)) := by kernel_rfl
theorem Tryz.asTypeP (a : Addr) (w : World) : (callFunc 43 #[.agg #[.pointer (some ⟨1, 148, none⟩), .pointer (some a), .int .u64 150]]).run Tryz.prog w
    = .ok (.value (.iface 126 (.agg #[.pointer (some ⟨1, 148, none⟩)]))) w := by kernel_rfl
theorem Tryz.asMethodKind (h : Value) (w : World) : (Go.method (207 + 100) 126 (.agg #[h]) "Kind").run Tryz.prog w = .ok (121, h) w := by kernel_rfl
theorem Tryz.asKindP (w : World) : (callFunc 121 #[.pointer (some ⟨1, 148, none⟩)]).run Tryz.prog w = .ok (.value (.int .u8 22)) w := by kernel_rfl
theorem Tryz.asKindN (w : World) : (callFunc 121 #[.pointer (some ⟨1, 26, none⟩)]).run Tryz.prog w = .ok (.value (.int .u8 2)) w := by kernel_rfl
theorem Tryz.asMethodElem (h : Value) (w : World) : (Go.method (207 + 100) 126 (.agg #[h]) "Elem").run Tryz.prog w = .ok (133, .agg #[h]) w := by kernel_rfl
theorem Tryz.asMethodImplements (h : Value) (w : World) : (Go.method (207 + 100) 126 (.agg #[h]) "Implements").run Tryz.prog w = .ok (134, .agg #[h]) w := by kernel_rfl
theorem Tryz.asMethodAssignable (h : Value) (w : World) : (Go.method (207 + 100) 126 (.agg #[h]) "AssignableTo").run Tryz.prog w = .ok (131, .agg #[h]) w := by kernel_rfl
theorem Tryz.asElemP (w : World) : (callFunc 133 #[.agg #[.pointer (some ⟨1, 148, none⟩)]]).run Tryz.prog w = .ok (.value (.iface 126 (.agg #[.pointer (some ⟨1, 26, none⟩)]))) w := by kernel_rfl
theorem Tryz.asImplementsN (w : World) : (callFunc 134 #[.agg #[.pointer (some ⟨1, 26, none⟩)], .iface 126 (.agg #[.pointer (some ⟨1, 37, none⟩)])]).run Tryz.prog w = .ok (.value (.bool true)) w := by kernel_rfl
theorem Tryz.asAssignableN (w : World) : (callFunc 131 #[.agg #[.pointer (some ⟨1, 26, none⟩)], .iface 126 (.agg #[.pointer (some ⟨1, 26, none⟩)])]).run Tryz.prog w = .ok (.value (.bool true)) w := by kernel_rfl
theorem Tryz.asValueOfN (k : Int) (w : World) : (callFunc 42 #[.iface 26 (.int .i64 k)]).run Tryz.prog w
    = .ok (.value (.agg #[.pointer (some ⟨1, 26, none⟩), .pointer (some ⟨w.heap.size, 0, none⟩), .int .u64 130])) (w.alloc (.cells #[.int .i64 k] 26)) := by kernel_rfl

theorem Tryz.asPartsP (a : Addr) (w : World) : (ReflectliteValue.parts (.agg #[.pointer (some ⟨1, 148, none⟩), .pointer (some a), .int .u64 150])).run Tryz.prog w = .ok (some (148, a, 150)) w := by kernel_rfl
theorem Tryz.asPartsN (a : Addr) (w : World) : (ReflectliteValue.parts (.agg #[.pointer (some ⟨1, 26, none⟩), .pointer (some a), .int .u64 386])).run Tryz.prog w = .ok (some (26, a, 386)) w := by kernel_rfl
theorem Tryz.asPartsM (a : Addr) (w : World) : (ReflectliteValue.parts (.agg #[.pointer (some ⟨1, 26, none⟩), .pointer (some a), .int .u64 130])).run Tryz.prog w = .ok (some (26, a, 130)) w := by kernel_rfl
theorem Tryz.asElemOf (w : World) : (Rtype.elem? 148).run Tryz.prog w = .ok (some 26) w := by kernel_rfl
theorem Tryz.asMk (p : Addr) (w : World) : (ReflectliteValue.mk 26 p ReflectliteValue.flagAddr).run Tryz.prog w = .ok (.agg #[.pointer (some ⟨1, 26, none⟩), .pointer (some p), .int .u64 386]) w := by kernel_rfl
theorem Tryz.asDirect (w : World) : (Rtype.directlyAssignable 26 26).run Tryz.prog w = .ok true w := by kernel_rfl

theorem Tryz.asIsNil (a p : Addr) (W : World) (ha : W.cell? a = some (.pointer (some p))) :
    (callFunc 44 #[.agg #[.pointer (some ⟨1, 148, none⟩), .pointer (some a), .int .u64 150]]).run Tryz.prog W = .ok (.value (.bool false)) W := by
  rw [@run_callFunc_extern Tryz.prog 44 _ (ReflectliteValue.method (ReflectliteValue.valueError "reflectlite.Value.IsNil" 0) ReflectliteValue.isNil) Tryz.func44 (by kernel_rfl) (by kernel_rfl) (by kernel_rfl) (by kernel_rfl)]
  change (Sem.run _ (ReflectliteValue.parts (.agg #[.pointer (some ⟨1, 148, none⟩), .pointer (some a), .int .u64 150]) >>= _) _).andThen _ = _
  simp only [Sem.run_bind, Tryz.asPartsP, Result.andThen]
  simp [ReflectliteValue.isNil, loadVar, isAgg, underlying, Tryz.underlying148, ha, Result.andThen]
theorem Tryz.asElemV (a p : Addr) (W : World) (ha : W.cell? a = some (.pointer (some p))) :
    (callFunc 64 #[.agg #[.pointer (some ⟨1, 148, none⟩), .pointer (some a), .int .u64 150]]).run Tryz.prog W = .ok (.value (.agg #[.pointer (some ⟨1, 26, none⟩), .pointer (some p), .int .u64 386])) W := by
  rw [@run_callFunc_extern Tryz.prog 64 _ (ReflectliteValue.method (ReflectliteValue.valueError "reflectlite.Value.Elem" 0) ReflectliteValue.elem) Tryz.func64 (by kernel_rfl) (by kernel_rfl) (by kernel_rfl) (by kernel_rfl)]
  change (Sem.run _ (ReflectliteValue.parts (.agg #[.pointer (some ⟨1, 148, none⟩), .pointer (some a), .int .u64 150]) >>= _) _).andThen _ = _
  simp only [Sem.run_bind, Tryz.asPartsP, Result.andThen]
  simp [ReflectliteValue.elem, loadVar, isAgg, underlying, Tryz.underlying148, ha, Result.andThen, Tryz.asElemOf, Tryz.asMk]
theorem Tryz.asSet (ta b : Addr) (k : Int) (old : Value) (W : World) (hb : W.cell? b = some (.int .i64 k)) (ht : W.cell? ta = some old) (hf : W.frozen? ta = false) :
    (callFunc 65 #[.agg #[.pointer (some ⟨1, 26, none⟩), .pointer (some ta), .int .u64 386], .agg #[.pointer (some ⟨1, 26, none⟩), .pointer (some b), .int .u64 130]]).run Tryz.prog W
      = .ok (.value (.tuple #[])) (W.setCell ta (.int .i64 k)) := by
  rw [@run_callFunc_extern Tryz.prog 65 _ ReflectliteValue.set Tryz.func65 (by kernel_rfl) (by kernel_rfl) (by kernel_rfl) (by kernel_rfl)]
  change (Sem.run _ (ReflectliteValue.parts (.agg #[.pointer (some ⟨1, 26, none⟩), .pointer (some ta), .int .u64 386]) >>= fun _ => ReflectliteValue.parts (.agg #[.pointer (some ⟨1, 26, none⟩), .pointer (some b), .int .u64 130]) >>= fun _ => _) _).andThen _ = _
  simp only [Sem.run_bind, Tryz.asPartsN, Tryz.asPartsM, Result.andThen]
  simp [ReflectliteValue.flagAddr, loadVar, isAgg, underlying, Tryz.underlying26, hb, Result.andThen, Tryz.asDirect, storeVar, Value.cells, storeCells, Addr.add]
  rw [run_store Tryz.prog W ta _ _ (by rfl)]
  simp [ht, hf]
end Go.Proofs.YtdfkoehcmgcoiaaGreatDoor

/- errors.As, the walk; what a step of a reader panicked with. -/
namespace Go.Proofs.YtdfkoehcmgcoiaaGreatDoor
open Go.RowKit Go.Extern.Stop Go.Stop Go.Extern

set_option maxRecDepth 100000 in
set_option maxHeartbeats 4000000 in
theorem as_errno (t : Addr) (k : Int) (old : Value) (w : World) (hg : w.cell? ⟨0, 0, none⟩ = some (.iface 126 (.agg #[.pointer (some ⟨1, 37, none⟩)]))) (ht0 : w.cell? t = some old) (hf0 : w.frozen? t = false) :
    Calls Tryz.prog 14 #[.iface 26 (.int .i64 k), .iface 148 (.pointer (some t))] w fun ev w' => ev = .returned (.bool true) ∧ Fr (fun x => x = t.block) w w' ∧ w'.cell? t = some (.int .i64 k) := by
  have tO := Tryz.isTypeOfN
  have mA := Tryz.asMethodAssignable
  have a25 := Tryz.asAssignableN
  have v25 := Tryz.asValueOfN
  have f6 := Tryz.asValueOfP
  have f7 := Tryz.asTypeP
  have mK := Tryz.asMethodKind
  have mE := Tryz.asMethodElem
  have mI := Tryz.asMethodImplements
  have k27 := Tryz.asKindP
  have k25 := Tryz.asKindN
  have e27 := Tryz.asElemP
  have i25 := Tryz.asImplementsN
  have htl : t.block < w.heap.size := World.block_lt_of_cell? w _ ht0
  have hlt : 0 < w.heap.size := World.block_lt_of_cell? w _ hg
  have n8 := Tryz.asIsNil ⟨w.heap.size, 0, none⟩ t ((w.alloc (.cells #[.pointer (some t)] 148)).alloc (.cells #[.pointer (some ⟨1, 148, none⟩), .pointer (some ⟨w.heap.size, 0, none⟩), .int .u64 150] 93)) (by simp)
  have hg2 : ((w.alloc (.cells #[.pointer (some t)] 148)).alloc (.cells #[.pointer (some ⟨1, 148, none⟩), .pointer (some ⟨w.heap.size, 0, none⟩), .int .u64 150] 93)).cell? ⟨0, 0, none⟩ = some (.iface 126 (.agg #[.pointer (some ⟨1, 37, none⟩)])) := by
    rw [World.cell?_alloc_lt _ _ ⟨0, 0, none⟩ (by simp <;> omega), World.cell?_alloc_lt _ _ ⟨0, 0, none⟩ hlt]; exact hg
  have el := Tryz.asElemV ⟨w.heap.size, 0, none⟩ t (((w.alloc (.cells #[.pointer (some t)] 148)).alloc (.cells #[.pointer (some ⟨1, 148, none⟩), .pointer (some ⟨w.heap.size, 0, none⟩), .int .u64 150] 93)).alloc (.cells #[.pointer (some ⟨1, 148, none⟩), .pointer (some ⟨w.heap.size, 0, none⟩), .int .u64 150] 93)) (by rw [World.cell?_alloc_lt _ _ ⟨w.heap.size, 0, none⟩ (by simp <;> omega)]; simp)
  have HW := Lib.hid (show ((((w.alloc (.cells #[.pointer (some t)] 148)).alloc (.cells #[.pointer (some ⟨1, 148, none⟩), .pointer (some ⟨w.heap.size, 0, none⟩), .int .u64 150] 93)).alloc (.cells #[.pointer (some ⟨1, 148, none⟩), .pointer (some ⟨w.heap.size, 0, none⟩), .int .u64 150] 93)).alloc (.cells #[.int .i64 k] 26)).cell? t = some old by rw [World.cell?_alloc_lt _ _ t (by simp <;> omega), World.cell?_alloc_lt _ _ t (by simp <;> omega), World.cell?_alloc_lt _ _ t (by simp <;> omega), World.cell?_alloc_lt _ _ t htl]; exact ht0)
  have st := Tryz.asSet t ⟨w.heap.size + 1 + 1 + 1, 0, none⟩ k old ((((w.alloc (.cells #[.pointer (some t)] 148)).alloc (.cells #[.pointer (some ⟨1, 148, none⟩), .pointer (some ⟨w.heap.size, 0, none⟩), .int .u64 150] 93)).alloc (.cells #[.pointer (some ⟨1, 148, none⟩), .pointer (some ⟨w.heap.size, 0, none⟩), .int .u64 150] 93)).alloc (.cells #[.int .i64 k] 26))
    (by rw [World.cell?_alloc_at _ _ _ _ (by simp)] <;> rfl)
    HW.out
    (by rw [World.frozen?_alloc_old _ _ t (by simp <;> omega), World.frozen?_alloc_old _ _ t (by simp <;> omega), World.frozen?_alloc_old _ _ t (by simp <;> omega), World.frozen?_alloc_old _ _ t (Nat.ne_of_lt htl)]; exact hf0)
  go_enter Tryz.func14, Tryz.ntmps14
  go_wp2
  refine wp_loop_rounds 1 ?_
  rw [rounds_succ]
  go_wp2
  go_ret
  refine ⟨rfl, Fr.setCell (((((Fr.refl (fun x => x = t.block) w).alloc _).alloc _).alloc _).alloc _) (fun _ => rfl) _, ?_⟩
  exact World.cell?_setCell_same _ _ _ HW.out

/-- The library's variable holds what it must. -/
def ErrT (w : World) : Prop := w.cell? ⟨0, 0, none⟩ = some (.iface 126 (.agg #[.pointer (some ⟨1, 37, none⟩)]))
theorem ErrT.fr {S : Nat → Prop} {w w' : World} (h : ErrT w) (hb : Fr S w w') (hS : ¬ S 0) : ErrT w' :=
  (hb.cell (p := ⟨0, 0, none⟩) (World.block_lt_of_cell? w _ h) hS).trans h

theorem Tryz.errorHas (v : Value) (xT : TypeId) (w : World) : (Instr.typeAssert (.iface 26 v) xT 37 true).run Tryz.prog w = .ok (.tuple #[.iface 26 v, .bool true]) w := run_typeAssert_hasB Tryz.underlying37 (by kernel_rfl) v xT w

set_option maxRecDepth 100000 in
set_option maxHeartbeats 1000000 in
theorem thrown_any (k : Int) (w : World) (hg : ErrT w) :
    Calls Tryz.prog 71 #[.iface 26 (.int .i64 k)] w fun e w' => e = .returned (.int .i64 k) ∧ Fr (fun _ => False) w w' := by
  have hE := Tryz.errorHas
  have hf0 : Fr (fun _ => False) w (w.alloc (.cells #[.int .i64 0] 26)) := (Fr.refl _ _).alloc _
  go_enter Tryz.func71, Tryz.ntmps71
  go_wp2_with (go_at_call 14; refine (as_errno ⟨w.heap.size, 0, none⟩ k (.int .i64 0) _ (hg.fr hf0 (fun h => h)) (by simp) (by simp)).mono ?_; rintro e w' ⟨rfl, hf1, hc1⟩)
  go_ret
  exact ⟨rfl, hf0.trans hf1 (fun x hx e => by have : x = w.heap.size := e; omega)⟩
end Go.Proofs.YtdfkoehcmgcoiaaGreatDoor

/- The reader's steps: a panic becomes the fault that stays. -/
namespace Go.Proofs.YtdfkoehcmgcoiaaGreatDoor
open Go.RowKit

section
variable {w w' : World} {g : Nat} {A : Option Addr} {n c : Nat} {xs : List UInt8} {at_ er fat : Int} {what : ByteArray}
theorem Rdr.fault (h : Rdr w g A n c xs at_ er fat what) (k a : Int) (wh : ByteArray) :
    Rdr (((w.setCell ⟨g, 2, none⟩ (.int .i64 k)).setCell ⟨g, 3, none⟩ (.int .i64 a)).setCell ⟨g, 4, none⟩ (.string wh)) g A n c xs at_ k a wh :=
  { h with
    bk := by
      have := ((h.bk.set 2 (.int .i64 k)).set 3 (.int .i64 a)).set 4 (.string wh)
      simpa using this
    rd := h.rd.fr (((fr_set (i := 2)).trans (fr_set (i := 3)) (fun _ _ h => h)).trans (fr_set (i := 4)) (fun _ _ h => h)) (fun ad ha h0 => h.apart ad ha (by rw [← h.len]; exact h0)) }
end

set_option maxRecDepth 100000 in
set_option maxHeartbeats 4000000 in
theorem catchInt {w : World} {g : Nat} {A : Option Addr} {n c : Nat} {xs : List UInt8} {at_ er fat : Int} {what : ByteArray} (h : Rdr w g A n c xs at_ er fat what) (ht : ErrT w)
    (pa pw pr : Addr) (k a : Int) (wh : ByteArray) (ha : w.cell? pa = some (.int .i64 a)) (hw : w.cell? pw = some (.string wh)) (hr : w.cell? pr = some (.pointer (some ⟨g, 0, none⟩))) (na : pa.block ≠ g) (nw : pw.block ≠ g) (nr : pr.block ≠ g) :
    CallsD Tryz.prog 70 #[.pointer (some pa), .pointer (some pw), .pointer (some pr)] (.panicking [{ v := .iface 26 (.int .i64 k), recovered := false }]) w fun e u' w' =>
      e = .returned (.tuple #[]) ∧ u' = .panicking [{ v := .iface 26 (.int .i64 k), recovered := true }] ∧ Rdr w' g A n c xs at_ k a wh ∧ Fr (fun x => x = g) w w' := by
  refine callsD_of_wpS Tryz.func70 rfl fun c₀ cs hu => ?_
  apply wpS_seq
  apply wpS_region
  simp [wpOpsS, go_sem, recoverD, hu, Tryz.ntmps70, Exit.thenS]
  refine wpS_of_wp ?_
  have hlg := h.bk.lt
  have r2 : w.cell? ⟨g, 2, none⟩ = some (.int .i64 er) := h.bk.cell 2
  have r3 : w.cell? ⟨g, 3, none⟩ = some (.int .i64 fat) := h.bk.cell 3
  have r4 : w.cell? ⟨g, 4, none⟩ = some (.string what) := h.bk.cell 4
  have f2 : w.frozen? ⟨g, 2, none⟩ = false := h.bk.frozen 2
  have f3 : w.frozen? ⟨g, 3, none⟩ = false := h.bk.frozen 3
  have f4 : w.frozen? ⟨g, 4, none⟩ = false := h.bk.frozen 4
  change Code.wp _ _ _ { tmps := #[.pointer (some pa), .pointer (some pw), .pointer (some pr), .iface 26 (.int .i64 k), .iface 26 (.int .i64 k), undef, undef, undef, undef, undef, undef, undef, undef, undef, undef], defers := [] } w
  have mk : ∀ {w' : World}, Fr (fun x => x = g) w w' → w'.cell? pr = some (.pointer (some ⟨g, 0, none⟩)) ∧ w'.cell? pa = some (.int .i64 a) ∧ w'.cell? pw = some (.string wh) ∧ Fr (fun x => x = g) w w' := fun hF =>
    ⟨(hF.cell (World.block_lt_of_cell? w _ hr) nr).trans hr, (hF.cell (World.block_lt_of_cell? w _ ha) na).trans ha, (hF.cell (World.block_lt_of_cell? w _ hw) nw).trans hw, hF⟩
  have MK := @Lib.hid _ @mk
  clear mk
  go_wp2_with fail
  go_region_held3 (fun w' => w'.cell? pr = some (.pointer (some ⟨g, 0, none⟩)) ∧ w'.cell? pa = some (.int .i64 a) ∧ w'.cell? pw = some (.string wh) ∧ Fr (fun x => x = g) w w')
    (first
      | exact MK.out (Fr.refl _ _).drew
      | exact MK.out hf2
      | exact MK.out (((hf2.trans fr_set (fun _ _ h => h)).trans fr_set (fun _ _ h => h)).trans fr_set (fun _ _ h => h)))
    (first | (go_at_call 71; refine (thrown_any k _ (ht.fr (Fr.refl (fun _ => False) w).drew (fun h => h))).mono ?_; rintro e w1 ⟨rfl, hf⟩; have hf1 : Fr (fun _ => False) w w1 := (Fr.refl (fun _ => False) w).drew.trans hf (fun _ _ h => h); have hf2 : Fr (fun x => x = g) w w1 := hf1.mono (fun _ _ h => h.elim); have q2 := (hf1.cell (p := ⟨g, 2, none⟩) hlg (fun h => h)).trans r2; have q3 := (hf1.cell (p := ⟨g, 3, none⟩) hlg (fun h => h)).trans r3; have q4 := (hf1.cell (p := ⟨g, 4, none⟩) hlg (fun h => h)).trans r4; have e2 := (hf1.frozen (p := ⟨g, 2, none⟩) hlg (fun h => h)).trans f2; have e3 := (hf1.frozen (p := ⟨g, 3, none⟩) hlg (fun h => h)).trans f3; have e4 := (hf1.frozen (p := ⟨g, 4, none⟩) hlg (fun h => h)).trans f4))
  have hf3 := hf2.trans (((fr_set (i := 2) (v := .int .i64 k)).trans (fr_set (i := 3) (v := .int .i64 a)) (fun _ _ h => h)).trans (fr_set (i := 4) (v := .string wh)) (fun _ _ h => h)) (fun _ _ h => h)
  have hr3 := (h.quiet hf1).fault k a wh
  exact ⟨rfl, _, rfl, _, results_none rfl _ _ _, rfl, rfl, hr3, hf3⟩

set_option maxRecDepth 100000 in
set_option maxHeartbeats 1000000 in
theorem idleInt (pa pw pr : Addr) (w : World) :
    CallsD Tryz.prog 70 #[.pointer (some pa), .pointer (some pw), .pointer (some pr)] .returning w fun e u' w' => e = .returned (.tuple #[]) ∧ u' = .returning ∧ w = w' := by
  refine callsD_of_wpS Tryz.func70 rfl fun c₀ cs hu => ?_
  apply wpS_seq
  apply wpS_region
  simp [wpOpsS, go_sem, recoverD, hu, Tryz.ntmps70, Exit.thenS]
  refine wpS_of_wp ?_
  change Code.wp _ _ _ { tmps := #[.pointer (some pa), .pointer (some pw), .pointer (some pr), .nilIface, .nilIface, undef, undef, undef, undef, undef, undef, undef, undef, undef, undef], defers := [] } w
  go_wp2
  exact ⟨rfl, _, by cases c₀; simp_all, _, results_none rfl _ _ _, rfl, rfl, rfl⟩
set_option maxRecDepth 100000 in
set_option maxHeartbeats 4000000 in
theorem catchB {w : World} {g : Nat} {A : Option Addr} {n c : Nat} {xs : List UInt8} {at_ er fat : Int} {what : ByteArray} (h : Rdr w g A n c xs at_ er fat what) (ht : ErrT w)
    (pa pw pr : Addr) (k a : Int) (wh : ByteArray) (ha : w.cell? pa = some (.int .i64 a)) (hw : w.cell? pw = some (.string wh)) (hr : w.cell? pr = some (.pointer (some ⟨g, 0, none⟩))) (na : pa.block ≠ g) (nw : pw.block ≠ g) (nr : pr.block ≠ g) :
    CallsD Tryz.prog 90 #[.pointer (some pa), .pointer (some pw), .pointer (some pr)] (.panicking [{ v := .iface 26 (.int .i64 k), recovered := false }]) w fun e u' w' =>
      e = .returned (.tuple #[]) ∧ u' = .panicking [{ v := .iface 26 (.int .i64 k), recovered := true }] ∧ Rdr w' g A n c xs at_ k a wh ∧ Fr (fun x => x = g) w w' := by
  refine callsD_of_wpS Tryz.func90 rfl fun c₀ cs hu => ?_
  apply wpS_seq
  apply wpS_region
  simp [wpOpsS, go_sem, recoverD, hu, Tryz.ntmps90, Exit.thenS]
  refine wpS_of_wp ?_
  have hlg := h.bk.lt
  have r2 : w.cell? ⟨g, 2, none⟩ = some (.int .i64 er) := h.bk.cell 2
  have r3 : w.cell? ⟨g, 3, none⟩ = some (.int .i64 fat) := h.bk.cell 3
  have r4 : w.cell? ⟨g, 4, none⟩ = some (.string what) := h.bk.cell 4
  have f2 : w.frozen? ⟨g, 2, none⟩ = false := h.bk.frozen 2
  have f3 : w.frozen? ⟨g, 3, none⟩ = false := h.bk.frozen 3
  have f4 : w.frozen? ⟨g, 4, none⟩ = false := h.bk.frozen 4
  change Code.wp _ _ _ { tmps := #[.pointer (some pa), .pointer (some pw), .pointer (some pr), .iface 26 (.int .i64 k), .iface 26 (.int .i64 k), undef, undef, undef, undef, undef, undef, undef, undef, undef, undef], defers := [] } w
  have mk : ∀ {w' : World}, Fr (fun x => x = g) w w' → w'.cell? pr = some (.pointer (some ⟨g, 0, none⟩)) ∧ w'.cell? pa = some (.int .i64 a) ∧ w'.cell? pw = some (.string wh) ∧ Fr (fun x => x = g) w w' := fun hF =>
    ⟨(hF.cell (World.block_lt_of_cell? w _ hr) nr).trans hr, (hF.cell (World.block_lt_of_cell? w _ ha) na).trans ha, (hF.cell (World.block_lt_of_cell? w _ hw) nw).trans hw, hF⟩
  have MK := @Lib.hid _ @mk
  clear mk
  go_wp2_with fail
  go_region_held3 (fun w' => w'.cell? pr = some (.pointer (some ⟨g, 0, none⟩)) ∧ w'.cell? pa = some (.int .i64 a) ∧ w'.cell? pw = some (.string wh) ∧ Fr (fun x => x = g) w w')
    (first
      | exact MK.out (Fr.refl _ _).drew
      | exact MK.out hf2
      | exact MK.out (((hf2.trans fr_set (fun _ _ h => h)).trans fr_set (fun _ _ h => h)).trans fr_set (fun _ _ h => h)))
    (first | (go_at_call 71; refine (thrown_any k _ (ht.fr (Fr.refl (fun _ => False) w).drew (fun h => h))).mono ?_; rintro e w1 ⟨rfl, hf⟩; have hf1 : Fr (fun _ => False) w w1 := (Fr.refl (fun _ => False) w).drew.trans hf (fun _ _ h => h); have hf2 : Fr (fun x => x = g) w w1 := hf1.mono (fun _ _ h => h.elim); have q2 := (hf1.cell (p := ⟨g, 2, none⟩) hlg (fun h => h)).trans r2; have q3 := (hf1.cell (p := ⟨g, 3, none⟩) hlg (fun h => h)).trans r3; have q4 := (hf1.cell (p := ⟨g, 4, none⟩) hlg (fun h => h)).trans r4; have e2 := (hf1.frozen (p := ⟨g, 2, none⟩) hlg (fun h => h)).trans f2; have e3 := (hf1.frozen (p := ⟨g, 3, none⟩) hlg (fun h => h)).trans f3; have e4 := (hf1.frozen (p := ⟨g, 4, none⟩) hlg (fun h => h)).trans f4))
  have hf3 := hf2.trans (((fr_set (i := 2) (v := .int .i64 k)).trans (fr_set (i := 3) (v := .int .i64 a)) (fun _ _ h => h)).trans (fr_set (i := 4) (v := .string wh)) (fun _ _ h => h)) (fun _ _ h => h)
  have hr3 := (h.quiet hf1).fault k a wh
  exact ⟨rfl, _, rfl, _, results_none rfl _ _ _, rfl, rfl, hr3, hf3⟩

set_option maxRecDepth 100000 in
set_option maxHeartbeats 1000000 in
theorem idleB (pa pw pr : Addr) (w : World) :
    CallsD Tryz.prog 90 #[.pointer (some pa), .pointer (some pw), .pointer (some pr)] .returning w fun e u' w' => e = .returned (.tuple #[]) ∧ u' = .returning ∧ w = w' := by
  refine callsD_of_wpS Tryz.func90 rfl fun c₀ cs hu => ?_
  apply wpS_seq
  apply wpS_region
  simp [wpOpsS, go_sem, recoverD, hu, Tryz.ntmps90, Exit.thenS]
  refine wpS_of_wp ?_
  change Code.wp _ _ _ { tmps := #[.pointer (some pa), .pointer (some pw), .pointer (some pr), .nilIface, .nilIface, undef, undef, undef, undef, undef, undef, undef, undef, undef, undef], defers := [] } w
  go_wp2
  exact ⟨rfl, _, by cases c₀; simp_all, _, results_none rfl _ _ _, rfl, rfl, rfl⟩
end Go.Proofs.YtdfkoehcmgcoiaaGreatDoor

/- The reader's Int. -/
namespace Go.Proofs.YtdfkoehcmgcoiaaGreatDoor
open Go.RowKit

/-- Where a reader stands: at a place, or at its fault. -/
inductive St where
  | at_ (k : Nat)
  | bad (er a : Int) (wh : ByteArray)

def RdAt (w : World) (g : Nat) (A : Option Addr) (n c : Nat) (xs : List UInt8) : St → Prop
  | .at_ k => k ≤ n ∧ ∃ fat what, Rdr w g A n c xs k 0 fat what
  | .bad er a wh => er ≠ 0 ∧ ∃ p, Rdr w g A n c xs p er a wh

def stInt (xs : List UInt8) (wh : ByteArray) : St → Int × St
  | .bad er a w0 => (0, .bad er a w0)
  | .at_ k => match rdNum (xs.drop k) with
    | .bad b => (0, .bad b k wh)
    | .ok u m => (unfN u, .at_ (k + m))

theorem num_bad_or : ∀ (f i acc : Nat) (l : List UInt8) (b : Int), num f i acc l = .bad b → b = 7 ∨ b = 8
  | 0, _, _, _, _, h => by unfold num at h; injection h with h; exact .inr h.symm
  | _ + 1, _, _, [], _, h => by unfold num at h; injection h with h; exact .inl h.symm
  | f + 1, i, acc, c :: l, b, h => by
    unfold num at h
    split at h
    · exact num_bad_or f _ _ _ _ h
    · split at h
      · injection h with h; exact .inr h.symm
      · cases h
theorem num_bad {l : List UInt8} {b : Int} (h : rdNum l = .bad b) : b ≠ 0 := by
  rcases num_bad_or _ _ _ _ _ h with h | h <;> omega
theorem num_ok : ∀ (f i acc : Nat) (l : List UInt8) (u m : Nat), num f i acc l = .ok u m → i < m ∧ m ≤ i + l.length
  | 0, _, _, _, _, _, h => by unfold num at h; cases h
  | _ + 1, _, _, [], _, _, h => by unfold num at h; cases h
  | f + 1, i, acc, c :: l, u, m, h => by
    unfold num at h
    split at h
    · have := num_ok f _ _ _ _ _ h
      rw [List.length_cons]; omega
    · split at h
      · cases h
      · injection h with _ h
        rw [List.length_cons]; omega

theorem RdAt.quiet {w w' : World} {g : Nat} {A : Option Addr} {n c : Nat} {xs : List UInt8} {s : St} (h : RdAt w g A n c xs s) (hf : Fr (fun _ => False) w w') : RdAt w' g A n c xs s := by
  cases s with
  | at_ k => exact ⟨h.1, h.2.imp fun _ h => h.imp fun _ h => h.quiet hf⟩
  | bad er a wh => exact ⟨h.1, h.2.imp fun _ h => h.quiet hf⟩

end Go.Proofs.YtdfkoehcmgcoiaaGreatDoor

/- A reader's other steps, whatever they are: by their contract. -/
namespace Go.Proofs.YtdfkoehcmgcoiaaGreatDoor
open Go.RowKit

/-- What a step comes to: a panic with an Errno, or a value, the reader being at k'. -/
inductive SR where
  | bad (b : Int)
  | ok (k' : Nat)

def StepPost (w : World) (g : Nat) (A : Option Addr) (n c : Nat) (xs : List UInt8) (r : SR) (Q : World → Value → World → Prop) (e : Ending) (w' : World) : Prop :=
  match r with
  | .bad b => e = pan b ∧ (∃ p fat what, Rdr w' g A n c xs p 0 fat what) ∧ Fr (fun x => x = g) w w'
  | .ok k' => ∃ v, e = .returned v ∧ k' ≤ n ∧ (∃ fat what, Rdr w' g A n c xs k' 0 fat what) ∧ Fr (fun x => x = g) w w' ∧ Q w v w'

/-- What a try of a step comes to. -/
def TryPost (w : World) (g : Nat) (A : Option Addr) (n c : Nat) (xs : List UInt8) (k : Nat) (wh : ByteArray) (Q : World → Value → World → Prop) (z : Value) (r : SR) (e : Ending) (w' : World) : Prop :=
  match r with
  | .bad b => e = .returned z ∧ RdAt w' g A n c xs (.bad b k wh) ∧ Fr (fun x => x = g) w w'
  | .ok k' => ∃ v W, e = .returned v ∧ RdAt w' g A n c xs (.at_ k') ∧ Fr (fun x => x = g) w w' ∧ Fr (fun _ => False) w W ∧ Q W v w'

set_option maxRecDepth 100000 in
set_option maxHeartbeats 4000000 in
theorem tryInt_bad {w : World} {g : Nat} {A : Option Addr} {n c : Nat} {xs : List UInt8} {p er fat : Int} {what : ByteArray} (h : Rdr w g A n c xs p er fat what) (he : (er == 0) = false) (wh : ByteArray) (f : Value) :
    Calls Tryz.prog 51 #[.pointer (some ⟨g, 0, none⟩), .string wh, f] w fun e w' => e = .returned (.int .i64 0) ∧ Fr (fun _ => False) w w' := by
  have hf1 : Fr (fun _ => False) w ((w.alloc (.cells #[.pointer (some ⟨g, 0, none⟩)] 68)).alloc (.cells #[.string wh] 9)) := ((Fr.refl _ _).alloc _).alloc _
  go_enter_defers Tryz.func51, Tryz.ntmps51
  go_wp2_with (go_at_call 55; refine (failed_any (h.quiet hf1) _ he).mono ?_; rintro e w' ⟨rfl, rfl⟩)
  exact ⟨_, results_tmp rfl _ _ _, rfl, hf1⟩

set_option maxRecDepth 100000 in
set_option maxHeartbeats 4000000 in
theorem tryInt_step {w : World} {g : Nat} {A : Option Addr} {n c : Nat} {xs : List UInt8} {k : Nat} {fat : Int} {what : ByteArray} (h : Rdr w g A n c xs k 0 fat what) (ht : ErrT w) (wh : ByteArray) (hg : g ≠ 0)
    (F : FuncId) (caps : Array Value) (r : SR) (Q : World → Value → World → Prop) (hstep : ∀ W, Fr (fun _ => False) w W → Calls Tryz.prog F caps W (StepPost W g A n c xs r Q)) (hb : ∀ b, r = .bad b → b ≠ 0) (hcf : ∀ W : World, (callFunc F caps).run Tryz.prog W = .ok (.enter F caps) W) :
    Calls Tryz.prog 51 #[.pointer (some ⟨g, 0, none⟩), .string wh, .func (.func F) #[] caps] w (TryPost w g A n c xs k wh Q (.int .i64 0) r) := by
  have hf1 : Fr (fun _ => False) w ((w.alloc (.cells #[.pointer (some ⟨g, 0, none⟩)] 68)).alloc (.cells #[.string wh] 9)) := ((Fr.refl _ _).alloc _).alloc _
  have hf2 : Fr (fun _ => False) w (((w.alloc (.cells #[.pointer (some ⟨g, 0, none⟩)] 68)).alloc (.cells #[.string wh] 9)).alloc (.cells #[.int .i64 k] 3)) := hf1.alloc _
  have hmf : ∀ (fn : Fn) (first cap : Array Value) (w : World), (Instr.makeFunc fn first cap).run Tryz.prog w = .ok (.func fn first cap) w := fun _ _ _ _ => rfl
  have hat : ((w.alloc (.cells #[.pointer (some ⟨g, 0, none⟩)] 68)).alloc (.cells #[.string wh] 9)).cell? ⟨g, 1, none⟩ = some (.int .i64 k) := (h.quiet hf1).bk.cell 1
  have HS := Lib.hid hstep
  clear hstep
  have hlg := h.bk.lt
  go_enter_defers Tryz.func51, Tryz.ntmps51
  go_wp2_with (first
    | (go_at_call 55; refine (failed_any (h.quiet hf1) true rfl).mono ?_; rintro e w' ⟨rfl, rfl⟩))
  refine (HS.out _ hf2).mono ?_
  cases r with
  | bad b =>
    rintro e w1 ⟨rfl, ⟨p, _, _, hr1⟩, hf3⟩
    refine leaves_cons (f := 70) (args := #[.pointer (some ⟨w.heap.size + 1 + 1, 0, none⟩), .pointer (some ⟨w.heap.size + 1, 0, none⟩), .pointer (some ⟨w.heap.size, 0, none⟩)]) (by simp) (by simp [go_sem]) ?_
    have hF := (hf2.mono (T := fun x => x = g) (fun _ _ h => h.elim)).trans hf3 (fun _ _ h => h)
    refine (catchInt hr1 (ht.fr hF (fun e => hg e.symm)) ⟨w.heap.size + 1 + 1, 0, none⟩ ⟨w.heap.size + 1, 0, none⟩ ⟨w.heap.size, 0, none⟩ b k wh ?_ ?_ ?_ (by show w.heap.size + 1 + 1 ≠ g; omega) (by show w.heap.size + 1 ≠ g; omega) (by show w.heap.size ≠ g; omega)).mono ?_
    · exact (hf3.cell (p := ⟨w.heap.size + 1 + 1, 0, none⟩) (by simp) (by show ¬ w.heap.size + 1 + 1 = g; omega)).trans (by simp [go_sem])
    · exact (hf3.cell (p := ⟨w.heap.size + 1, 0, none⟩) (by simp) (by show ¬ w.heap.size + 1 = g; omega)).trans (by simp [go_sem])
    · exact (hf3.cell (p := ⟨w.heap.size, 0, none⟩) (by simp; omega) (by show ¬ w.heap.size = g; omega)).trans (by simp [go_sem])
    rintro e u' w'' ⟨rfl, rfl, hr2, hf4⟩
    exact ⟨_, results_tmp rfl _ _ _, rfl, ⟨hb b rfl, _, hr2⟩, hF.trans hf4 (fun _ _ h => h)⟩
  | ok k' =>
    rintro e w1 ⟨v, rfl, hk', ⟨fat1, what1, hr1⟩, hf3, hq⟩
    go_wp2
    refine leaves_cons (f := 70) (args := #[.pointer (some ⟨w.heap.size + 1 + 1, 0, none⟩), .pointer (some ⟨w.heap.size + 1, 0, none⟩), .pointer (some ⟨w.heap.size, 0, none⟩)]) (by simp) (by simp [go_sem]) ?_
    have hF := (hf2.mono (T := fun x => x = g) (fun _ _ h => h.elim)).trans hf3 (fun _ _ h => h)
    refine (idleInt _ _ _ _).mono ?_
    rintro e u' w'' ⟨rfl, rfl, rfl⟩
    exact ⟨_, results_tmp rfl _ _ _, v, _, rfl, ⟨hk', _, _, hr1⟩, hF, hf2, hq⟩
set_option maxRecDepth 100000 in
set_option maxHeartbeats 4000000 in
theorem tryB_bad {w : World} {g : Nat} {A : Option Addr} {n c : Nat} {xs : List UInt8} {p er fat : Int} {what : ByteArray} (h : Rdr w g A n c xs p er fat what) (he : (er == 0) = false) (wh : ByteArray) (f : Value) :
    Calls Tryz.prog 82 #[.pointer (some ⟨g, 0, none⟩), .string wh, f] w fun e w' => e = .returned (.slice none 0 0) ∧ Fr (fun _ => False) w w' := by
  have hf1 : Fr (fun _ => False) w ((w.alloc (.cells #[.pointer (some ⟨g, 0, none⟩)] 68)).alloc (.cells #[.string wh] 9)) := ((Fr.refl _ _).alloc _).alloc _
  go_enter_defers Tryz.func82, Tryz.ntmps82
  go_wp2_with (go_at_call 55; refine (failed_any (h.quiet hf1) _ he).mono ?_; rintro e w' ⟨rfl, rfl⟩)
  exact ⟨_, results_tmp rfl _ _ _, rfl, hf1⟩

set_option maxRecDepth 100000 in
set_option maxHeartbeats 4000000 in
theorem tryB_step {w : World} {g : Nat} {A : Option Addr} {n c : Nat} {xs : List UInt8} {k : Nat} {fat : Int} {what : ByteArray} (h : Rdr w g A n c xs k 0 fat what) (ht : ErrT w) (wh : ByteArray) (hg : g ≠ 0)
    (F : FuncId) (caps : Array Value) (r : SR) (Q : World → Value → World → Prop) (hstep : ∀ W, Fr (fun _ => False) w W → Calls Tryz.prog F caps W (StepPost W g A n c xs r Q)) (hb : ∀ b, r = .bad b → b ≠ 0) (hcf : ∀ W : World, (callFunc F caps).run Tryz.prog W = .ok (.enter F caps) W) :
    Calls Tryz.prog 82 #[.pointer (some ⟨g, 0, none⟩), .string wh, .func (.func F) #[] caps] w (TryPost w g A n c xs k wh Q (.slice none 0 0) r) := by
  have hf1 : Fr (fun _ => False) w ((w.alloc (.cells #[.pointer (some ⟨g, 0, none⟩)] 68)).alloc (.cells #[.string wh] 9)) := ((Fr.refl _ _).alloc _).alloc _
  have hf2 : Fr (fun _ => False) w (((w.alloc (.cells #[.pointer (some ⟨g, 0, none⟩)] 68)).alloc (.cells #[.string wh] 9)).alloc (.cells #[.int .i64 k] 3)) := hf1.alloc _
  have hmf : ∀ (fn : Fn) (first cap : Array Value) (w : World), (Instr.makeFunc fn first cap).run Tryz.prog w = .ok (.func fn first cap) w := fun _ _ _ _ => rfl
  have hat : ((w.alloc (.cells #[.pointer (some ⟨g, 0, none⟩)] 68)).alloc (.cells #[.string wh] 9)).cell? ⟨g, 1, none⟩ = some (.int .i64 k) := (h.quiet hf1).bk.cell 1
  have HS := Lib.hid hstep
  clear hstep
  have hlg := h.bk.lt
  go_enter_defers Tryz.func82, Tryz.ntmps82
  go_wp2_with (first
    | (go_at_call 55; refine (failed_any (h.quiet hf1) true rfl).mono ?_; rintro e w' ⟨rfl, rfl⟩))
  refine (HS.out _ hf2).mono ?_
  cases r with
  | bad b =>
    rintro e w1 ⟨rfl, ⟨p, _, _, hr1⟩, hf3⟩
    refine leaves_cons (f := 90) (args := #[.pointer (some ⟨w.heap.size + 1 + 1, 0, none⟩), .pointer (some ⟨w.heap.size + 1, 0, none⟩), .pointer (some ⟨w.heap.size, 0, none⟩)]) (by simp) (by simp [go_sem]) ?_
    have hF := (hf2.mono (T := fun x => x = g) (fun _ _ h => h.elim)).trans hf3 (fun _ _ h => h)
    refine (catchB hr1 (ht.fr hF (fun e => hg e.symm)) ⟨w.heap.size + 1 + 1, 0, none⟩ ⟨w.heap.size + 1, 0, none⟩ ⟨w.heap.size, 0, none⟩ b k wh ?_ ?_ ?_ (by show w.heap.size + 1 + 1 ≠ g; omega) (by show w.heap.size + 1 ≠ g; omega) (by show w.heap.size ≠ g; omega)).mono ?_
    · exact (hf3.cell (p := ⟨w.heap.size + 1 + 1, 0, none⟩) (by simp) (by show ¬ w.heap.size + 1 + 1 = g; omega)).trans (by simp [go_sem])
    · exact (hf3.cell (p := ⟨w.heap.size + 1, 0, none⟩) (by simp) (by show ¬ w.heap.size + 1 = g; omega)).trans (by simp [go_sem])
    · exact (hf3.cell (p := ⟨w.heap.size, 0, none⟩) (by simp; omega) (by show ¬ w.heap.size = g; omega)).trans (by simp [go_sem])
    rintro e u' w'' ⟨rfl, rfl, hr2, hf4⟩
    exact ⟨_, results_tmp rfl _ _ _, rfl, ⟨hb b rfl, _, hr2⟩, hF.trans hf4 (fun _ _ h => h)⟩
  | ok k' =>
    rintro e w1 ⟨v, rfl, hk', ⟨fat1, what1, hr1⟩, hf3, hq⟩
    go_wp2
    refine leaves_cons (f := 90) (args := #[.pointer (some ⟨w.heap.size + 1 + 1, 0, none⟩), .pointer (some ⟨w.heap.size + 1, 0, none⟩), .pointer (some ⟨w.heap.size, 0, none⟩)]) (by simp) (by simp [go_sem]) ?_
    have hF := (hf2.mono (T := fun x => x = g) (fun _ _ h => h.elim)).trans hf3 (fun _ _ h => h)
    refine (idleB _ _ _ _).mono ?_
    rintro e u' w'' ⟨rfl, rfl, rfl⟩
    exact ⟨_, results_tmp rfl _ _ _, v, _, rfl, ⟨hk', _, _, hr1⟩, hF, hf2, hq⟩
end Go.Proofs.YtdfkoehcmgcoiaaGreatDoor
