/- A play's acts: are they few; what an act writes. -/
import Derived.Test.YtnkkdpmmnenncaaUs
namespace Go.Proofs.Ytnkkdpmmnenncaa
open Go.RowKit

def Act.w (q : Act) : Nat := q.bs.length + q.ks.length
def sumTo (l : List Act) : Nat → Nat
  | 0 => 0
  | k + 1 => sumTo l k + (l.getD k default).w
theorem sumTo_le {l : List Act} {k i : Nat} (h : i < k) : (l.getD i default).w ≤ sumTo l k := by
  induction k with
  | zero => omega
  | succ k ih =>
    unfold sumTo
    rcases Nat.lt_or_ge i k with h1 | h1
    · have := ih h1; omega
    · obtain rfl : i = k := by omega
      omega
/-- Are acts few? -/
def fewP (l : List Act) : Bool := decide (l.length ≤ 200) && decide (sumTo l l.length ≤ 32768)
theorem fewP_yes {l : List Act} (h : fewP l = true) : l.length ≤ 200 ∧ ∀ i, i < l.length → (l.getD i default).w ≤ 32768 := by
  simp [fewP] at h
  exact ⟨h.1, fun i hi => Nat.le_trans (sumTo_le hi) h.2⟩

set_option maxRecDepth 100000 in
set_option maxHeartbeats 2000000 in
theorem few_any (A : Option Addr) (n c B : Nat) (l : List Act) (w : World) (h : Acts w B A l) (hn : l.length = n) (hnb : (n : Int) ≤ 9223372036854775807) (hB : B ≤ w.heap.size) :
    Calls Try.prog 9 #[.slice A n c] w fun e w' => e = .returned (.bool (fewP l)) ∧ Fr (fun _ => False) w w' := by
  have H := Lib.hid h
  clear h
  by_cases hl : n ≤ 200
  · have hd1 : decide (l.length ≤ 200) = true := by simp; omega
    have hfe : fewP l = decide ((sumTo l n : Int) ≤ 32768) := by
      unfold fewP; rw [hd1, hn, Bool.true_and]
      rw [Bool.eq_iff_iff]; simp; omega
    rw [hfe]
    have HB : Hid (∀ k, k ≤ n → (sumTo l k : Int) ≤ k * 281474976710656) := Lib.hid (by
      intro k
      induction k with
      | zero => intro _; simp [sumTo]
      | succ k ih =>
        intro hk
        have h1 := ih (by omega)
        obtain ⟨b, o, _, ha⟩ := H.out.at_ (i := k) (by omega)
        have h2 := ha.hb
        have h3 := ha.hk
        unfold sumTo Act.w
        rw [Int.natCast_add, Int.natCast_add]
        have : ((k + 1 : Nat) : Int) * 281474976710656 = k * 281474976710656 + 281474976710656 := by omega
        omega)
    have hn2 : (n : Int) ≤ 200 := by omega
    have HN := Lib.hid hn
    clear hd1 hfe hn hnb
    go_enter Try.func9, Try.ntmps9
    go_wp2_with fail
    go_loopw [3, 4] (fun s i wr => ∃ k : Nat, k ≤ n ∧ i = .int .i64 k ∧ s = .int .i64 (sumTo l k : Int) ∧ Fr (fun _ => False) w wr) (fun _ i _ => n - (intOf i).toNat)
    case atStart => exact ⟨0, Nat.zero_le _, rfl, rfl, Fr.refl _ _⟩
    case round =>
      obtain ⟨k, hk, rfl, rfl, hf⟩ := hrel
      have HF := Lib.hid hf
      clear hf
      by_cases hlt : k < n
      · obtain ⟨b, o, rfl, hat⟩ := (H.out.fr HF.out (fun _ _ h => h)).at_ (i := k) (by rw [HN.out]; exact hlt)
        have hs1 := HB.out k hk
        have hs2 := HB.out (k + 1) (by omega)
        have HS : Hid (((sumTo l k : Nat) : Int) + ((l.getD k default).bs.length : Int) + ((l.getD k default).ks.length : Int) = ((sumTo l (k + 1) : Nat) : Int)) := Lib.hid (by
          conv => rhs; unfold sumTo Act.w
          omega)
        have a3 := hat.c3
        have a5 := hat.c5
        have h2 : (((l.getD k default).bs.length : Nat) : Int) ≤ 140737488355328 := by have := hat.hb; omega
        have h3 : (((l.getD k default).ks.length : Nat) : Int) ≤ 140737488355328 := by have := hat.hk; omega
        have hlt' : (k : Int) < n := by omega
        clear hat HB
        generalize (l.getD k default).bs.length = x at *
        generalize (l.getD k default).ks.length = y at *
        generalize sumTo l k = s1 at *
        have e1 : IntKind.i64.wrap ((s1 : Int) + (x : Int)) = (s1 : Int) + (x : Int) := IntWalk.i64_in _ (by omega)
        have e2 : IntKind.i64.wrap ((s1 : Int) + (x : Int) + (y : Int)) = (s1 : Int) + (x : Int) + (y : Int) := IntWalk.i64_in _ (by omega)
        go_wp2_with fail
        go_quiet (fail)
        clear e1 e2
        go_wp2
        go_roundw
        case rel => exact ⟨k + 1, by omega, by go_num, by rw [HS.out], HF.out.drewN _⟩
        case measure => simp [intOf]; omega
      · obtain rfl : k = n := by omega
        go_wp2
        go_ret
        exact ⟨rfl, HF.out⟩
  · have hd1 : fewP l = false := by unfold fewP; rw [decide_eq_false (by omega), Bool.false_and]
    rw [hd1]
    have hn2 : (200 : Int) < n := by omega
    have HN := Lib.hid hn
    clear hd1 hn
    go_enter Try.func9, Try.ntmps9
    go_wp2_with fail
    go_loopw [3, 4] (fun s i wr => ∃ (k : Nat) (u : Int), k ≤ n ∧ i = .int .i64 k ∧ s = .int .i64 u ∧ Fr (fun _ => False) w wr) (fun _ i _ => n - (intOf i).toNat)
    case atStart => exact ⟨0, 0, Nat.zero_le _, rfl, rfl, Fr.refl _ _⟩
    case round =>
      obtain ⟨k, u, hk, rfl, rfl, hf⟩ := hrel
      have HF := Lib.hid hf
      clear hf
      by_cases hlt : k < n
      · obtain ⟨b, o, rfl, hat⟩ := (H.out.fr HF.out (fun _ _ h => h)).at_ (i := k) (by rw [HN.out]; exact hlt)
        have a3 := hat.c3
        have a5 := hat.c5
        have hlt' : (k : Int) < n := by omega
        clear hat
        generalize (l.getD k default).bs.length = x at *
        generalize (l.getD k default).ks.length = y at *
        go_wp2_with fail
        go_quiet (fail)
        go_wp2
        go_roundw
        case rel => exact ⟨k + 1, _, by omega, by go_num, rfl, HF.out.drewN _⟩
        case measure => simp [intOf]; omega
      · obtain rfl : k = n := by omega
        go_wp2
        go_ret
        exact ⟨rfl, HF.out⟩

/-- What an act writes. -/
def dataTo (f : UInt8) (sz i : Nat) : List UInt8 := (List.range sz).map fun j => if j < i then f + UInt8.ofNat j else 0
def dataOf (q : Act) (sz : Nat) : List UInt8 := if 0 < q.bs.length then q.bs else dataTo q.fill sz sz
theorem dataTo_len (f : UInt8) (sz i : Nat) : (dataTo f sz i).length = sz := by simp [dataTo]
theorem dataTo_zero (f : UInt8) (sz : Nat) : dataTo f sz 0 = List.replicate sz 0 := by
  apply List.ext_getElem
  · simp [dataTo]
  · intro i h1 h2; simp [dataTo]
theorem dataTo_set (f : UInt8) (sz i : Nat) (hi : i < sz) : (dataTo f sz i).set i (f + UInt8.ofNat i) = dataTo f sz (i + 1) := by
  apply List.ext_getElem
  · simp [dataTo]
  · intro j h1 h2
    rw [List.getElem_set]
    split
    · rename_i e; subst e; simp [dataTo]
    · rename_i e
      simp only [dataTo, List.getElem_map, List.getElem_range]
      by_cases h : j < i
      · rw [if_pos h, if_pos (by omega)]
      · rw [if_neg h, if_neg (by omega)]
theorem byte_val (f : UInt8) (i : Nat) : ((f.toNat : Int) + (i : Int)) % 256 = ((f + UInt8.ofNat i).toNat : Int) := by
  have h := f.toNat_lt
  simp only [UInt8.toNat_add, UInt8.toNat_ofNat']
  omega

/-- Data lies where the act's own bytes lie, or in a block that is new. -/
def Lies (w : World) (q : Act) (A : Option Addr) : Prop := ∀ ad, A = some ad → w.heap.size ≤ ad.block ∨ (q.bA = some ad ∧ 0 < q.bs.length)
set_option maxRecDepth 100000 in
set_option maxHeartbeats 2000000 in
theorem data_any (q : Act) (sz : Nat) (w : World) (hr : Rd8 w q.bA q.bs) (hb : q.bs.length ≤ 140737488355328) (hs : sz ≤ 1024) :
    Calls Try.prog 13 #[q.v, .int .i64 (sz : Int)] w fun e w' => ∃ A' c', e = .returned (.slice A' (dataOf q sz).length c') ∧ Rd8 w' A' (dataOf q sz) ∧ Lies w q A' ∧ Fr (fun _ => False) w w' := by
  obtain ⟨qop, qsec, fill, bA, bc, bs, qn, kA, kc, ks⟩ := q
  simp only at hr hb
  unfold Act.v
  simp only
  by_cases h0 : 0 < bs.length
  · have hd : dataOf ⟨qop, qsec, fill, bA, bc, bs, qn, kA, kc, ks⟩ sz = bs := if_pos h0
    rw [hd]
    have h0' : (0 : Int) < (bs.length : Int) := by omega
    have HR := Lib.hid hr
    have H0 : Hid (0 < bs.length) := Lib.hid h0
    clear hr hd h0
    generalize hbl : bs.length = bl at *
    have HBL := Lib.hid hbl
    clear hbl
    go_enter Try.func13, Try.ntmps13
    go_wp2
    go_ret
    exact ⟨bA, bc, rfl, HR.out.fr (Fr.alloc (Fr.refl (fun _ => False) w) _) (fun _ _ _ h => h), fun ad e => .inr ⟨e, by show 0 < bs.length; rw [HBL.out]; exact H0.out⟩, (Fr.refl _ _).alloc _⟩
  · have hd : dataOf ⟨qop, qsec, fill, bA, bc, bs, qn, kA, kc, ks⟩ sz = dataTo fill sz sz := if_neg h0
    rw [hd, dataTo_len]
    have hbz : bs.length = 0 := by omega
    rw [hbz]
    obtain ⟨cur, hcur, hmk⟩ := run_make8w Try.t8d .i64 .i64 sz (by omega)
    have HC := Lib.hid hcur
    clear hr hd h0 hcur hbz hb
    go_enter Try.func13, Try.ntmps13
    go_wp2_with fail
    have hF0 : Fr (fun _ => False) w ((w.alloc (.cells #[.int .i64 qop, .int .i64 qsec, .int .u8 (fill.toNat : Int), .slice bA 0 bc, .int .i64 qn, .slice kA ks.length kc] 35)).alloc (.cells cur 5)) := ((Fr.refl _ _).alloc _).alloc _
    have hB0 : Bk ((w.alloc (.cells #[.int .i64 qop, .int .i64 qsec, .int .u8 (fill.toNat : Int), .slice bA 0 bc, .int .i64 qn, .slice kA ks.length kc] 35)).alloc (.cells cur 5)) w.heap.size 35 #[.int .i64 qop, .int .i64 qsec, .int .u8 (fill.toNat : Int), .slice bA 0 bc, .int .i64 qn, .slice kA ks.length kc] := (Bk.new w _ _).alloc _
    have hL0 : Loc ((w.alloc (.cells #[.int .i64 qop, .int .i64 qsec, .int .u8 (fill.toNat : Int), .slice bA 0 bc, .int .i64 qn, .slice kA ks.length kc] 35)).alloc (.cells cur 5)) (w.heap.size + 1) (dataTo fill sz 0) := by
      have h := Bk.new (w.alloc (.cells #[.int .i64 qop, .int .i64 qsec, .int .u8 (fill.toNat : Int), .slice bA 0 bc, .int .i64 qn, .slice kA ks.length kc] 35)) 5 cur
      rw [show (w.alloc (.cells #[.int .i64 qop, .int .i64 qsec, .int .u8 (fill.toNat : Int), .slice bA 0 bc, .int .i64 qn, .slice kA ks.length kc] 35)).heap.size = w.heap.size + 1 by simp] at h
      exact Loc.of h (by rw [HC.out, dataTo_zero])
    have HF0 := Lib.hid hF0
    have HB0 := Lib.hid hB0
    have HL0 := Lib.hid hL0
    clear hF0 hB0 hL0 HC hmk
    generalize (w.alloc (.cells #[.int .i64 qop, .int .i64 qsec, .int .u8 (fill.toNat : Int), .slice bA 0 bc, .int .i64 qn, .slice kA ks.length kc] 35)).alloc (.cells cur 5) = W at *
    generalize hg : w.heap.size = g at *
    have HG := Lib.hid hg
    clear hg
    go_loopw [6] (fun i wr => ∃ k : Nat, k ≤ sz ∧ i = .int .i64 k ∧ Loc wr (g + 1) (dataTo fill sz k) ∧ Fr (fun x => x = g + 1) W wr) (fun i _ => sz - (intOf i).toNat)
    case atStart => exact ⟨0, Nat.zero_le _, rfl, HL0.out, Fr.refl _ _⟩
    case round =>
      obtain ⟨k, hk, rfl, hl, hf⟩ := hrel
      have HL := Lib.hid hl
      have HF := Lib.hid hf
      clear hl hf
      by_cases hlt : k < sz
      · have a2 : wr.cell? ⟨g, 2, none⟩ = some (.int .u8 (fill.toNat : Int)) := (HB0.out.fr HF.out (by omega)).cell 2
        obtain ⟨y, ak⟩ : ∃ y : Int, wr.cell? ⟨g + 1, k, none⟩ = some (.int .u8 y) := ⟨_, HL.out.cell k (by rw [dataTo_len]; exact hlt)⟩
        have fk : wr.frozen? ⟨g + 1, k, none⟩ = false := HL.out.frozen k
        have hlt' : (k : Int) < sz := by omega
        have HV := Lib.hid (byte_val fill k)
        have HST := Lib.hid (HL.out.set k (fill + UInt8.ofNat k))
        rw [dataTo_set _ _ _ hlt] at HST
        generalize (fill + UInt8.ofNat k).toNat = v at *
        go_wp2
        go_roundw
        case rel => exact ⟨k + 1, by omega, by go_num, by rw [HV.out]; exact HST.out, HF.out.set k _⟩
        case measure => simp [intOf]; omega
      · obtain rfl : k = sz := by omega
        go_wp2
        go_ret
        exact ⟨some ⟨g + 1, 0, none⟩, k, rfl, HL.out.rd, fun ad e => .inl (by injection e with e; subst e; have := HG.out; simp only; omega), HF0.out.trans HF.out (fun x hx e => by have := HG.out; omega)⟩
end Go.Proofs.Ytnkkdpmmnenncaa
