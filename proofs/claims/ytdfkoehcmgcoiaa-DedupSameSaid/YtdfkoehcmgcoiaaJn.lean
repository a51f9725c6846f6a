/- dedup's acts in memory; few. -/
import Derived.Test.YtdfkoehcmgcoiaaJm
namespace Go.Proofs.Ytdfkoehcmgcoiaa
open Go.RowKit

structure Dc where
  op : Int
  c : Int
  s : Int
  a : List UInt8
instance : Inhabited Dc := ⟨⟨0, 0, 0, []⟩⟩
/-- An act at a place; its bytes lie below F. -/
structure DcAt (w : World) (F b o : Nat) (q : Dc) (A : Option Addr) (m : Nat) : Prop where
  c0 : w.cell? ⟨b, o, none⟩ = some (.int .i64 q.op)
  c1 : w.cell? ⟨b, o + 1, none⟩ = some (.int .i64 q.c)
  c2 : w.cell? ⟨b, o + 2, none⟩ = some (.int .i64 q.s)
  c3 : w.cell? ⟨b, o + 3, none⟩ = some (.slice A q.a.length m)
  rd : Rd8 w A q.a
  lo : ∀ ad, A = some ad → 0 < q.a.length → ad.block < F
  bl : b < F
  i0 : I64 q.op
  i1 : I64 q.c
  i2 : I64 q.s
  ln : q.a.length ≤ 140737488355328
theorem DcAt.fr {S : Nat → Prop} {w w' : World} {F b o : Nat} {q : Dc} {A : Option Addr} {m : Nat} (h : DcAt w F b o q A m) (hf : Fr S w w') (hS : ∀ k, k < F → ¬ S k) : DcAt w' F b o q A m :=
  ⟨(hf.cell (World.block_lt_of_cell? w _ h.c0) (hS _ h.bl)).trans h.c0, (hf.cell (World.block_lt_of_cell? w _ h.c1) (hS _ h.bl)).trans h.c1, (hf.cell (World.block_lt_of_cell? w _ h.c2) (hS _ h.bl)).trans h.c2, (hf.cell (World.block_lt_of_cell? w _ h.c3) (hS _ h.bl)).trans h.c3,
    h.rd.fr hf (fun ad e h0 => hS _ (h.lo ad e h0)), h.lo, h.bl, h.i0, h.i1, h.i2, h.ln⟩
def Dcs (w : World) (F : Nat) (A : Option Addr) (n : Nat) (f : Nat → Dc) : Prop := ∀ j, j < n → ∃ b o B m, A = some ⟨b, o, none⟩ ∧ DcAt w F b (o + j * 4) (f j) B m
theorem Dcs.fr {S : Nat → Prop} {w w' : World} {F : Nat} {A : Option Addr} {n : Nat} {f : Nat → Dc} (h : Dcs w F A n f) (hf : Fr S w w') (hS : ∀ k, k < F → ¬ S k) : Dcs w' F A n f := fun j hj => by
  obtain ⟨b, o, B, m, e, hc⟩ := h j hj
  exact ⟨b, o, B, m, e, hc.fr hf hS⟩
def fsum (f : Nat → Dc) : Nat → Nat
  | 0 => 0
  | j + 1 => fsum f j + (f j).a.length
theorem fsum_le (f : Nat → Dc) (h : ∀ j, (f j).a.length ≤ 140737488355328) : ∀ j, fsum f j ≤ j * 140737488355328
  | 0 => by simp [fsum]
  | j + 1 => by have := fsum_le f h j; have := h j; unfold fsum; omega
/-- Are acts few? -/
def fewB (n : Nat) (f : Nat → Dc) : Bool := decide (n ≤ 200) && decide (fsum f n ≤ 8192)
theorem i64_wrap_in (x : Int) : I64 (IntKind.i64.wrap x) := by rw [IntKind.wrap_i64]; constructor <;> omega

set_option maxRecDepth 100000 in
set_option maxHeartbeats 4000000 in
theorem few_any {A : Option Addr} {n cap : Nat} {f : Nat → Dc} {F : Nat} {w : World} (h : Dcs w F A n f) (hl : ∀ j, (f j).a.length ≤ 140737488355328) (hn : (n : Int) ≤ 9223372036854775807) :
    Calls Try.prog 7 #[.slice A n cap] w fun e w' => e = .returned (.bool (fewB n f)) ∧ Fr (fun _ => False) w w' := by
  have H := Lib.hid h
  have HL := Lib.hid (fsum_le f hl)
  have HL1 := Lib.hid hl
  clear h hl
  go_enter Try.func7, Try.ntmps7
  go_wp2_with fail
  go_loopw [3, 4] (fun z i wr => ∃ (j : Nat) (y : Int), j ≤ n ∧ z = .int .i64 y ∧ i = .int .i64 (j : Int) ∧ Hid (I64 y ∧ (j ≤ 200 → y = (fsum f j : Int))) ∧ Fr (fun _ => False) w wr) (fun _ i _ => n - (intOf i).toNat)
  case atStart => exact ⟨0, 0, Nat.zero_le _, rfl, rfl, ⟨⟨by omega, by omega⟩, fun _ => rfl⟩, Fr.refl _ _⟩
  case round =>
    obtain ⟨j, y, hj, rfl, rfl, hy, hf⟩ := hrel
    have HF := Lib.hid hf
    have hj0 : (0 : Int) ≤ (j : Int) := by omega
    by_cases hlt : j < n
    · have hj1 : (j : Int) < (n : Int) := by omega
      obtain ⟨b, o, B, m, rfl, hc⟩ := (H.out.fr HF.out (fun _ _ h => h)) j hlt
      have q3 := hc.c3
      clear hc
      have hw1 : IntKind.i64.wrap ((j : Int) + 1) = (j : Int) + 1 := IntWalk.i64_in _ (by omega)
      obtain ⟨x, hx⟩ : ∃ x, (f j).a.length = x := ⟨_, rfl⟩
      rw [hx] at q3
      obtain ⟨z, hz⟩ : ∃ z, IntKind.i64.wrap (y + (x : Int)) = z := ⟨_, rfl⟩
      have HY : Hid (I64 z ∧ (j + 1 ≤ 200 → z = (fsum f (j + 1) : Int))) := Lib.hid ⟨hz ▸ i64_wrap_in _, fun h200 => by
        have h1 := hy.out.2 (by omega)
        have h2 := HL.out (j + 1)
        have h3 : fsum f (j + 1) = fsum f j + x := by rw [← hx]; rfl
        rw [← hz, h1, h3, IntWalk.i64_in _ (by omega)]
        push_cast; rfl⟩
      clear hx hy hf
      go_wp2
      go_roundw
      case rel => exact ⟨j + 1, z, by omega, rfl, by go_num, HY, HF.out⟩
      case measure => simp [intOf]; omega
    · obtain rfl : j = n := by omega
      clear hf
      by_cases h200 : j ≤ 200
      · have d1 : decide (j ≤ 200) = true := decide_eq_true h200
        have d1i : decide ((j : Int) ≤ 200) = true := decide_eq_true (by omega)
        have e := hy.out.2 h200
        have HE : Hid (fewB j f = decide (y ≤ 8192)) := Lib.hid (by
          unfold fewB
          rw [d1, Bool.true_and, e]
          simp only [decide_eq_decide]; omega)
        clear e hy hlt hj
        go_wp2
        go_ret
        exact ⟨by rw [HE.out]; rfl, HF.out⟩
      · have d1 : decide (j ≤ 200) = false := decide_eq_false h200
        have d1i : decide ((j : Int) ≤ 200) = false := decide_eq_false (by omega)
        have HE : Hid (fewB j f = false) := Lib.hid (by unfold fewB; rw [d1, Bool.false_and])
        clear hy hlt hj
        go_wp2
        go_ret
        exact ⟨by rw [HE.out]; rfl, HF.out⟩
end Go.Proofs.Ytdfkoehcmgcoiaa
