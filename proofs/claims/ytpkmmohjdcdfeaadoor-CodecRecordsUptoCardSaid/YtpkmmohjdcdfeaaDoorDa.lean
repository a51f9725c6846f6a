/- A list of items that came in; few. -/
import Derived.Test.YtpkmmohjdcdfeaaDoorCp
namespace Go.Proofs.YtpkmmohjdcdfeaaDoor
open Go.RowKit

structure It where
  isB : Bool
  num : Int
  ad : Option Addr
  cap : Nat
  bs : List UInt8

structure ItAt (w : World) (g o : Nat) (x : It) : Prop where
  c0 : w.cell? ⟨g, o, none⟩ = some (.bool x.isB)
  c1 : w.cell? ⟨g, o + 1, none⟩ = some (.int .i64 x.num)
  c2 : w.cell? ⟨g, o + 2, none⟩ = some (.slice x.ad x.bs.length x.cap)
  rd : Rd8 w x.ad x.bs
  lo : -9223372036854775808 ≤ x.num
  hi : x.num ≤ 9223372036854775807
  len : (x.bs.length : Int) ≤ 140737488355328
  lt : ∀ ad, x.ad = some ad → 0 < x.bs.length → ad.block < w.heap.size

def Its (w : World) (A : Option Addr) (l : List It) : Prop := 0 < l.length → ∃ g o, A = some ⟨g, o, none⟩ ∧ ∀ i (h : i < l.length), ItAt w g (o + i * 3) l[i]

theorem ItAt.fr {S : Nat → Prop} {w w' : World} {g o : Nat} {x : It} (h : ItAt w g o x) (hf : Fr S w w') (hS : ∀ k, k < w.heap.size → ¬ S k) : ItAt w' g o x :=
  { h with
    c0 := (hf.cell (World.block_lt_of_cell? w _ h.c0) (hS _ (World.block_lt_of_cell? w _ h.c0))).trans h.c0
    c1 := (hf.cell (World.block_lt_of_cell? w _ h.c1) (hS _ (World.block_lt_of_cell? w _ h.c1))).trans h.c1
    c2 := (hf.cell (World.block_lt_of_cell? w _ h.c2) (hS _ (World.block_lt_of_cell? w _ h.c2))).trans h.c2
    rd := h.rd.fr hf (fun ad e h0 => hS _ (h.lt ad e h0))
    lt := fun ad e h0 => Nat.lt_of_lt_of_le (h.lt ad e h0) hf.size }
theorem Its.fr {S : Nat → Prop} {w w' : World} {A : Option Addr} {l : List It} (h : Its w A l) (hf : Fr S w w') (hS : ∀ k, k < w.heap.size → ¬ S k) : Its w' A l := fun h0 => by
  obtain ⟨g, o, e, hx⟩ := h h0
  exact ⟨g, o, e, fun i hi => (hx i hi).fr hf hS⟩

/-- What few counts. -/
def sizeOf' (l : List It) : Nat := (l.map fun x => x.bs.length + 10).sum
theorem sizeOf'_take (l : List It) (k : Nat) (h : k < l.length) : sizeOf' (l.take (k + 1)) = sizeOf' (l.take k) + l[k].bs.length + 10 := by
  unfold sizeOf'
  rw [List.take_succ_eq_append_getElem h, List.map_append, List.sum_append]
  simp
  omega

theorem sizeOf'_le (l : List It) (w : World) (g o : Nat) (hx : ∀ i (h : i < l.length), ItAt w g (o + i * 3) l[i]) : ∀ k, k ≤ l.length → (sizeOf' (l.take k) : Int) ≤ k * 140737488355338
  | 0, _ => by simp [sizeOf']
  | k + 1, h => by
    have h1 := sizeOf'_le l w g o hx k (by omega)
    have h2 := (hx k (by omega)).len
    rw [sizeOf'_take l k (by omega)]
    omega
theorem wrap64_range (z : Int) : -9223372036854775808 ≤ wrap64 z ∧ wrap64 z ≤ 9223372036854775807 := by
  unfold wrap64
  constructor <;> omega

set_option maxRecDepth 100000 in
set_option maxHeartbeats 1000000 in
theorem few_any (A : Option Addr) (n c : Nat) (l : List It) (w : World) (h : Its w A l) (hn : l.length = n) (hb : (n : Int) ≤ 140737488355328) :
    Calls Tryd.prog 6 #[.slice A n c] w fun e w' => ∃ b, e = .returned (.bool b) ∧ w = w' ∧ (n ≤ 300 → b = decide (sizeOf' l ≤ 8192)) := by
  go_enter Tryd.func6, Tryd.ntmps6
  go_wp2
  go_loop [3, 4] (fun s i => ∃ (k : Nat) (z : Int), k ≤ n ∧ i = .int .i64 k ∧ s = .int .i64 z ∧ -9223372036854775808 ≤ z ∧ z ≤ 9223372036854775807 ∧ ((k : Int) ≤ 300 → z = (sizeOf' (l.take k) : Nat))) (fun _ i => n - (intOf i).toNat)
  case atStart => exact ⟨0, 0, Nat.zero_le _, rfl, rfl, by omega, by omega, fun _ => rfl⟩
  case round =>
    obtain ⟨k, z, hk, rfl, rfl, z0, z1, hz⟩ := hrel
    by_cases hlt : k < n
    · obtain ⟨g, o, rfl, hx⟩ := h (by omega)
      have hi := hx k (by omega)
      have hc := hi.c2
      have hbl := hi.len
      have hst := sizeOf'_take l k (by omega)
      have hlim : (k : Int) ≤ 300 → (sizeOf' (l.take k) : Int) ≤ k * 140737488355338 := fun _ => sizeOf'_le l w g o hx k (by omega)
      generalize hm : (l[k]'(by omega)).bs.length = m at *
      have HS := Lib.hid hst
      have HZ := Lib.hid hz
      have HL := Lib.hid hlim
      clear hi hx hst hz hlim
      go_wp2
      go_round
      case rel =>
        refine ⟨k + 1, _, by omega, by go_num, rfl, (wrap64_range _).1, (wrap64_range _).2, fun h3 => ?_⟩
        have hzk := HZ.out (by omega)
        have hlk := HL.out (by omega)
        have hss := HS.out
        rw [hss]
        unfold wrap64
        omega
      case measure => simp [intOf]; omega
    · have : k = n := by omega
      subst this
      have HZ := Lib.hid hz
      clear hz
      rw [List.take_of_length_le (by omega)] at HZ
      by_cases h8 : z ≤ 8192
      · go_wp2
        go_ret
        exact .inr ⟨rfl, rfl, fun h3 => by have := HZ.out (by omega); omega⟩
      · go_wp2
        go_ret
        exact .inl ⟨rfl, rfl, fun h3 => by have := HZ.out (by omega); omega⟩
end Go.Proofs.YtpkmmohjdcdfeaaDoor
