/- Calls in memory; the writer's ints; a call's bytes. -/
import Derived.Test.YtblfnbmgijppmaaDoorKb
import Derived.Test.YtblfnbmgijppmaaDoorCp
namespace Go.Proofs.YtblfnbmgijppmaaDoor
open Go.RowKit

/-- A decision, and where its bytes lie. -/
structure DI where
  d : Dn
  A : Option Addr
  c : Nat
instance : Inhabited DI := ⟨⟨default, none, 0⟩⟩
def DI.cells (x : DI) : List Value := [.int .i64 x.d.k, .int .i64 x.d.i, .int .i64 x.d.l, .int .i64 x.d.n, .slice x.A x.d.bs.length x.c]
/-- A decision at a place; P: the blocks in which all of it lies. -/
structure DAt (w : World) (P : Nat → Prop) (b o : Nat) (x : DI) : Prop where
  c0 : w.cell? ⟨b, o, none⟩ = some (.int .i64 x.d.k)
  c1 : w.cell? ⟨b, o + 1, none⟩ = some (.int .i64 x.d.i)
  c2 : w.cell? ⟨b, o + 2, none⟩ = some (.int .i64 x.d.l)
  c3 : w.cell? ⟨b, o + 3, none⟩ = some (.int .i64 x.d.n)
  c4 : w.cell? ⟨b, o + 4, none⟩ = some (.slice x.A x.d.bs.length x.c)
  rb : Rd8 w x.A x.d.bs
  lb : P b
  bb : ∀ ad, x.A = some ad → 0 < x.d.bs.length → P ad.block
theorem DAt.fr {S P : Nat → Prop} {w w' : World} {b o : Nat} {x : DI} (h : DAt w P b o x) (hf : Fr S w w') (hS : ∀ k, P k → ¬ S k) : DAt w' P b o x :=
  ⟨(hf.cell (World.block_lt_of_cell? w _ h.c0) (hS _ h.lb)).trans h.c0, (hf.cell (World.block_lt_of_cell? w _ h.c1) (hS _ h.lb)).trans h.c1, (hf.cell (World.block_lt_of_cell? w _ h.c2) (hS _ h.lb)).trans h.c2,
    (hf.cell (World.block_lt_of_cell? w _ h.c3) (hS _ h.lb)).trans h.c3, (hf.cell (World.block_lt_of_cell? w _ h.c4) (hS _ h.lb)).trans h.c4, h.rb.fr hf (fun ad e h0 => hS _ (h.bb ad e h0)), h.lb, h.bb⟩
theorem DAt.mono {P Q : Nat → Prop} {w : World} {b o : Nat} {x : DI} (h : DAt w P b o x) (hPQ : ∀ k, P k → Q k) : DAt w Q b o x := { h with lb := hPQ _ h.lb, bb := fun ad e h0 => hPQ _ (h.bb ad e h0) }
def DsAt (w : World) (P : Nat → Prop) (A : Option Addr) (l : List DI) : Prop := 0 < l.length → ∃ b o, A = some ⟨b, o, none⟩ ∧ ∀ i (h : i < l.length), DAt w P b (o + i * 5) l[i]
theorem DsAt.fr {S P : Nat → Prop} {w w' : World} {A : Option Addr} {l : List DI} (h : DsAt w P A l) (hf : Fr S w w') (hS : ∀ k, P k → ¬ S k) : DsAt w' P A l := fun h0 => by
  obtain ⟨b, o, e, hc⟩ := h h0
  exact ⟨b, o, e, fun i hi => (hc i hi).fr hf hS⟩
theorem DsAt.mono {P Q : Nat → Prop} {w : World} {A : Option Addr} {l : List DI} (h : DsAt w P A l) (hPQ : ∀ k, P k → Q k) : DsAt w Q A l := fun h0 => by
  obtain ⟨b, o, e, hc⟩ := h h0
  exact ⟨b, o, e, fun i hi => (hc i hi).mono hPQ⟩
theorem DsAt.at_ {P : Nat → Prop} {w : World} {A : Option Addr} {l : List DI} (h : DsAt w P A l) {i : Nat} (hi : i < l.length) : ∃ b o, A = some ⟨b, o, none⟩ ∧ DAt w P b (o + i * 5) (l.getD i default) := by
  obtain ⟨b, o, e, hc⟩ := h (by omega)
  refine ⟨b, o, e, ?_⟩
  rw [show l.getD i default = l[i] by simp [List.getD, hi]]
  exact hc i hi
/-- A call, and where its parts lie. -/
structure CI where
  a0 : Int
  a1 : Int
  a2 : Int
  a3 : Int
  t0 : Int
  t1 : Int
  t2 : Int
  t3 : Int
  bA : Option Addr
  bc : Nat
  bs : List UInt8
  lA : Option Addr
  lc : Nat
  ds : List DI
def CI.cells (x : CI) : Array Value := #[.int .i64 x.a0, .int .i64 x.a1, .int .i64 x.a2, .int .i64 x.a3, .int .i64 x.t0, .int .i64 x.t1, .int .i64 x.t2, .int .i64 x.t3, .slice x.bA x.bs.length x.bc, .slice x.lA x.ds.length x.lc]
def CI.cl (x : CI) : Cl := ⟨x.a0, x.a1, x.a2, x.a3, x.t0, x.t1, x.t2, x.t3, x.bs, x.ds.map DI.d⟩
/-- Its parts in memory. -/
structure CI.At (x : CI) (w : World) (P : Nat → Prop) : Prop where
  rb : Rd8 w x.bA x.bs
  bb : ∀ ad, x.bA = some ad → 0 < x.bs.length → P ad.block
  ds : DsAt w P x.lA x.ds
theorem CI.At.fr {S P : Nat → Prop} {w w' : World} {x : CI} (h : x.At w P) (hf : Fr S w w') (hS : ∀ k, P k → ¬ S k) : x.At w' P := ⟨h.rb.fr hf (fun ad e h0 => hS _ (h.bb ad e h0)), h.bb, h.ds.fr hf hS⟩
theorem CI.At.mono {P Q : Nat → Prop} {w : World} {x : CI} (h : x.At w P) (hPQ : ∀ k, P k → Q k) : x.At w Q := ⟨h.rb, fun ad e h0 => hPQ _ (h.bb ad e h0), h.ds.mono hPQ⟩

theorem eI_len (a : Int) (h : okI a) : (eI a).length ≤ 10 := enc_length10 _ (foldN_lt a h.1 h.2)
theorem eIs_len (l : List Int) (h : ∀ a ∈ l, okI a) : (l.flatMap eI).length ≤ 10 * l.length := by
  induction l with
  | nil => simp
  | cons a l ih =>
    have h1 := eI_len a (h a (List.mem_cons_self ..))
    have h2 := ih (fun b hb => h b (List.mem_cons_of_mem _ hb))
    rw [List.flatMap_cons, List.length_append, List.length_cons]; omega
theorem take_getD {α : Type} [Inhabited α] {l : List α} {k : Nat} (hk : k < l.length) : l.take (k + 1) = l.take k ++ [l.getD k default] := by
  rw [List.take_succ_eq_append_getElem hk]; simp [List.getD, hk]

set_option maxRecDepth 100000 in
set_option maxHeartbeats 2000000 in
theorem ints_any (g : Nat) (v : Value) (bs : List UInt8) (ib ic : Nat) (l : List Int) (n : Nat) (w : World) (hw : Wr w g v bs) (hl : ∀ j (h : j < l.length), w.cell? ⟨ib, j, none⟩ = some (.int .i64 l[j])) (hn : l.length = n) (hn8 : n ≤ 8) (hok : ∀ a ∈ l, okI a) (hb : bs.length ≤ 70368744177000) (hib : ib < w.heap.size) (hne : ib ≠ g) (hnv : v.ownBlock ≠ some ib) :
    Calls Tryd.prog 22 #[.pointer (some ⟨g, 0, none⟩), .slice (some ⟨ib, 0, none⟩) n ic] w fun e w' => e = .returned (.tuple #[]) ∧ ∃ v', WrTo w g v w' v' (bs ++ l.flatMap eI) := by
  have W0 := Lib.hid (WrTo.refl hw)
  have HL := Lib.hid hl
  have HN := Lib.hid hn
  have HO := Lib.hid hok
  have HL2 := Lib.hid (fun k => eIs_len (l.take k) (fun a ha => hok a (List.mem_of_mem_take ha)))
  clear hw hl hn hok
  go_enter Tryd.func22, Tryd.ntmps22
  go_wp2_with fail
  go_loopw [8] (fun i wr => ∃ k : Nat, k ≤ n ∧ i = .int .i64 k ∧ ∃ v1, WrTo w g v wr v1 (bs ++ (l.take k).flatMap eI)) (fun i _ => n - (intOf i).toNat)
  case atStart => exact ⟨0, by omega, rfl, v, by simpa using W0.out⟩
  case round =>
    obtain ⟨k, hk, rfl, v1, hv1⟩ := hrel
    have HV := Lib.hid hv1
    clear hv1 W0
    by_cases hlt : k < n
    · have hkl : k < l.length := by rw [HN.out]; exact hlt
      have hc : wr.cell? ⟨ib, k, none⟩ = some (.int .i64 (l.getD k default)) := by
        rw [show l.getD k default = l[k] by simp [List.getD, hkl]]
        exact (HV.out.2.1.cell (p := ⟨ib, k, none⟩) hib (fun h => h.elim hne hnv)).trans (HL.out k hkl)
      have ho : okI (l.getD k default) := HO.out _ (by rw [show l.getD k default = l[k] by simp [List.getD, hkl]]; exact List.getElem_mem _)
      have ST : Hid ((l.take (k + 1)).flatMap eI = (l.take k).flatMap eI ++ eI (l.getD k default)) := Lib.hid (by rw [take_getD hkl]; simp)
      have hlk := HL2.out k
      have C := Lib.hid (wInt_any g v1 (l.getD k default) (bs ++ (l.take k).flatMap eI) wr ho.1 ho.2 HV.out.1 (by rw [List.length_append]; simp only [List.length_take] at hlk; omega))
      have hk0 : (0 : Int) ≤ (k : Int) := by omega
      have hk1 : (k : Int) < (n : Int) := by omega
      clear hkl ho hlk
      generalize l.getD k default = a at *
      go_wp2_with fail
      refine C.out.mono ?_; rintro e w1 ⟨rfl, v2, h2⟩
      have H2 := Lib.hid (HV.out.trans h2)
      clear C h2 hc
      go_wp2
      go_roundw
      case rel => exact ⟨k + 1, by omega, by go_num, v2, by rw [ST.out, ← List.append_assoc]; exact H2.out⟩
      case measure => simp [intOf]; omega
    · obtain rfl : k = n := by omega
      have FIN : Hid (∃ v1, WrTo w g v wr v1 (bs ++ l.flatMap eI)) := Lib.hid ⟨v1, by have := HV.out; rw [← HN.out, List.take_length] at this; exact this⟩
      go_wp2
      go_end0
      exact ⟨rfl, FIN.out⟩
end Go.Proofs.YtblfnbmgijppmaaDoor
