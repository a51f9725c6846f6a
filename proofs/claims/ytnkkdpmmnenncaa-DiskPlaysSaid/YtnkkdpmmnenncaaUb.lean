/- A disk in memory. -/
import Derived.Test.YtnkkdpmmnenncaaUa
import Derived.Test.YtnkkdpmmnenncaaMapI
import Derived.Test.YtnkkdpmmnenncaaMemI
import Derived.Deep.QuietTactic
import Derived.BigQuiet
import Derived.StillTailTactics
namespace Go.Proofs.Ytnkkdpmmnenncaa
open Go.RowKit Go.Maps

theorem Try.info8 : (Try.prog.info? 5).map (fun i => (i.zero, i.size, i.bytes)) = some (some (.int .u8 0), 1, 1) := by kernel_rfl
theorem Try.t8d : T8 Try.prog 32 5 := by
  obtain ⟨i0, hi, hz0, hz1, hz2⟩ := info_parts Try.info8
  exact ⟨Try.underlying32, i0, hi, hz0, hz1, hz2⟩

/-- A slice value that reads as bools. -/
def RdB (w : World) (A : Option Addr) (xs : List Bool) : Prop :=
  0 < xs.length → ∃ ad, A = some ad ∧ ad.spot = none ∧ ∀ j (h : j < xs.length), w.cell? ⟨ad.block, ad.off + j, none⟩ = some (.bool xs[j])
theorem RdB.nil (w : World) (A : Option Addr) : RdB w A [] := fun h => by simp at h
theorem RdB.fr {S : Nat → Prop} {w w' : World} {A : Option Addr} {xs : List Bool} (h : RdB w A xs) (hb : Fr S w w') (hS : ∀ ad, A = some ad → 0 < xs.length → ¬ S ad.block) : RdB w' A xs := fun h0 => by
  obtain ⟨ad, e, hsp, hc⟩ := h h0
  refine ⟨ad, e, hsp, fun j hj => ?_⟩
  have h1 := hc j hj
  rw [← h1]
  exact hb.cell (p := ⟨ad.block, ad.off + j, none⟩) (World.block_lt_of_cell? w _ h1) (hS ad e h0)
theorem RdB.lt {w : World} {ad : Addr} {xs : List Bool} (h : RdB w (some ad) xs) (h0 : 0 < xs.length) : ad.block < w.heap.size := by
  obtain ⟨ad', e, _, hc⟩ := h h0
  injection e with e; subst e
  exact World.block_lt_of_cell? w ⟨ad.block, ad.off + 0, none⟩ (hc 0 h0)
theorem Rd8.lt {w : World} {ad : Addr} {xs : List UInt8} (h : Rd8 w (some ad) xs) (h0 : 0 < xs.length) : ad.block < w.heap.size := by
  obtain ⟨ad', e, _, hc⟩ := h h0
  injection e with e; subst e
  exact World.block_lt_of_cell? w ⟨ad.block, ad.off + 0, none⟩ (hc 0 h0)

/-- The map tells each sector's last write. -/
def NewD (D : DataW Unit) (q : List Pend) : Prop :=
  IsMap D ∧ ∀ x : Int, Maps.has D (.int .i64 x) = (lastIx q x).isSome ∧ ∀ i, lastIx q x = some i → ∀ z, D.atKey (.int .i64 x) z = .lit (.int .i64 (i : Int))
theorem isKey (x : Int) : WideAt.IsKeyLit (.int .i64 x) := trivial
theorem NewD.nil : NewD (.map []) [] := ⟨⟨_, rfl⟩, fun x => ⟨rfl, fun i h => by cases h⟩⟩
theorem NewD.add {D : DataW Unit} {q : List Pend} (h : NewD D q) (x : Nat) (b : List UInt8) : NewD (D.put (.int .i64 (x : Int)) (.lit (.int .i64 (q.length : Int)))) (q ++ [(x, b)]) := by
  refine ⟨IsMap.put h.1 _ _, fun y => ?_⟩
  rw [lastIx_snoc]
  by_cases e : (x : Int) = y
  · rw [if_pos e]
    subst e
    refine ⟨?_, fun i hi z => ?_⟩
    · rw [has_put_same h.1 (isKey _)]; rfl
    · injection hi with hi; subst hi
      rw [atKey_put_same h.1 (isKey _)]
  · rw [if_neg e]
    have hne : (Lit.int .i64 y) ≠ (.int .i64 (x : Int)) := by intro h; injection h with _ h; exact e h.symm
    refine ⟨?_, fun i hi z => ?_⟩
    · rw [has_put_other hne]; exact (h.2 y).1
    · rw [atKey_put_other hne]; exact (h.2 y).2 i hi z

/-- Where the parts of a disk lie. -/
structure ML where
  A : Option Addr
  c : Nat
  kb : Nat
  sV : Value
  bV : Value
  mb : Nat
  mn : Nat
  D : DataW Unit
/-- The blocks that its calls may turn. -/
def WS (g : Nat) (m : ML) (k : Nat) : Prop := k = g ∨ k = m.kb ∨ m.sV.ownBlock = some k ∨ m.bV.ownBlock = some k ∨ k = m.mb
def dcells (s : DS) (m : ML) : Array Value := #[.bool s.off, .int .i64 (s.left : Int), .slice m.A s.keep.length m.c, .int .i64 (s.N : Int), .int .i64 (s.sz : Int), .slice (some ⟨m.kb, 0, none⟩) (s.N * s.sz) (s.N * s.sz), .int .i64 (s.sz : Int), m.sV, m.bV, .map (some m.mb), .int .i64 (s.writes : Int)]
def secs (q : List Pend) : List Int := q.map fun p => (p.1 : Int)
theorem secs_snoc (q : List Pend) (p : Pend) : secs (q ++ [p]) = secs q ++ [(p.1 : Int)] := by simp [secs]
theorem secs_len (q : List Pend) : (secs q).length = q.length := by simp [secs]
/-- A disk at block g. -/
structure DskM (w : World) (g : Nat) (s : DS) (m : ML) : Prop where
  ok : s.ok
  blk : Bk w g 67 (dcells s m)
  keep : RdB w m.A s.keep
  kap : ∀ ad, m.A = some ad → 0 < s.keep.length → ¬ WS g m ad.block
  kept : Bk w m.kb 5 (s.kept.map B8).toArray
  secs : OwnI w m.sV (secs s.q)
  bytes : Own8 w 5 m.bV (flat s.q)
  map : AM w m.mb m.mn m.D
  mn : m.mn ≤ s.q.length
  newD : NewD m.D s.q
  kne : m.bV.ownBlock ≠ some m.kb

theorem DskM.lt {w : World} {g : Nat} {s : DS} {m : ML} (h : DskM w g s m) {k : Nat} (hk : WS g m k) : k < w.heap.size := by
  rcases hk with rfl | rfl | e | e | rfl
  · exact h.blk.lt
  · exact h.kept.lt
  · exact h.secs.lt e
  · exact h.bytes.lt e
  · exact h.map.lt
/-- What turns elsewhere turns no disk. -/
theorem DskM.fr {S : Nat → Prop} {w w' : World} {g : Nat} {s : DS} {m : ML} (h : DskM w g s m) (hf : Fr S w w') (hS : ∀ k, WS g m k → ¬ S k) (hA : ∀ ad, m.A = some ad → 0 < s.keep.length → ¬ S ad.block) : DskM w' g s m :=
  ⟨h.ok, h.blk.fr hf (hS _ (.inl rfl)), h.keep.fr hf hA, h.kap, h.kept.fr hf (hS _ (.inr (.inl rfl))), h.secs.fr hf (fun k e => hS _ (.inr (.inr (.inl e)))),
    h.bytes.fr hf (fun k e => hS _ (.inr (.inr (.inr (.inl e))))), h.map.fr hf (hS _ (.inr (.inr (.inr (.inr rfl))))), h.mn, h.newD, h.kne⟩
theorem DskM.fr0 {w w' : World} {g : Nat} {s : DS} {m : ML} (h : DskM w g s m) (hf : Fr (fun _ => False) w w') : DskM w' g s m := h.fr hf (fun _ _ h => h) (fun _ _ _ h => h)

/-- A disk at block g within the blocks F. -/
def Dsk (w : World) (g : Nat) (s : DS) (F : Nat → Prop) : Prop :=
  ∃ m, DskM w g s m ∧ (∀ k, WS g m k → F k) ∧ (∀ ad, m.A = some ad → 0 < s.keep.length → F ad.block) ∧ ∀ k, F k → k < w.heap.size
theorem Dsk.fr {S F : Nat → Prop} {w w' : World} {g : Nat} {s : DS} (h : Dsk w g s F) (hf : Fr S w w') (hS : ∀ k, F k → ¬ S k) : Dsk w' g s F := by
  obtain ⟨m, h1, h2, h3, h4⟩ := h
  exact ⟨m, h1.fr hf (fun k hk => hS k (h2 k hk)) (fun ad e h0 => hS _ (h3 ad e h0)), h2, h3, fun k hk => Nat.lt_of_lt_of_le (h4 k hk) hf.size⟩
theorem Dsk.fr0 {F : Nat → Prop} {w w' : World} {g : Nat} {s : DS} (h : Dsk w g s F) (hf : Fr (fun _ => False) w w') : Dsk w' g s F := h.fr hf (fun _ _ h => h)
theorem Dsk.lt {F : Nat → Prop} {w : World} {g : Nat} {s : DS} (h : Dsk w g s F) {k : Nat} (hk : F k) : k < w.heap.size := h.choose_spec.2.2.2 k hk
theorem Dsk.self {F : Nat → Prop} {w : World} {g : Nat} {s : DS} (h : Dsk w g s F) : F g := h.choose_spec.2.1 g (.inl rfl)
theorem Dsk.ok {F : Nat → Prop} {w : World} {g : Nat} {s : DS} (h : Dsk w g s F) : s.ok := h.choose_spec.1.ok

/-- From a disk to that disk later. -/
def DskTo (w : World) (g : Nat) (F : Nat → Prop) (w' : World) (s' : DS) : Prop :=
  ∃ F', Dsk w' g s' F' ∧ Fr F w w' ∧ ∀ k, F' k → F k ∨ w.heap.size ≤ k
end Go.Proofs.Ytnkkdpmmnenncaa
