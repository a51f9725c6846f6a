/- What each law of disk asks first. -/
import Derived.Test.YtnkkdpmmnenncaaUk
namespace Go.Proofs.Ytnkkdpmmnenncaa
open Go.RowKit Go.Maps

/-- A row of bytes that the call made, known whole. -/
def Loc (w : World) (g : Nat) (xs : List UInt8) : Prop := Bk w g 5 (xs.map B8).toArray
theorem Loc.rd {w : World} {g : Nat} {xs : List UInt8} (h : Loc w g xs) : Rd8 w (some ⟨g, 0, none⟩) xs := fun _ => by
  refine ⟨_, rfl, rfl, fun j hj => ?_⟩
  rw [Nat.zero_add, Bk.cell h j]
  simp [hj, B8]
theorem Loc.set {w : World} {g : Nat} {xs : List UInt8} (h : Loc w g xs) (i : Nat) (b : UInt8) : Loc (w.setCell ⟨g, i, none⟩ (.int .u8 (b.toNat : Int))) g (xs.set i b) := by
  have h1 := Bk.set h i (.int .u8 (b.toNat : Int))
  unfold Loc
  have e : ((xs.map B8).toArray).setIfInBounds i (.int .u8 (b.toNat : Int)) = ((xs.set i b).map B8).toArray := by
    rw [List.setIfInBounds_toArray, List.map_set]; rfl
  rwa [e] at h1
theorem Loc.cell {w : World} {g : Nat} {xs : List UInt8} (h : Loc w g xs) (i : Nat) (hi : i < xs.length) : w.cell? ⟨g, i, none⟩ = some (.int .u8 (xs[i].toNat : Int)) := by
  rw [Bk.cell h i]; simp [hi, B8]
theorem Loc.new (w : World) (n : Nat) : Loc (w.alloc (.cells ((List.replicate n (0 : UInt8)).map B8).toArray 5)) w.heap.size (List.replicate n 0) := Bk.new _ _ _

/-- From world w on a disk was made and used; nothing that was there has turned. -/
structure RunF (w wi : World) (g : Nat) (s : DS) (F : Nat → Prop) : Prop where
  dsk : Dsk wi g s F
  low : ∀ k, F k → w.heap.size ≤ k
  fr : Fr (fun _ => False) w wi
theorem RunF.lt {w wi : World} {g : Nat} {s : DS} {F : Nat → Prop} (h : RunF w wi g s F) {k : Nat} (hk : F k) : k < wi.heap.size := h.dsk.lt hk
theorem RunF.new {w : World} {wi : World} {g : Nat} : wi.heap.size = g → ∀ {g' : Nat} {s : DS} {F : Nat → Prop}, RunF w wi g' s F → ¬ F g := fun e _ _ _ h hk => by have := h.lt hk; omega
theorem RunF.step {w w1 w2 : World} {g : Nat} {s s' : DS} {F : Nat → Prop} (h : RunF w w1 g s F) (k : DskTo w1 g F w2 s') : ∃ F', RunF w w2 g s' F' ∧ Fr F w1 w2 ∧ ∀ x, x < w1.heap.size → ¬ F x → ¬ F' x := by
  obtain ⟨F', h1, h2, h3⟩ := k
  refine ⟨F', ⟨h1, fun k hk => ?_, h.fr.trans h2 (fun x hx hF => ?_)⟩, h2, fun x hx hF hF' => ?_⟩
  · rcases h3 k hk with h4 | h4
    · exact h.low k h4
    · have := h.fr.size; omega
  · have := h.low x hF; omega
  · rcases h3 x hF' with h4 | h4
    · exact hF h4
    · omega
theorem RunF.on {w w1 w2 : World} {g : Nat} {s : DS} {F S : Nat → Prop} (h : RunF w w1 g s F) (hf : Fr S w1 w2) (hS : ∀ k, F k → ¬ S k) (hB : ∀ k, S k → w.heap.size ≤ k) : RunF w w2 g s F :=
  ⟨h.dsk.fr hf hS, h.low, h.fr.trans hf (fun x hx hs => by have := hB x hs; omega)⟩
theorem RunF.on0 {w w1 w2 : World} {g : Nat} {s : DS} {F : Nat → Prop} (h : RunF w w1 g s F) (hf : Fr (fun _ => False) w1 w2) : RunF w w2 g s F := h.on hf (fun _ _ h => h) (fun _ h => h.elim)

theorem Try.make64 : ∀ w : World, (Instr.makeSlice 32 (.int .i64 64) (.int .i64 64)).run Try.prog w = .ok (.slice (some ⟨w.heap.size, 0, none⟩) 64 64) (w.alloc (.cells ((List.replicate 64 (0 : UInt8)).map B8).toArray 5)) := by
  obtain ⟨cur, rfl, h⟩ := run_make8w Try.t8d .i64 .i64 64 (by omega)
  exact h

def Z64 : List UInt8 := List.replicate 64 0
def kA : List UInt8 := Z64.set 0 1
def kB : List UInt8 := Z64.set 0 2
def k0 : DS := DS.new 2 64
def k1 : DS := k0.write 0 kA
def k2 : DS := k1.write 0 kB
def k3 : DS := k2.cut [true]
def k4 : DS := k3.on
theorem kf0 : k0.q.length = 0 ∧ k0.writes = 0 ∧ k0.keep = [] := by decide +kernel
theorem kf1 : k1.q.length = 1 ∧ k1.writes = 1 ∧ k1.keep = [] := by decide +kernel
theorem kf2 : k2.q.length = 2 ∧ k2.err 0 = 0 ∧ k2.sz = 64 ∧ (k2.read 0).length = 64 ∧ (k2.read 0)[0]? = some 2 := by decide +kernel
theorem kf3 : k3.q.length = 0 ∧ k3.err 0 = 5 := by decide +kernel
theorem kf4 : k4.q.length = 0 ∧ k4.err 0 = 0 ∧ k4.sz = 64 ∧ (k4.read 0).length = 64 ∧ (k4.read 0)[0]? = some 1 := by decide +kernel

theorem k0_new (w : World) :
    Calls Try.prog 10 #[.int .i64 2, .int .i64 64] w fun e w' => ∃ g F, e = .returned (.tuple #[.pointer (some ⟨g, 0, none⟩), .int .i64 0]) ∧ RunF w w' g k0 F := by
  refine (new_any 2 64 w (by omega) (by omega) (by omega) (by omega)).mono ?_
  rintro e w1 ⟨g, F, rfl, h1, h2, h3⟩
  exact ⟨g, F, rfl, h1, h2, h3⟩
/-- A write to a disk that a law runs. -/
theorem RunF.write {w w1 : World} {g : Nat} {s : DS} {F : Nat → Prop} (h : RunF w w1 g s F) (hq : s.q.length ≤ 1048575) (hw : (s.writes : Int) ≤ 4611686018427387904) (hk : s.keep.length ≤ 140737488355328) (x : Int) (A : Option Addr) (n c : Nat) (bs : List UInt8) (hr : Rd8 w1 A bs) (hn : bs.length = n)
    (hap : ∀ ad, A = some ad → 0 < bs.length → ¬ F ad.block) :
    Calls Try.prog 12 #[.pointer (some ⟨g, 0, none⟩), .int .i64 x, .slice A n c] w1 fun e w' => e = .returned (.int .i64 (s.wErr x bs)) ∧ ∃ F', RunF w w' g (s.write x bs) F' ∧ Fr F w1 w' ∧ ∀ x, x < w1.heap.size → ¬ F x → ¬ F' x :=
  (write_any h.dsk hq hw hk x A n c bs hr hn hap).mono fun _ _ ⟨he, hd⟩ => ⟨he, h.step hd⟩
theorem RunF.writeL {w w1 : World} {g : Nat} {s : DS} {F : Nat → Prop} (h : RunF w w1 g s F) (hq : s.q.length ≤ 1048575) (hw : (s.writes : Int) ≤ 4611686018427387904) (hk : s.keep.length ≤ 140737488355328) (x : Int) (k n c : Nat) (bs : List UInt8) (hr : Loc w1 k bs) (hn : bs.length = n) (hap : ¬ F k) :
    Calls Try.prog 12 #[.pointer (some ⟨g, 0, none⟩), .int .i64 x, .slice (some ⟨k, 0, none⟩) n c] w1 fun e w' => e = .returned (.int .i64 (s.wErr x bs)) ∧ ∃ F', RunF w w' g (s.write x bs) F' ∧ Fr F w1 w' ∧ ∀ x, x < w1.heap.size → ¬ F x → ¬ F' x :=
  h.write hq hw hk x _ n c bs hr.rd hn (fun ad e _ => by injection e with e; subst e; exact hap)
/-- What a read hands out. -/
theorem RunF.read {w w1 : World} {g : Nat} {s : DS} {F : Nat → Prop} (h : RunF w w1 g s F) (hq : s.q.length ≤ 1048576) (x : Nat) (he : s.err x = 0) :
    Calls Try.prog 25 #[.pointer (some ⟨g, 0, none⟩), .int .i64 (x : Int)] w1 fun e w' => ∃ k c', e = .returned (.tuple #[.slice (some ⟨k, 0, none⟩) s.sz c', .int .i64 0]) ∧ Own8 w' 5 (.slice (some ⟨k, 0, none⟩) s.sz c') (s.read x) ∧ RunF w w' g s F ∧ Fr (fun _ => False) w1 w' ∧ w1.heap.size ≤ k := by
  have hl := s.read_len h.dsk.ok (x := x) (by have := (DS.err_in he).2.2; omega)
  have hs := h.dsk.ok.s0
  refine (read_ok h.dsk hq x he).mono ?_
  rintro e w2 ⟨A', c', rfl, ho, hf⟩
  rcases ho.form with ⟨e1, e2⟩ | ⟨k, cap, e1, _, _⟩
  · rw [e2] at hl; simp at hl; omega
  · injection e1 with e1 e2 e3
    subst e1
    exact ⟨k, c', rfl, ho, h.on0 hf.1, hf.1, hf.2 k rfl⟩

theorem RunF.cut {w w1 : World} {g : Nat} {s : DS} {F : Nat → Prop} (h : RunF w w1 g s F) (hq : s.q.length ≤ 1048576) (A : Option Addr) (n c : Nat) (xs : List Bool) (hr : RdB w1 A xs) (hn : xs.length = n) (hb : n ≤ 140737488355328) (hap : ∀ ad, A = some ad → 0 < xs.length → ¬ F ad.block) :
    Calls Try.prog 19 #[.pointer (some ⟨g, 0, none⟩), .slice A n c] w1 fun e w' => e = .returned (.tuple #[]) ∧ ∃ F', RunF w w' g (s.cut xs) F' ∧ Fr F w1 w' ∧ ∀ x, x < w1.heap.size → ¬ F x → ¬ F' x :=
  (cut_any h.dsk hq A n c xs hr hn hb hap).mono fun _ _ ⟨he, hd⟩ => ⟨he, h.step hd⟩
theorem RunF.onC {w w1 : World} {g : Nat} {s : DS} {F : Nat → Prop} (h : RunF w w1 g s F) :
    Calls Try.prog 21 #[.pointer (some ⟨g, 0, none⟩)] w1 fun e w' => e = .returned (.tuple #[]) ∧ ∃ F', RunF w w' g s.on F' ∧ Fr F w1 w' ∧ ∀ x, x < w1.heap.size → ¬ F x → ¬ F' x :=
  (on_any h.dsk).mono fun _ _ ⟨he, hd⟩ => ⟨he, h.step hd⟩
theorem rdB_one (w : World) (b : Bool) : RdB (w.alloc (.cells #[.bool b] 4)) (some ⟨w.heap.size, 0, none⟩) [b] := fun _ => by
  refine ⟨_, rfl, rfl, fun j hj => ?_⟩
  have : j = 0 := by simpa using hj
  subst this
  exact (Bk.new w 4 #[.bool b]).cell 0
theorem Loc.of {w : World} {g : Nat} {cs : Array Value} {xs : List UInt8} (h : Bk w g 5 cs) (e : cs = (xs.map B8).toArray) : Loc w g xs := by subst e; exact h
theorem Try.make64c : ∃ cur : Array Value, Hid (cur = (Z64.map B8).toArray) ∧ (∀ j, j < 64 → cur[j]? = some (.int .u8 0)) ∧ cur.size = 64 ∧
    ∀ w : World, (Instr.makeSlice 32 (.int .i64 64) (.int .i64 64)).run Try.prog w = .ok (.slice (some ⟨w.heap.size, 0, none⟩) 64 64) (w.alloc (.cells cur 5)) := by
  refine ⟨_, Lib.hid rfl, fun j hj => ?_, by simp [Z64], Try.make64⟩
  simp only [Z64, List.map_replicate, List.getElem?_toArray]
  rw [List.getElem?_replicate_of_lt hj]; rfl
theorem cur_set {cur : Array Value} (h : cur = (Z64.map B8).toArray) (i : Nat) (b : UInt8) : cur.setIfInBounds i (.int .u8 (b.toNat : Int)) = ((Z64.set i b).map B8).toArray := by
  subst h; rw [List.setIfInBounds_toArray, List.map_set]; rfl
theorem read_at {s : DS} {x i : Nat} {b : UInt8} (h : (s.read x)[i]? = some b) {w : World} {k n c : Nat} (ho : Own8 w 5 (.slice (some ⟨k, 0, none⟩) n c) (s.read x)) : w.cell? ⟨k, i, none⟩ = some (.int .u8 (b.toNat : Int)) := by
  obtain ⟨hi, e⟩ := List.getElem?_eq_some_iff.1 h
  rw [Own8.cell ho i hi, e]

set_option maxRecDepth 100000 in
set_option maxHeartbeats 4000000 in
theorem known_any (w : World) :
    Calls Try.prog 8 #[] w fun e w' => e = .returned (.bool true) ∧ Fr (fun _ => False) w w' := by
  obtain ⟨cur, HC, hj, hsz, hmk⟩ := Try.make64c
  have hc0 := hj 0 (by omega)
  clear hj
  go_enter Try.func8, Try.ntmps8
  go_wp2_with fail
  refine (k0_new w).mono ?_; rintro e w1 ⟨g, F, rfl, h1⟩
  have H1 := Lib.hid h1
  clear h1
  go_wp2_with fail
  have LA : Loc ((w1.alloc (.cells (cur.setIfInBounds 0 (.int .u8 1)) 5)).alloc (.cells (cur.setIfInBounds 0 (.int .u8 2)) 5)) w1.heap.size kA := Loc.of ((Bk.new w1 _ _).alloc _) (cur_set HC.out 0 1)
  have LB : Loc ((w1.alloc (.cells (cur.setIfInBounds 0 (.int .u8 1)) 5)).alloc (.cells (cur.setIfInBounds 0 (.int .u8 2)) 5)) (w1.heap.size + 1) kB := by
    have h := Bk.new (w1.alloc (.cells (cur.setIfInBounds 0 (.int .u8 1)) 5)) 5 (cur.setIfInBounds 0 (.int .u8 2))
    rw [show (w1.alloc (.cells (cur.setIfInBounds 0 (.int .u8 1)) 5)).heap.size = w1.heap.size + 1 by simp] at h
    exact Loc.of h (cur_set HC.out 0 2)
  have R0 : RunF w ((w1.alloc (.cells (cur.setIfInBounds 0 (.int .u8 1)) 5)).alloc (.cells (cur.setIfInBounds 0 (.int .u8 2)) 5)) g k0 F := H1.out.on0 (((Fr.refl _ _).alloc _).alloc _)
  have nA : ¬ F w1.heap.size := fun h => by have := H1.out.lt h; omega
  have nB : ¬ F (w1.heap.size + 1) := fun h => by have := H1.out.lt h; omega
  generalize ((w1.alloc (.cells (cur.setIfInBounds 0 (.int .u8 1)) 5)).alloc (.cells (cur.setIfInBounds 0 (.int .u8 2)) 5)) = w2 at *
  generalize w1.heap.size = kA1 at *
  generalize kA1 + 1 = kB1 at *
  clear hmk hc0 hsz H1
  have C1 := Lib.hid (R0.writeL (by rw [kf0.1]; omega) (by rw [kf0.2.1]; omega) (by rw [kf0.2.2]; simp) 0 kA1 64 64 kA LA (by decide +kernel) nA)
  have HLB := Lib.hid LB
  have HnB := Lib.hid nB
  have zB := LB.lt
  have HzB := Lib.hid zB
  clear R0 LA LB nA nB zB HC
  refine C1.out.mono ?_; rintro e w3 ⟨rfl, F3, R3, f3, n3⟩
  have HR3 := Lib.hid (show RunF w w3 g k1 F3 from R3)
  have HLB3 := Lib.hid (show Loc w3 kB1 kB from HLB.out.fr f3 HnB.out)
  have HnB3 := Lib.hid (n3 _ HzB.out HnB.out)
  clear C1 R3 f3 n3 HLB HnB HzB
  generalize k0.wErr 0 kA = z1 at *
  have C2 := Lib.hid (HR3.out.writeL (by rw [kf1.1]; omega) (by rw [kf1.2.1]; omega) (by rw [kf1.2.2]; simp) 0 kB1 64 64 kB HLB3.out (by decide +kernel) HnB3.out)
  go_wp2_with fail
  refine C2.out.mono ?_; rintro e w4 ⟨rfl, F4, R4, f4, n4⟩
  have HR4 := Lib.hid (show RunF w w4 g k2 F4 from R4)
  clear C2 R4 f4 n4 HR3 HLB3 HnB3
  generalize k1.wErr 0 kB = z2 at *
  have C3 := Lib.hid (HR4.out.read (by rw [kf2.1]; omega) 0 kf2.2.1)
  rw [kf2.2.2.1] at C3
  go_wp2_with fail
  refine C3.out.mono ?_; rintro e w5 ⟨k5, c5, rfl, o5, R5, f5, n5⟩
  have HR5 := Lib.hid R5
  have HO5 := Lib.hid o5
  have hz5 := o5.lt (k := k5) rfl
  have HN5 := Lib.hid (show ¬ F4 k5 from fun h => by have := HR4.out.lt h; omega)
  have HZ5 := Lib.hid hz5
  clear C3 R5 o5 f5 n5 hz5 HR4
  go_wp2_with fail
  have R6 : RunF w (w5.alloc (.cells #[.bool true] 4)) g k2 F4 := HR5.out.on0 ((Fr.refl _ _).alloc _)
  have C4 := Lib.hid (R6.cut (by rw [kf2.1]; omega) _ 1 1 [true] (rdB_one w5 true) rfl (by omega) (fun ad e _ h => by injection e with e; subst e; have := HR5.out.lt h; simp at this))
  have HO6 := Lib.hid (HO5.out.fr (Fr.alloc (Fr.refl (fun _ => False) w5) (.cells #[.bool true] 4)) (fun _ _ h => h))
  have HZ6 := Lib.hid (show k5 < (w5.alloc (.cells #[.bool true] 4)).heap.size by have := HZ5.out; simp; omega)
  clear R6 HR5 HO5 HZ5
  generalize w5.alloc (.cells #[.bool true] 4) = w6 at *
  refine C4.out.mono ?_; rintro e w7 ⟨rfl, F7, R7, f7, n7⟩
  have HR7 := Lib.hid (show RunF w w7 g k3 F7 from R7)
  have HO7 := Lib.hid (HO6.out.fr f7 (fun k hk h => by
    have : k5 = k := by simpa [Value.ownBlock] using hk
    subst this; exact HN5.out h))
  have HN7 := Lib.hid (n7 _ HZ6.out HN5.out)
  have HZ7 := Lib.hid (Nat.lt_of_lt_of_le HZ6.out f7.size)
  clear C4 R7 f7 n7 HO6 HN5 HZ6
  have C5 := Lib.hid (read_err HR7.out.dsk 0 (by rw [kf3.2]; decide))
  rw [kf3.2] at C5
  go_wp2_with fail
  refine C5.out.mono ?_; rintro e w8 ⟨rfl, rfl⟩
  clear C5
  have C6 := Lib.hid HR7.out.onC
  go_wp2_with fail
  refine C6.out.mono ?_; rintro e w8 ⟨rfl, F8, R8, f8, n8⟩
  have HR8 := Lib.hid (show RunF w w8 g k4 F8 from R8)
  have HO8 := Lib.hid (HO7.out.fr f8 (fun k hk h => by
    have : k5 = k := by simpa [Value.ownBlock] using hk
    subst this; exact HN7.out h))
  clear C6 R8 f8 n8 HR7 HO7 HN7 HZ7
  have C7 := Lib.hid (HR8.out.read (by rw [kf4.1]; omega) 0 kf4.2.1)
  rw [kf4.2.2.1] at C7
  go_wp2_with fail
  refine C7.out.mono ?_; rintro e w9 ⟨k9, c9, rfl, o9, R9, f9, n9⟩
  have x1 : w9.cell? ⟨k5, 0, none⟩ = some (.int .u8 2) := read_at (s := k2) kf2.2.2.2.2 (HO8.out.fr f9 (fun _ _ h => h))
  have x2 : w9.cell? ⟨k9, 0, none⟩ = some (.int .u8 1) := read_at (s := k4) kf4.2.2.2.2 o9
  have HF9 := Lib.hid R9.fr
  clear C7 o9 R9 f9 n9 HR8 HO8
  go_wp2
  go_ret
  exact ⟨rfl, HF9.out⟩
end Go.Proofs.Ytnkkdpmmnenncaa
