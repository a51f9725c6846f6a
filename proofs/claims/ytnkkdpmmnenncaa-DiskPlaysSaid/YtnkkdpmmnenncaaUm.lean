/- The walk of DiskOwn. -/
import Derived.Test.YtnkkdpmmnenncaaUl
namespace Go.Proofs.Ytnkkdpmmnenncaa
open Go.RowKit Go.Maps

theorem RunF.sync {w w1 : World} {g : Nat} {s : DS} {F : Nat → Prop} (h : RunF w w1 g s F) (hq : s.q.length ≤ 1048576) :
    Calls Try.prog 15 #[.pointer (some ⟨g, 0, none⟩)] w1 fun e w' => e = .returned (.int .i64 (syncE s)) ∧ ∃ F', RunF w w' g (syncS s) F' ∧ Fr F w1 w' ∧ ∀ x, x < w1.heap.size → ¬ F x → ¬ F' x :=
  (sync_any h.dsk hq).mono fun _ _ ⟨he, hd⟩ => ⟨he, h.step hd⟩
theorem RunF.bytes {w w1 : World} {g : Nat} {s : DS} {F : Nat → Prop} (h : RunF w w1 g s F) :
    Calls Try.prog 24 #[.pointer (some ⟨g, 0, none⟩)] w1 fun e w' => ∃ k c', e = .returned (.slice (some ⟨k, 0, none⟩) (s.N * s.sz) c') ∧ Own8 w' 5 (.slice (some ⟨k, 0, none⟩) (s.N * s.sz) c') s.kept ∧ RunF w w' g s F ∧ Fr (fun _ => False) w1 w' ∧ w1.heap.size ≤ k := by
  have hl := h.dsk.ok.klen
  have hp : 1 * 64 ≤ s.N * s.sz := Nat.mul_le_mul h.dsk.ok.n0 h.dsk.ok.s0
  refine (bytes_any h.dsk).mono ?_
  rintro e w2 ⟨A', c', rfl, ho, hf⟩
  rcases ho.form with ⟨e1, e2⟩ | ⟨k, cap, e1, _, _⟩
  · rw [e2] at hl; simp at hl; omega
  · injection e1 with e1 e2 e3
    subst e1
    exact ⟨k, c', rfl, ho, h.on0 hf.1, hf.1, hf.2 k rfl⟩
/-- A store into a row that a law was handed. -/
theorem RunF.put {w w1 : World} {g : Nat} {s : DS} {F : Nat → Prop} (h : RunF w w1 g s F) {k : Nat} (hk : ¬ F k) (hB : w.heap.size ≤ k) (p : Nat) (u : Value) : RunF w (w1.setCell ⟨k, p, none⟩ u) g s F :=
  h.on (S := fun x => x = k) (Bk.fr_set p u) (fun x hx e => hk (e ▸ hx)) (fun x e => by rw [e]; exact hB)
theorem Own8.fz {w : World} {e : TypeId} {k n c : Nat} {xs : List UInt8} (h : Own8 w e (.slice (some ⟨k, 0, none⟩) n c) xs) (i : Nat) : w.frozen? ⟨k, i, none⟩ = false := by
  obtain ⟨cur, hb⟩ := h.bk (k := k) rfl
  exact hb.frozen i

def oB (f : UInt8) : List UInt8 := Z64.set 3 f
def o1 (f : UInt8) : DS := k0.write 1 (oB f)
def o2 (f : UInt8) : DS := syncS (o1 f)
theorem oB_len (f : UInt8) : (oB f).length = 64 := by simp [oB, Z64]
theorem o1_eq (f : UInt8) : o1 f = k0.add 1 (oB f) := (write_add (by decide +kernel) (by rw [oB_len]; decide +kernel) (by decide +kernel)).2
theorem of1 (f : UInt8) : (o1 f).q.length = 1 ∧ (o1 f).err 1 = 0 ∧ (o1 f).sz = 64 ∧ (o1 f).read 1 = oB f := by rw [o1_eq]; exact ⟨rfl, by rfl, rfl, rfl⟩
theorem oB_at (f : UInt8) : (oB f)[3]? = some f := rfl
theorem of2 (f : UInt8) : (o2 f).q.length = 0 ∧ (o2 f).err 1 = 0 ∧ (o2 f).sz = 64 ∧ (o2 f).N * (o2 f).sz = 128 ∧ (o2 f).kept[67]? = some f ∧ ((o2 f).read 1)[3]? = some f := by
  unfold o2; rw [o1_eq]; exact ⟨rfl, rfl, rfl, rfl, rfl, rfl⟩

set_option maxRecDepth 100000 in
set_option maxHeartbeats 4000000 in
theorem own_any (f t : UInt8) (w : World) :
    Calls Try.prog 7 #[.int .u8 (f.toNat : Int), .int .u8 (t.toNat : Int)] w fun e w' => e = .returned (.bool true) ∧ Fr (fun _ => False) w w' := by
  obtain ⟨cur, HC, hj, hsz, hmk⟩ := Try.make64c
  have hc3 := hj 3 (by omega)
  have HL := Lib.hid (fun x (hx : x < 64) => hx)
  clear hj HL
  have hfb : (f.toNat : Int) ≤ 255 := by have := f.toNat_lt; omega
  have htb : (t.toNat : Int) ≤ 255 := by have := t.toNat_lt; omega
  go_enter Try.func7, Try.ntmps7
  go_wp2_with fail
  refine (known_any w).mono ?_; rintro e w0 ⟨rfl, hf0⟩
  go_wp2_with fail
  refine (k0_new w0).mono ?_; rintro e w1 ⟨g, F, rfl, h1⟩
  have H1 := Lib.hid (show RunF w w1 g k0 F from ⟨h1.dsk, fun k hk => Nat.le_trans hf0.size (h1.low k hk), hf0.trans h1.fr (fun _ _ h => h)⟩)
  clear h1 hf0
  go_wp2_with fail
  have LA : Loc (w1.alloc (.cells (cur.setIfInBounds 3 (.int .u8 (f.toNat : Int))) 5)) w1.heap.size (oB f) := Loc.of (Bk.new w1 _ _) (cur_set HC.out 3 f)
  have R0 : RunF w (w1.alloc (.cells (cur.setIfInBounds 3 (.int .u8 (f.toNat : Int))) 5)) g k0 F := H1.out.on0 ((Fr.refl _ _).alloc _)
  have nA : ¬ F w1.heap.size := fun h => by have := H1.out.lt h; omega
  have bA : w.heap.size ≤ w1.heap.size := H1.out.fr.size
  generalize w1.alloc (.cells (cur.setIfInBounds 3 (.int .u8 (f.toNat : Int))) 5) = w2 at *
  generalize w1.heap.size = kA1 at *
  clear hmk hc3 hsz H1 HC
  have C1 := Lib.hid (R0.writeL (by rw [kf0.1]; omega) (by rw [kf0.2.1]; omega) (by rw [kf0.2.2]; simp) 1 kA1 64 64 (oB f) LA (oB_len f) nA)
  have HLA := Lib.hid LA
  have HnA := Lib.hid nA
  clear R0 LA nA
  refine C1.out.mono ?_; rintro e w3 ⟨rfl, F3, R3, f3, n3⟩
  have HR3 := Lib.hid (show RunF w w3 g (o1 f) F3 from R3)
  have LA3 := HLA.out.fr f3 HnA.out
  have x3 : w3.cell? ⟨kA1, 3, none⟩ = some (.int .u8 (f.toNat : Int)) := Loc.cell (xs := oB f) LA3 3 (by rw [oB_len]; omega)
  have y3 : w3.frozen? ⟨kA1, 3, none⟩ = false := LA3.frozen 3
  have HN3 := Lib.hid (n3 _ HLA.out.lt HnA.out)
  have HBA := Lib.hid bA
  clear C1 R3 f3 n3 HLA HnA LA3 bA
  generalize k0.wErr 1 (oB f) = z1 at *
  have C3 := Lib.hid (fun u => (HR3.out.put HN3.out HBA.out 3 u).read (by rw [(of1 f).1]; omega) 1 (of1 f).2.1)
  rw [(of1 f).2.2.1, (of1 f).2.2.2] at C3
  have HSZ := Lib.hid (fun u => show w3.heap.size = (w3.setCell ⟨kA1, 3, none⟩ u).heap.size by simp [World.setCell])
  go_wp2_with fail
  refine (C3.out _).mono ?_; rintro e w5 ⟨k5, c5, rfl, o5, R5, f5, n5⟩
  have HR5 := Lib.hid R5
  have HN5 := Lib.hid (show ¬ F3 k5 from fun h => by have := HR3.out.lt h; have := HSZ.out (.int .u8 (bits BinOp.xor IntKind.u8 f.toNat t.toNat)); omega)
  have HB5 := Lib.hid (show w.heap.size ≤ k5 from by have := HR3.out.fr.size; have := HSZ.out (.int .u8 (bits BinOp.xor IntKind.u8 f.toNat t.toNat)); omega)
  have x5 : w5.cell? ⟨k5, 3, none⟩ = some (.int .u8 (f.toNat : Int)) := by
    have h := Own8.cell (bs := oB f) o5 3 (by rw [oB_len]; omega)
    exact h
  have y5 : w5.frozen? ⟨k5, 3, none⟩ = false := o5.fz 3
  clear C3 R5 o5 f5 n5 HR3 HN3 HBA x3 y3 HSZ
  have C4 := Lib.hid (fun u => (HR5.out.put HN5.out HB5.out 3 u).sync (by rw [(of1 f).1]; omega))
  go_wp2_with fail
  refine (C4.out _).mono ?_; rintro e w6 ⟨rfl, F6, R6, f6, n6⟩
  have HR6 := Lib.hid (show RunF w w6 g (o2 f) F6 from R6)
  clear C4 R6 f6 n6 HR5 HN5 HB5 x5 y5
  have C5 := Lib.hid HR6.out.bytes
  rw [(of2 f).2.2.2.1] at C5
  generalize syncE (o1 f) = z2 at *
  go_wp2_with fail
  refine C5.out.mono ?_; rintro e w7 ⟨k7, c7, rfl, o7, R7, f7, n7⟩
  have HR7 := Lib.hid R7
  have HN7 := Lib.hid (show ¬ F6 k7 from fun h => by have := HR6.out.lt h; omega)
  have HB7 := Lib.hid (show w.heap.size ≤ k7 from by have := HR6.out.fr.size; omega)
  have x7 : w7.cell? ⟨k7, 67, none⟩ = some (.int .u8 (f.toNat : Int)) := by
    obtain ⟨hi, e⟩ := List.getElem?_eq_some_iff.1 (of2 f).2.2.2.2.1
    rw [Own8.cell o7 67 hi, e]
  have y7 : w7.frozen? ⟨k7, 67, none⟩ = false := o7.fz 67
  clear C5 R7 o7 f7 n7 HR6
  have C6 := Lib.hid (fun u => (HR7.out.put HN7.out HB7.out 67 u).read (by rw [(of2 f).1]; omega) 1 (of2 f).2.1)
  rw [(of2 f).2.2.1] at C6
  go_wp2_with fail
  refine (C6.out _).mono ?_; rintro e w9 ⟨k9, c9, rfl, o9, R9, f9, n9⟩
  have x9 : w9.cell? ⟨k9, 3, none⟩ = some (.int .u8 (f.toNat : Int)) := read_at (s := o2 f) (of2 f).2.2.2.2.2 o9
  have HF9 := Lib.hid R9.fr
  clear C6 o9 R9 f9 n9 HR7 HN7 HB7 x7 y7
  go_wp2
  go_ret
  exact ⟨rfl, HF9.out⟩
end Go.Proofs.Ytnkkdpmmnenncaa
