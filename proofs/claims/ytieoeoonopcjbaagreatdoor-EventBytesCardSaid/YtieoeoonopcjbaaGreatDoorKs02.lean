import Derived.Test.YtieoeoonopcjbaaGreatDoorKs01
import Derived.Deep.RegionHeld3
import Derived.StillTailTactics

/- errors.As, at an Errno and a *Errno. -/
namespace Go.Proofs.YtieoeoonopcjbaaGreatDoor
open Go.RowKit Go.Extern.Stop Go.Stop Go.Extern

def hdl (t : TypeId) : Value := .pointer (some ⟨6, t, none⟩)

theorem Tryz.asValueOfP (t : Addr) (w : World) : (callFunc 101 #[.iface 251 (.pointer (some t))]).run Tryz.prog w
    = .ok (.value (.agg #[.pointer (some ⟨6, 251, none⟩), .pointer (some ⟨w.heap.size, 0, none⟩), .int .u64 150])) (w.alloc (.cells #[.pointer (some t)] 251)) := by kernel_rfl
theorem Tryz.asTypeP (a : Addr) (w : World) : (callFunc 102 #[.agg #[.pointer (some ⟨6, 251, none⟩), .pointer (some a), .int .u64 150]]).run Tryz.prog w
    = .ok (.value (.iface 217 (.agg #[.pointer (some ⟨6, 251, none⟩)]))) w := by kernel_rfl
theorem Tryz.asMethodKind (h : Value) (w : World) : (Go.method (299 + 100) 217 (.agg #[h]) "Kind").run Tryz.prog w = .ok (214, h) w := by kernel_rfl
theorem Tryz.asKindP (w : World) : (callFunc 214 #[.pointer (some ⟨6, 251, none⟩)]).run Tryz.prog w = .ok (.value (.int .u8 22)) w := by kernel_rfl
theorem Tryz.asKindN (w : World) : (callFunc 214 #[.pointer (some ⟨6, 43, none⟩)]).run Tryz.prog w = .ok (.value (.int .u8 2)) w := by kernel_rfl
theorem Tryz.asMethodElem (h : Value) (w : World) : (Go.method (299 + 100) 217 (.agg #[h]) "Elem").run Tryz.prog w = .ok (225, .agg #[h]) w := by kernel_rfl
theorem Tryz.asMethodImplements (h : Value) (w : World) : (Go.method (299 + 100) 217 (.agg #[h]) "Implements").run Tryz.prog w = .ok (226, .agg #[h]) w := by kernel_rfl
theorem Tryz.asMethodAssignable (h : Value) (w : World) : (Go.method (299 + 100) 217 (.agg #[h]) "AssignableTo").run Tryz.prog w = .ok (223, .agg #[h]) w := by kernel_rfl
theorem Tryz.asElemP (w : World) : (callFunc 225 #[.agg #[.pointer (some ⟨6, 251, none⟩)]]).run Tryz.prog w = .ok (.value (.iface 217 (.agg #[.pointer (some ⟨6, 43, none⟩)]))) w := by kernel_rfl
theorem Tryz.asImplementsN (w : World) : (callFunc 226 #[.agg #[.pointer (some ⟨6, 43, none⟩)], .iface 217 (.agg #[.pointer (some ⟨6, 27, none⟩)])]).run Tryz.prog w = .ok (.value (.bool true)) w := by kernel_rfl
theorem Tryz.asAssignableN (w : World) : (callFunc 223 #[.agg #[.pointer (some ⟨6, 43, none⟩)], .iface 217 (.agg #[.pointer (some ⟨6, 43, none⟩)])]).run Tryz.prog w = .ok (.value (.bool true)) w := by kernel_rfl
theorem Tryz.asValueOfN (k : Int) (w : World) : (callFunc 101 #[.iface 43 (.int .i64 k)]).run Tryz.prog w
    = .ok (.value (.agg #[.pointer (some ⟨6, 43, none⟩), .pointer (some ⟨w.heap.size, 0, none⟩), .int .u64 130])) (w.alloc (.cells #[.int .i64 k] 43)) := by kernel_rfl

theorem Tryz.asPartsP (a : Addr) (w : World) : (ReflectliteValue.parts (.agg #[.pointer (some ⟨6, 251, none⟩), .pointer (some a), .int .u64 150])).run Tryz.prog w = .ok (some (251, a, 150)) w := by kernel_rfl
theorem Tryz.asPartsN (a : Addr) (w : World) : (ReflectliteValue.parts (.agg #[.pointer (some ⟨6, 43, none⟩), .pointer (some a), .int .u64 386])).run Tryz.prog w = .ok (some (43, a, 386)) w := by kernel_rfl
theorem Tryz.asPartsM (a : Addr) (w : World) : (ReflectliteValue.parts (.agg #[.pointer (some ⟨6, 43, none⟩), .pointer (some a), .int .u64 130])).run Tryz.prog w = .ok (some (43, a, 130)) w := by kernel_rfl
theorem Tryz.asElemOf (w : World) : (Rtype.elem? 251).run Tryz.prog w = .ok (some 43) w := by kernel_rfl
theorem Tryz.asMk (p : Addr) (w : World) : (ReflectliteValue.mk 43 p ReflectliteValue.flagAddr).run Tryz.prog w = .ok (.agg #[.pointer (some ⟨6, 43, none⟩), .pointer (some p), .int .u64 386]) w := by kernel_rfl
theorem Tryz.asDirect (w : World) : (Rtype.directlyAssignable 43 43).run Tryz.prog w = .ok true w := by kernel_rfl

theorem Tryz.asIsNil (a p : Addr) (W : World) (ha : W.cell? a = some (.pointer (some p))) :
    (callFunc 103 #[.agg #[.pointer (some ⟨6, 251, none⟩), .pointer (some a), .int .u64 150]]).run Tryz.prog W = .ok (.value (.bool false)) W := by
  rw [@run_callFunc_extern Tryz.prog 103 _ (ReflectliteValue.method (ReflectliteValue.valueError "reflectlite.Value.IsNil" 0) ReflectliteValue.isNil) Tryz.func103 (by kernel_rfl) (by kernel_rfl) (by kernel_rfl) (by kernel_rfl)]
  change (Sem.run _ (ReflectliteValue.parts (.agg #[.pointer (some ⟨6, 251, none⟩), .pointer (some a), .int .u64 150]) >>= _) _).andThen _ = _
  simp only [Sem.run_bind, Tryz.asPartsP, Result.andThen]
  simp [ReflectliteValue.isNil, loadVar, isAgg, underlying, Tryz.underlying251, ha, Result.andThen]
theorem Tryz.asElemV (a p : Addr) (W : World) (ha : W.cell? a = some (.pointer (some p))) :
    (callFunc 158 #[.agg #[.pointer (some ⟨6, 251, none⟩), .pointer (some a), .int .u64 150]]).run Tryz.prog W = .ok (.value (.agg #[.pointer (some ⟨6, 43, none⟩), .pointer (some p), .int .u64 386])) W := by
  rw [@run_callFunc_extern Tryz.prog 158 _ (ReflectliteValue.method (ReflectliteValue.valueError "reflectlite.Value.Elem" 0) ReflectliteValue.elem) Tryz.func158 (by kernel_rfl) (by kernel_rfl) (by kernel_rfl) (by kernel_rfl)]
  change (Sem.run _ (ReflectliteValue.parts (.agg #[.pointer (some ⟨6, 251, none⟩), .pointer (some a), .int .u64 150]) >>= _) _).andThen _ = _
  simp only [Sem.run_bind, Tryz.asPartsP, Result.andThen]
  simp [ReflectliteValue.elem, loadVar, isAgg, underlying, Tryz.underlying251, ha, Result.andThen, Tryz.asElemOf, Tryz.asMk]
theorem Tryz.asSet (ta b : Addr) (k : Int) (old : Value) (W : World) (hb : W.cell? b = some (.int .i64 k)) (ht : W.cell? ta = some old) (hf : W.frozen? ta = false) :
    (callFunc 159 #[.agg #[.pointer (some ⟨6, 43, none⟩), .pointer (some ta), .int .u64 386], .agg #[.pointer (some ⟨6, 43, none⟩), .pointer (some b), .int .u64 130]]).run Tryz.prog W
      = .ok (.value (.tuple #[])) (W.setCell ta (.int .i64 k)) := by
  rw [@run_callFunc_extern Tryz.prog 159 _ ReflectliteValue.set Tryz.func159 (by kernel_rfl) (by kernel_rfl) (by kernel_rfl) (by kernel_rfl)]
  change (Sem.run _ (ReflectliteValue.parts (.agg #[.pointer (some ⟨6, 43, none⟩), .pointer (some ta), .int .u64 386]) >>= fun _ => ReflectliteValue.parts (.agg #[.pointer (some ⟨6, 43, none⟩), .pointer (some b), .int .u64 130]) >>= fun _ => _) _).andThen _ = _
  simp only [Sem.run_bind, Tryz.asPartsN, Tryz.asPartsM, Result.andThen]
  simp [ReflectliteValue.flagAddr, loadVar, isAgg, underlying, Tryz.underlying43, hb, Result.andThen, Tryz.asDirect, storeVar, Value.cells, storeCells, Addr.add]
  rw [run_store Tryz.prog W ta _ _ (by rfl)]
  simp [ht, hf]
end Go.Proofs.YtieoeoonopcjbaaGreatDoor

/- errors.As, the walk; what a step of a reader panicked with. -/
namespace Go.Proofs.YtieoeoonopcjbaaGreatDoor
open Go.RowKit Go.Extern.Stop Go.Stop Go.Extern

set_option maxRecDepth 100000 in
set_option maxHeartbeats 4000000 in
theorem as_errno (t : Addr) (k : Int) (old : Value) (w : World) (hg : w.cell? ⟨0, 0, none⟩ = some (.iface 217 (.agg #[.pointer (some ⟨6, 27, none⟩)]))) (ht0 : w.cell? t = some old) (hf0 : w.frozen? t = false) :
    Calls Tryz.prog 31 #[.iface 43 (.int .i64 k), .iface 251 (.pointer (some t))] w fun ev w' => ev = .returned (.bool true) ∧ Fr (fun x => x = t.block) w w' ∧ w'.cell? t = some (.int .i64 k) := by
  have tO := Tryz.isTypeOfN
  have mA := Tryz.asMethodAssignable
  have a25 := Tryz.asAssignableN
  have v25 := Tryz.asValueOfN
  have f6 := Tryz.asValueOfP
  have f7 := Tryz.asTypeP
  have mK := Tryz.asMethodKind
  have mE := Tryz.asMethodElem
  have mI := Tryz.asMethodImplements
  have k27 := Tryz.asKindP
  have k25 := Tryz.asKindN
  have e27 := Tryz.asElemP
  have i25 := Tryz.asImplementsN
  have htl : t.block < w.heap.size := World.block_lt_of_cell? w _ ht0
  have hlt : 0 < w.heap.size := World.block_lt_of_cell? w _ hg
  have n8 := Tryz.asIsNil ⟨w.heap.size, 0, none⟩ t ((w.alloc (.cells #[.pointer (some t)] 251)).alloc (.cells #[.pointer (some ⟨6, 251, none⟩), .pointer (some ⟨w.heap.size, 0, none⟩), .int .u64 150] 164)) (by simp)
  have hg2 : ((w.alloc (.cells #[.pointer (some t)] 251)).alloc (.cells #[.pointer (some ⟨6, 251, none⟩), .pointer (some ⟨w.heap.size, 0, none⟩), .int .u64 150] 164)).cell? ⟨0, 0, none⟩ = some (.iface 217 (.agg #[.pointer (some ⟨6, 27, none⟩)])) := by
    rw [World.cell?_alloc_lt _ _ ⟨0, 0, none⟩ (by simp <;> omega), World.cell?_alloc_lt _ _ ⟨0, 0, none⟩ hlt]; exact hg
  have el := Tryz.asElemV ⟨w.heap.size, 0, none⟩ t (((w.alloc (.cells #[.pointer (some t)] 251)).alloc (.cells #[.pointer (some ⟨6, 251, none⟩), .pointer (some ⟨w.heap.size, 0, none⟩), .int .u64 150] 164)).alloc (.cells #[.pointer (some ⟨6, 251, none⟩), .pointer (some ⟨w.heap.size, 0, none⟩), .int .u64 150] 164)) (by rw [World.cell?_alloc_lt _ _ ⟨w.heap.size, 0, none⟩ (by simp <;> omega)]; simp)
  have HW := Lib.hid (show ((((w.alloc (.cells #[.pointer (some t)] 251)).alloc (.cells #[.pointer (some ⟨6, 251, none⟩), .pointer (some ⟨w.heap.size, 0, none⟩), .int .u64 150] 164)).alloc (.cells #[.pointer (some ⟨6, 251, none⟩), .pointer (some ⟨w.heap.size, 0, none⟩), .int .u64 150] 164)).alloc (.cells #[.int .i64 k] 43)).cell? t = some old by rw [World.cell?_alloc_lt _ _ t (by simp <;> omega), World.cell?_alloc_lt _ _ t (by simp <;> omega), World.cell?_alloc_lt _ _ t (by simp <;> omega), World.cell?_alloc_lt _ _ t htl]; exact ht0)
  have st := Tryz.asSet t ⟨w.heap.size + 1 + 1 + 1, 0, none⟩ k old ((((w.alloc (.cells #[.pointer (some t)] 251)).alloc (.cells #[.pointer (some ⟨6, 251, none⟩), .pointer (some ⟨w.heap.size, 0, none⟩), .int .u64 150] 164)).alloc (.cells #[.pointer (some ⟨6, 251, none⟩), .pointer (some ⟨w.heap.size, 0, none⟩), .int .u64 150] 164)).alloc (.cells #[.int .i64 k] 43))
    (by rw [World.cell?_alloc_at _ _ _ _ (by simp)] <;> rfl)
    HW.out
    (by rw [World.frozen?_alloc_old _ _ t (by simp <;> omega), World.frozen?_alloc_old _ _ t (by simp <;> omega), World.frozen?_alloc_old _ _ t (by simp <;> omega), World.frozen?_alloc_old _ _ t (Nat.ne_of_lt htl)]; exact hf0)
  go_enter Tryz.func31, Tryz.ntmps31
  go_wp2
  refine wp_loop_rounds 1 ?_
  rw [rounds_succ]
  go_wp2
  go_ret
  refine ⟨rfl, Fr.setCell (((((Fr.refl (fun x => x = t.block) w).alloc _).alloc _).alloc _).alloc _) (fun _ => rfl) _, ?_⟩
  exact World.cell?_setCell_same _ _ _ HW.out

/-- The library's variable holds what it must. -/
def ErrT (w : World) : Prop := w.cell? ⟨0, 0, none⟩ = some (.iface 217 (.agg #[.pointer (some ⟨6, 27, none⟩)]))
theorem ErrT.fr {S : Nat → Prop} {w w' : World} (h : ErrT w) (hb : Fr S w w') (hS : ¬ S 0) : ErrT w' :=
  (hb.cell (p := ⟨0, 0, none⟩) (World.block_lt_of_cell? w _ h) hS).trans h

theorem Tryz.errorHas (v : Value) (xT : TypeId) (w : World) : (Instr.typeAssert (.iface 43 v) xT 27 true).run Tryz.prog w = .ok (.tuple #[.iface 43 v, .bool true]) w := run_typeAssert_hasB Tryz.underlying27 (by kernel_rfl) v xT w

set_option maxRecDepth 100000 in
set_option maxHeartbeats 1000000 in
theorem thrown_any (k : Int) (w : World) (hg : ErrT w) :
    Calls Tryz.prog 167 #[.iface 43 (.int .i64 k)] w fun e w' => e = .returned (.int .i64 k) ∧ Fr (fun _ => False) w w' := by
  have hE := Tryz.errorHas
  have hf0 : Fr (fun _ => False) w (w.alloc (.cells #[.int .i64 0] 43)) := (Fr.refl _ _).alloc _
  go_enter Tryz.func167, Tryz.ntmps167
  go_wp2_with (go_at_call 31; refine (as_errno ⟨w.heap.size, 0, none⟩ k (.int .i64 0) _ (hg.fr hf0 (fun h => h)) (by simp) (by simp)).mono ?_; rintro e w' ⟨rfl, hf1, hc1⟩)
  go_ret
  exact ⟨rfl, hf0.trans hf1 (fun x hx e => by have : x = w.heap.size := e; omega)⟩
end Go.Proofs.YtieoeoonopcjbaaGreatDoor

/- The reader's steps: a panic becomes the fault that stays. -/
namespace Go.Proofs.YtieoeoonopcjbaaGreatDoor
open Go.RowKit

section
variable {w w' : World} {g : Nat} {A : Option Addr} {n c : Nat} {xs : List UInt8} {at_ er fat : Int} {what : ByteArray}
theorem Rdr.fault (h : Rdr w g A n c xs at_ er fat what) (k a : Int) (wh : ByteArray) :
    Rdr (((w.setCell ⟨g, 2, none⟩ (.int .i64 k)).setCell ⟨g, 3, none⟩ (.int .i64 a)).setCell ⟨g, 4, none⟩ (.string wh)) g A n c xs at_ k a wh :=
  { h with
    bk := by
      have := ((h.bk.set 2 (.int .i64 k)).set 3 (.int .i64 a)).set 4 (.string wh)
      simpa using this
    rd := h.rd.fr (((fr_set (i := 2)).trans (fr_set (i := 3)) (fun _ _ h => h)).trans (fr_set (i := 4)) (fun _ _ h => h)) (fun ad ha h0 => h.apart ad ha (by rw [← h.len]; exact h0)) }
end

set_option maxRecDepth 100000 in
set_option maxHeartbeats 4000000 in
theorem catchInt {w : World} {g : Nat} {A : Option Addr} {n c : Nat} {xs : List UInt8} {at_ er fat : Int} {what : ByteArray} (h : Rdr w g A n c xs at_ er fat what) (ht : ErrT w)
    (pa pw pr : Addr) (k a : Int) (wh : ByteArray) (ha : w.cell? pa = some (.int .i64 a)) (hw : w.cell? pw = some (.string wh)) (hr : w.cell? pr = some (.pointer (some ⟨g, 0, none⟩))) (na : pa.block ≠ g) (nw : pw.block ≠ g) (nr : pr.block ≠ g) :
    CallsD Tryz.prog 166 #[.pointer (some pa), .pointer (some pw), .pointer (some pr)] (.panicking [{ v := .iface 43 (.int .i64 k), recovered := false }]) w fun e u' w' =>
      e = .returned (.tuple #[]) ∧ u' = .panicking [{ v := .iface 43 (.int .i64 k), recovered := true }] ∧ Rdr w' g A n c xs at_ k a wh ∧ Fr (fun x => x = g) w w' := by
  refine callsD_of_wpS Tryz.func166 rfl fun c₀ cs hu => ?_
  apply wpS_seq
  apply wpS_region
  simp [wpOpsS, go_sem, recoverD, hu, Tryz.ntmps166, Exit.thenS]
  refine wpS_of_wp ?_
  have hlg := h.bk.lt
  have r2 : w.cell? ⟨g, 2, none⟩ = some (.int .i64 er) := h.bk.cell 2
  have r3 : w.cell? ⟨g, 3, none⟩ = some (.int .i64 fat) := h.bk.cell 3
  have r4 : w.cell? ⟨g, 4, none⟩ = some (.string what) := h.bk.cell 4
  have f2 : w.frozen? ⟨g, 2, none⟩ = false := h.bk.frozen 2
  have f3 : w.frozen? ⟨g, 3, none⟩ = false := h.bk.frozen 3
  have f4 : w.frozen? ⟨g, 4, none⟩ = false := h.bk.frozen 4
  change Code.wp _ _ _ { tmps := #[.pointer (some pa), .pointer (some pw), .pointer (some pr), .iface 43 (.int .i64 k), .iface 43 (.int .i64 k), undef, undef, undef, undef, undef, undef, undef, undef, undef, undef], defers := [] } w
  have mk : ∀ {w' : World}, Fr (fun x => x = g) w w' → w'.cell? pr = some (.pointer (some ⟨g, 0, none⟩)) ∧ w'.cell? pa = some (.int .i64 a) ∧ w'.cell? pw = some (.string wh) ∧ Fr (fun x => x = g) w w' := fun hF =>
    ⟨(hF.cell (World.block_lt_of_cell? w _ hr) nr).trans hr, (hF.cell (World.block_lt_of_cell? w _ ha) na).trans ha, (hF.cell (World.block_lt_of_cell? w _ hw) nw).trans hw, hF⟩
  have MK := @Lib.hid _ @mk
  clear mk
  go_wp2_with fail
  go_region_held3 (fun w' => w'.cell? pr = some (.pointer (some ⟨g, 0, none⟩)) ∧ w'.cell? pa = some (.int .i64 a) ∧ w'.cell? pw = some (.string wh) ∧ Fr (fun x => x = g) w w')
    (first
      | exact MK.out (Fr.refl _ _).drew
      | exact MK.out hf2
      | exact MK.out (((hf2.trans fr_set (fun _ _ h => h)).trans fr_set (fun _ _ h => h)).trans fr_set (fun _ _ h => h)))
    (first | (go_at_call 167; refine (thrown_any k _ (ht.fr (Fr.refl (fun _ => False) w).drew (fun h => h))).mono ?_; rintro e w1 ⟨rfl, hf⟩; have hf1 : Fr (fun _ => False) w w1 := (Fr.refl (fun _ => False) w).drew.trans hf (fun _ _ h => h); have hf2 : Fr (fun x => x = g) w w1 := hf1.mono (fun _ _ h => h.elim); have q2 := (hf1.cell (p := ⟨g, 2, none⟩) hlg (fun h => h)).trans r2; have q3 := (hf1.cell (p := ⟨g, 3, none⟩) hlg (fun h => h)).trans r3; have q4 := (hf1.cell (p := ⟨g, 4, none⟩) hlg (fun h => h)).trans r4; have e2 := (hf1.frozen (p := ⟨g, 2, none⟩) hlg (fun h => h)).trans f2; have e3 := (hf1.frozen (p := ⟨g, 3, none⟩) hlg (fun h => h)).trans f3; have e4 := (hf1.frozen (p := ⟨g, 4, none⟩) hlg (fun h => h)).trans f4))
  have hf3 := hf2.trans (((fr_set (i := 2) (v := .int .i64 k)).trans (fr_set (i := 3) (v := .int .i64 a)) (fun _ _ h => h)).trans (fr_set (i := 4) (v := .string wh)) (fun _ _ h => h)) (fun _ _ h => h)
  have hr3 := (h.quiet hf1).fault k a wh
  exact ⟨rfl, _, rfl, _, results_none rfl _ _ _, rfl, rfl, hr3, hf3⟩

set_option maxRecDepth 100000 in
set_option maxHeartbeats 1000000 in
theorem idleInt (pa pw pr : Addr) (w : World) :
    CallsD Tryz.prog 166 #[.pointer (some pa), .pointer (some pw), .pointer (some pr)] .returning w fun e u' w' => e = .returned (.tuple #[]) ∧ u' = .returning ∧ w = w' := by
  refine callsD_of_wpS Tryz.func166 rfl fun c₀ cs hu => ?_
  apply wpS_seq
  apply wpS_region
  simp [wpOpsS, go_sem, recoverD, hu, Tryz.ntmps166, Exit.thenS]
  refine wpS_of_wp ?_
  change Code.wp _ _ _ { tmps := #[.pointer (some pa), .pointer (some pw), .pointer (some pr), .nilIface, .nilIface, undef, undef, undef, undef, undef, undef, undef, undef, undef, undef], defers := [] } w
  go_wp2
  exact ⟨rfl, _, by cases c₀; simp_all, _, results_none rfl _ _ _, rfl, rfl, rfl⟩
set_option maxRecDepth 100000 in
set_option maxHeartbeats 4000000 in
theorem catchB {w : World} {g : Nat} {A : Option Addr} {n c : Nat} {xs : List UInt8} {at_ er fat : Int} {what : ByteArray} (h : Rdr w g A n c xs at_ er fat what) (ht : ErrT w)
    (pa pw pr : Addr) (k a : Int) (wh : ByteArray) (ha : w.cell? pa = some (.int .i64 a)) (hw : w.cell? pw = some (.string wh)) (hr : w.cell? pr = some (.pointer (some ⟨g, 0, none⟩))) (na : pa.block ≠ g) (nw : pw.block ≠ g) (nr : pr.block ≠ g) :
    CallsD Tryz.prog 169 #[.pointer (some pa), .pointer (some pw), .pointer (some pr)] (.panicking [{ v := .iface 43 (.int .i64 k), recovered := false }]) w fun e u' w' =>
      e = .returned (.tuple #[]) ∧ u' = .panicking [{ v := .iface 43 (.int .i64 k), recovered := true }] ∧ Rdr w' g A n c xs at_ k a wh ∧ Fr (fun x => x = g) w w' := by
  refine callsD_of_wpS Tryz.func169 rfl fun c₀ cs hu => ?_
  apply wpS_seq
  apply wpS_region
  simp [wpOpsS, go_sem, recoverD, hu, Tryz.ntmps169, Exit.thenS]
  refine wpS_of_wp ?_
  have hlg := h.bk.lt
  have r2 : w.cell? ⟨g, 2, none⟩ = some (.int .i64 er) := h.bk.cell 2
  have r3 : w.cell? ⟨g, 3, none⟩ = some (.int .i64 fat) := h.bk.cell 3
  have r4 : w.cell? ⟨g, 4, none⟩ = some (.string what) := h.bk.cell 4
  have f2 : w.frozen? ⟨g, 2, none⟩ = false := h.bk.frozen 2
  have f3 : w.frozen? ⟨g, 3, none⟩ = false := h.bk.frozen 3
  have f4 : w.frozen? ⟨g, 4, none⟩ = false := h.bk.frozen 4
  change Code.wp _ _ _ { tmps := #[.pointer (some pa), .pointer (some pw), .pointer (some pr), .iface 43 (.int .i64 k), .iface 43 (.int .i64 k), undef, undef, undef, undef, undef, undef, undef, undef, undef, undef], defers := [] } w
  have mk : ∀ {w' : World}, Fr (fun x => x = g) w w' → w'.cell? pr = some (.pointer (some ⟨g, 0, none⟩)) ∧ w'.cell? pa = some (.int .i64 a) ∧ w'.cell? pw = some (.string wh) ∧ Fr (fun x => x = g) w w' := fun hF =>
    ⟨(hF.cell (World.block_lt_of_cell? w _ hr) nr).trans hr, (hF.cell (World.block_lt_of_cell? w _ ha) na).trans ha, (hF.cell (World.block_lt_of_cell? w _ hw) nw).trans hw, hF⟩
  have MK := @Lib.hid _ @mk
  clear mk
  go_wp2_with fail
  go_region_held3 (fun w' => w'.cell? pr = some (.pointer (some ⟨g, 0, none⟩)) ∧ w'.cell? pa = some (.int .i64 a) ∧ w'.cell? pw = some (.string wh) ∧ Fr (fun x => x = g) w w')
    (first
      | exact MK.out (Fr.refl _ _).drew
      | exact MK.out hf2
      | exact MK.out (((hf2.trans fr_set (fun _ _ h => h)).trans fr_set (fun _ _ h => h)).trans fr_set (fun _ _ h => h)))
    (first | (go_at_call 167; refine (thrown_any k _ (ht.fr (Fr.refl (fun _ => False) w).drew (fun h => h))).mono ?_; rintro e w1 ⟨rfl, hf⟩; have hf1 : Fr (fun _ => False) w w1 := (Fr.refl (fun _ => False) w).drew.trans hf (fun _ _ h => h); have hf2 : Fr (fun x => x = g) w w1 := hf1.mono (fun _ _ h => h.elim); have q2 := (hf1.cell (p := ⟨g, 2, none⟩) hlg (fun h => h)).trans r2; have q3 := (hf1.cell (p := ⟨g, 3, none⟩) hlg (fun h => h)).trans r3; have q4 := (hf1.cell (p := ⟨g, 4, none⟩) hlg (fun h => h)).trans r4; have e2 := (hf1.frozen (p := ⟨g, 2, none⟩) hlg (fun h => h)).trans f2; have e3 := (hf1.frozen (p := ⟨g, 3, none⟩) hlg (fun h => h)).trans f3; have e4 := (hf1.frozen (p := ⟨g, 4, none⟩) hlg (fun h => h)).trans f4))
  have hf3 := hf2.trans (((fr_set (i := 2) (v := .int .i64 k)).trans (fr_set (i := 3) (v := .int .i64 a)) (fun _ _ h => h)).trans (fr_set (i := 4) (v := .string wh)) (fun _ _ h => h)) (fun _ _ h => h)
  have hr3 := (h.quiet hf1).fault k a wh
  exact ⟨rfl, _, rfl, _, results_none rfl _ _ _, rfl, rfl, hr3, hf3⟩

set_option maxRecDepth 100000 in
set_option maxHeartbeats 1000000 in
theorem idleB (pa pw pr : Addr) (w : World) :
    CallsD Tryz.prog 169 #[.pointer (some pa), .pointer (some pw), .pointer (some pr)] .returning w fun e u' w' => e = .returned (.tuple #[]) ∧ u' = .returning ∧ w = w' := by
  refine callsD_of_wpS Tryz.func169 rfl fun c₀ cs hu => ?_
  apply wpS_seq
  apply wpS_region
  simp [wpOpsS, go_sem, recoverD, hu, Tryz.ntmps169, Exit.thenS]
  refine wpS_of_wp ?_
  change Code.wp _ _ _ { tmps := #[.pointer (some pa), .pointer (some pw), .pointer (some pr), .nilIface, .nilIface, undef, undef, undef, undef, undef, undef, undef, undef, undef, undef], defers := [] } w
  go_wp2
  exact ⟨rfl, _, by cases c₀; simp_all, _, results_none rfl _ _ _, rfl, rfl, rfl⟩
end Go.Proofs.YtieoeoonopcjbaaGreatDoor

/- The reader's Int. -/
namespace Go.Proofs.YtieoeoonopcjbaaGreatDoor
open Go.RowKit

/-- Where a reader stands: at a place, or at its fault. -/
inductive St where
  | at_ (k : Nat)
  | bad (er a : Int) (wh : ByteArray)

def RdAt (w : World) (g : Nat) (A : Option Addr) (n c : Nat) (xs : List UInt8) : St → Prop
  | .at_ k => k ≤ n ∧ ∃ fat what, Rdr w g A n c xs k 0 fat what
  | .bad er a wh => er ≠ 0 ∧ ∃ p, Rdr w g A n c xs p er a wh

def stInt (xs : List UInt8) (wh : ByteArray) : St → Int × St
  | .bad er a w0 => (0, .bad er a w0)
  | .at_ k => match rdNum (xs.drop k) with
    | .bad b => (0, .bad b k wh)
    | .ok u m => (unfN u, .at_ (k + m))

theorem num_bad_or : ∀ (f i acc : Nat) (l : List UInt8) (b : Int), num f i acc l = .bad b → b = 7 ∨ b = 8
  | 0, _, _, _, _, h => by unfold num at h; injection h with h; exact .inr h.symm
  | _ + 1, _, _, [], _, h => by unfold num at h; injection h with h; exact .inl h.symm
  | f + 1, i, acc, c :: l, b, h => by
    unfold num at h
    split at h
    · exact num_bad_or f _ _ _ _ h
    · split at h
      · injection h with h; exact .inr h.symm
      · cases h
theorem num_bad {l : List UInt8} {b : Int} (h : rdNum l = .bad b) : b ≠ 0 := by
  rcases num_bad_or _ _ _ _ _ h with h | h <;> omega
theorem num_ok : ∀ (f i acc : Nat) (l : List UInt8) (u m : Nat), num f i acc l = .ok u m → i < m ∧ m ≤ i + l.length
  | 0, _, _, _, _, _, h => by unfold num at h; cases h
  | _ + 1, _, _, [], _, _, h => by unfold num at h; cases h
  | f + 1, i, acc, c :: l, u, m, h => by
    unfold num at h
    split at h
    · have := num_ok f _ _ _ _ _ h
      rw [List.length_cons]; omega
    · split at h
      · cases h
      · injection h with _ h
        rw [List.length_cons]; omega

theorem RdAt.quiet {w w' : World} {g : Nat} {A : Option Addr} {n c : Nat} {xs : List UInt8} {s : St} (h : RdAt w g A n c xs s) (hf : Fr (fun _ => False) w w') : RdAt w' g A n c xs s := by
  cases s with
  | at_ k => exact ⟨h.1, h.2.imp fun _ h => h.imp fun _ h => h.quiet hf⟩
  | bad er a wh => exact ⟨h.1, h.2.imp fun _ h => h.quiet hf⟩

end Go.Proofs.YtieoeoonopcjbaaGreatDoor

/- A reader's other steps, whatever they are: by their contract. -/
namespace Go.Proofs.YtieoeoonopcjbaaGreatDoor
open Go.RowKit

/-- What a step comes to: a panic with an Errno, or a value, the reader being at k'. -/
inductive SR where
  | bad (b : Int)
  | ok (k' : Nat)

def StepPost (w : World) (g : Nat) (A : Option Addr) (n c : Nat) (xs : List UInt8) (r : SR) (Q : World → Value → World → Prop) (e : Ending) (w' : World) : Prop :=
  match r with
  | .bad b => e = pan b ∧ (∃ p fat what, Rdr w' g A n c xs p 0 fat what) ∧ Fr (fun x => x = g) w w'
  | .ok k' => ∃ v, e = .returned v ∧ k' ≤ n ∧ (∃ fat what, Rdr w' g A n c xs k' 0 fat what) ∧ Fr (fun x => x = g) w w' ∧ Q w v w'

/-- What a try of a step comes to. -/
def TryPost (w : World) (g : Nat) (A : Option Addr) (n c : Nat) (xs : List UInt8) (k : Nat) (wh : ByteArray) (Q : World → Value → World → Prop) (z : Value) (r : SR) (e : Ending) (w' : World) : Prop :=
  match r with
  | .bad b => e = .returned z ∧ RdAt w' g A n c xs (.bad b k wh) ∧ Fr (fun x => x = g) w w'
  | .ok k' => ∃ v W, e = .returned v ∧ RdAt w' g A n c xs (.at_ k') ∧ Fr (fun x => x = g) w w' ∧ Fr (fun _ => False) w W ∧ Q W v w'

set_option maxRecDepth 100000 in
set_option maxHeartbeats 4000000 in
theorem tryInt_bad {w : World} {g : Nat} {A : Option Addr} {n c : Nat} {xs : List UInt8} {p er fat : Int} {what : ByteArray} (h : Rdr w g A n c xs p er fat what) (he : (er == 0) = false) (wh : ByteArray) (f : Value) :
    Calls Tryz.prog 124 #[.pointer (some ⟨g, 0, none⟩), .string wh, f] w fun e w' => e = .returned (.int .i64 0) ∧ Fr (fun _ => False) w w' := by
  have hf1 : Fr (fun _ => False) w ((w.alloc (.cells #[.pointer (some ⟨g, 0, none⟩)] 78)).alloc (.cells #[.string wh] 9)) := ((Fr.refl _ _).alloc _).alloc _
  go_enter_defers Tryz.func124, Tryz.ntmps124
  go_wp2_with (go_at_call 111; refine (failed_any (h.quiet hf1) _ he).mono ?_; rintro e w' ⟨rfl, rfl⟩)
  exact ⟨_, results_tmp rfl _ _ _, rfl, hf1⟩

set_option maxRecDepth 100000 in
set_option maxHeartbeats 4000000 in
theorem tryInt_step {w : World} {g : Nat} {A : Option Addr} {n c : Nat} {xs : List UInt8} {k : Nat} {fat : Int} {what : ByteArray} (h : Rdr w g A n c xs k 0 fat what) (ht : ErrT w) (wh : ByteArray) (hg : g ≠ 0)
    (F : FuncId) (caps : Array Value) (r : SR) (Q : World → Value → World → Prop) (hstep : ∀ W, Fr (fun _ => False) w W → Calls Tryz.prog F caps W (StepPost W g A n c xs r Q)) (hb : ∀ b, r = .bad b → b ≠ 0) (hcf : ∀ W : World, (callFunc F caps).run Tryz.prog W = .ok (.enter F caps) W) :
    Calls Tryz.prog 124 #[.pointer (some ⟨g, 0, none⟩), .string wh, .func (.func F) #[] caps] w (TryPost w g A n c xs k wh Q (.int .i64 0) r) := by
  have hf1 : Fr (fun _ => False) w ((w.alloc (.cells #[.pointer (some ⟨g, 0, none⟩)] 78)).alloc (.cells #[.string wh] 9)) := ((Fr.refl _ _).alloc _).alloc _
  have hf2 : Fr (fun _ => False) w (((w.alloc (.cells #[.pointer (some ⟨g, 0, none⟩)] 78)).alloc (.cells #[.string wh] 9)).alloc (.cells #[.int .i64 k] 3)) := hf1.alloc _
  have hmf : ∀ (fn : Fn) (first cap : Array Value) (w : World), (Instr.makeFunc fn first cap).run Tryz.prog w = .ok (.func fn first cap) w := fun _ _ _ _ => rfl
  have hat : ((w.alloc (.cells #[.pointer (some ⟨g, 0, none⟩)] 78)).alloc (.cells #[.string wh] 9)).cell? ⟨g, 1, none⟩ = some (.int .i64 k) := (h.quiet hf1).bk.cell 1
  have HS := Lib.hid hstep
  clear hstep
  have hlg := h.bk.lt
  go_enter_defers Tryz.func124, Tryz.ntmps124
  go_wp2_with (first
    | (go_at_call 111; refine (failed_any (h.quiet hf1) true rfl).mono ?_; rintro e w' ⟨rfl, rfl⟩))
  refine (HS.out _ hf2).mono ?_
  cases r with
  | bad b =>
    rintro e w1 ⟨rfl, ⟨p, _, _, hr1⟩, hf3⟩
    refine leaves_cons (f := 166) (args := #[.pointer (some ⟨w.heap.size + 1 + 1, 0, none⟩), .pointer (some ⟨w.heap.size + 1, 0, none⟩), .pointer (some ⟨w.heap.size, 0, none⟩)]) (by simp) (by simp [go_sem]) ?_
    have hF := (hf2.mono (T := fun x => x = g) (fun _ _ h => h.elim)).trans hf3 (fun _ _ h => h)
    refine (catchInt hr1 (ht.fr hF (fun e => hg e.symm)) ⟨w.heap.size + 1 + 1, 0, none⟩ ⟨w.heap.size + 1, 0, none⟩ ⟨w.heap.size, 0, none⟩ b k wh ?_ ?_ ?_ (by show w.heap.size + 1 + 1 ≠ g; omega) (by show w.heap.size + 1 ≠ g; omega) (by show w.heap.size ≠ g; omega)).mono ?_
    · exact (hf3.cell (p := ⟨w.heap.size + 1 + 1, 0, none⟩) (by simp) (by show ¬ w.heap.size + 1 + 1 = g; omega)).trans (by simp [go_sem])
    · exact (hf3.cell (p := ⟨w.heap.size + 1, 0, none⟩) (by simp) (by show ¬ w.heap.size + 1 = g; omega)).trans (by simp [go_sem])
    · exact (hf3.cell (p := ⟨w.heap.size, 0, none⟩) (by simp; omega) (by show ¬ w.heap.size = g; omega)).trans (by simp [go_sem])
    rintro e u' w'' ⟨rfl, rfl, hr2, hf4⟩
    exact ⟨_, results_tmp rfl _ _ _, rfl, ⟨hb b rfl, _, hr2⟩, hF.trans hf4 (fun _ _ h => h)⟩
  | ok k' =>
    rintro e w1 ⟨v, rfl, hk', ⟨fat1, what1, hr1⟩, hf3, hq⟩
    go_wp2
    refine leaves_cons (f := 166) (args := #[.pointer (some ⟨w.heap.size + 1 + 1, 0, none⟩), .pointer (some ⟨w.heap.size + 1, 0, none⟩), .pointer (some ⟨w.heap.size, 0, none⟩)]) (by simp) (by simp [go_sem]) ?_
    have hF := (hf2.mono (T := fun x => x = g) (fun _ _ h => h.elim)).trans hf3 (fun _ _ h => h)
    refine (idleInt _ _ _ _).mono ?_
    rintro e u' w'' ⟨rfl, rfl, rfl⟩
    exact ⟨_, results_tmp rfl _ _ _, v, _, rfl, ⟨hk', _, _, hr1⟩, hF, hf2, hq⟩
set_option maxRecDepth 100000 in
set_option maxHeartbeats 4000000 in
theorem tryB_bad {w : World} {g : Nat} {A : Option Addr} {n c : Nat} {xs : List UInt8} {p er fat : Int} {what : ByteArray} (h : Rdr w g A n c xs p er fat what) (he : (er == 0) = false) (wh : ByteArray) (f : Value) :
    Calls Tryz.prog 127 #[.pointer (some ⟨g, 0, none⟩), .string wh, f] w fun e w' => e = .returned (.slice none 0 0) ∧ Fr (fun _ => False) w w' := by
  have hf1 : Fr (fun _ => False) w ((w.alloc (.cells #[.pointer (some ⟨g, 0, none⟩)] 78)).alloc (.cells #[.string wh] 9)) := ((Fr.refl _ _).alloc _).alloc _
  go_enter_defers Tryz.func127, Tryz.ntmps127
  go_wp2_with (go_at_call 111; refine (failed_any (h.quiet hf1) _ he).mono ?_; rintro e w' ⟨rfl, rfl⟩)
  exact ⟨_, results_tmp rfl _ _ _, rfl, hf1⟩

set_option maxRecDepth 100000 in
set_option maxHeartbeats 4000000 in
theorem tryB_step {w : World} {g : Nat} {A : Option Addr} {n c : Nat} {xs : List UInt8} {k : Nat} {fat : Int} {what : ByteArray} (h : Rdr w g A n c xs k 0 fat what) (ht : ErrT w) (wh : ByteArray) (hg : g ≠ 0)
    (F : FuncId) (caps : Array Value) (r : SR) (Q : World → Value → World → Prop) (hstep : ∀ W, Fr (fun _ => False) w W → Calls Tryz.prog F caps W (StepPost W g A n c xs r Q)) (hb : ∀ b, r = .bad b → b ≠ 0) (hcf : ∀ W : World, (callFunc F caps).run Tryz.prog W = .ok (.enter F caps) W) :
    Calls Tryz.prog 127 #[.pointer (some ⟨g, 0, none⟩), .string wh, .func (.func F) #[] caps] w (TryPost w g A n c xs k wh Q (.slice none 0 0) r) := by
  have hf1 : Fr (fun _ => False) w ((w.alloc (.cells #[.pointer (some ⟨g, 0, none⟩)] 78)).alloc (.cells #[.string wh] 9)) := ((Fr.refl _ _).alloc _).alloc _
  have hf2 : Fr (fun _ => False) w (((w.alloc (.cells #[.pointer (some ⟨g, 0, none⟩)] 78)).alloc (.cells #[.string wh] 9)).alloc (.cells #[.int .i64 k] 3)) := hf1.alloc _
  have hmf : ∀ (fn : Fn) (first cap : Array Value) (w : World), (Instr.makeFunc fn first cap).run Tryz.prog w = .ok (.func fn first cap) w := fun _ _ _ _ => rfl
  have hat : ((w.alloc (.cells #[.pointer (some ⟨g, 0, none⟩)] 78)).alloc (.cells #[.string wh] 9)).cell? ⟨g, 1, none⟩ = some (.int .i64 k) := (h.quiet hf1).bk.cell 1
  have HS := Lib.hid hstep
  clear hstep
  have hlg := h.bk.lt
  go_enter_defers Tryz.func127, Tryz.ntmps127
  go_wp2_with (first
    | (go_at_call 111; refine (failed_any (h.quiet hf1) true rfl).mono ?_; rintro e w' ⟨rfl, rfl⟩))
  refine (HS.out _ hf2).mono ?_
  cases r with
  | bad b =>
    rintro e w1 ⟨rfl, ⟨p, _, _, hr1⟩, hf3⟩
    refine leaves_cons (f := 169) (args := #[.pointer (some ⟨w.heap.size + 1 + 1, 0, none⟩), .pointer (some ⟨w.heap.size + 1, 0, none⟩), .pointer (some ⟨w.heap.size, 0, none⟩)]) (by simp) (by simp [go_sem]) ?_
    have hF := (hf2.mono (T := fun x => x = g) (fun _ _ h => h.elim)).trans hf3 (fun _ _ h => h)
    refine (catchB hr1 (ht.fr hF (fun e => hg e.symm)) ⟨w.heap.size + 1 + 1, 0, none⟩ ⟨w.heap.size + 1, 0, none⟩ ⟨w.heap.size, 0, none⟩ b k wh ?_ ?_ ?_ (by show w.heap.size + 1 + 1 ≠ g; omega) (by show w.heap.size + 1 ≠ g; omega) (by show w.heap.size ≠ g; omega)).mono ?_
    · exact (hf3.cell (p := ⟨w.heap.size + 1 + 1, 0, none⟩) (by simp) (by show ¬ w.heap.size + 1 + 1 = g; omega)).trans (by simp [go_sem])
    · exact (hf3.cell (p := ⟨w.heap.size + 1, 0, none⟩) (by simp) (by show ¬ w.heap.size + 1 = g; omega)).trans (by simp [go_sem])
    · exact (hf3.cell (p := ⟨w.heap.size, 0, none⟩) (by simp; omega) (by show ¬ w.heap.size = g; omega)).trans (by simp [go_sem])
    rintro e u' w'' ⟨rfl, rfl, hr2, hf4⟩
    exact ⟨_, results_tmp rfl _ _ _, rfl, ⟨hb b rfl, _, hr2⟩, hF.trans hf4 (fun _ _ h => h)⟩
  | ok k' =>
    rintro e w1 ⟨v, rfl, hk', ⟨fat1, what1, hr1⟩, hf3, hq⟩
    go_wp2
    refine leaves_cons (f := 169) (args := #[.pointer (some ⟨w.heap.size + 1 + 1, 0, none⟩), .pointer (some ⟨w.heap.size + 1, 0, none⟩), .pointer (some ⟨w.heap.size, 0, none⟩)]) (by simp) (by simp [go_sem]) ?_
    have hF := (hf2.mono (T := fun x => x = g) (fun _ _ h => h.elim)).trans hf3 (fun _ _ h => h)
    refine (idleB _ _ _ _).mono ?_
    rintro e u' w'' ⟨rfl, rfl, rfl⟩
    exact ⟨_, results_tmp rfl _ _ _, v, _, rfl, ⟨hk', _, _, hr1⟩, hF, hf2, hq⟩
end Go.Proofs.YtieoeoonopcjbaaGreatDoor

/- The reader's Between, Bytes, End. -/
namespace Go.Proofs.YtieoeoonopcjbaaGreatDoor
open Go.RowKit

def srWithin (xs : List UInt8) (k : Nat) (lo hi : Int) : SR × Int :=
  match rdNum (xs.drop k) with
  | .bad b => (.bad b, 0)
  | .ok u m => if unfN u < lo ∨ hi < unfN u then (.bad 8, 0) else (.ok (k + m), unfN u)

set_option maxRecDepth 100000 in
set_option maxHeartbeats 1000000 in
theorem within_any {w : World} {g : Nat} {A : Option Addr} {n c : Nat} {xs : List UInt8} {k : Nat} {fat : Int} {what : ByteArray} (h : Rdr w g A n c xs k 0 fat what) (hk : k ≤ n) (lo hi : Int) :
    Calls Tryz.prog 126 #[.pointer (some ⟨g, 0, none⟩), .int .i64 lo, .int .i64 hi] w (StepPost w g A n c xs (srWithin xs k lo hi).1 (fun _ v _ => v = .int .i64 (srWithin xs k lo hi).2)) := by
  cases hN : rdNum (xs.drop k) with
  | bad b =>
    have hs : srWithin xs k lo hi = (.bad b, 0) := by simp [srWithin, hN]
    rw [hs]
    clear hs
    have HN := Lib.hid hN
    clear hN
    go_enter Tryz.func126, Tryz.ntmps126
    go_wp2_with (go_at_call 168; refine (number_any k h hk).mono ?_; rw [HN.out]; rintro e w1 ⟨rfl, ⟨p, hr1⟩, hf3⟩)
    exact ⟨rfl, rfl, ⟨p, _, _, hr1⟩, hf3⟩
  | ok u m =>
    have HN := Lib.hid hN
    by_cases h1 : unfN u < lo
    · have hs : srWithin xs k lo hi = (.bad 8, 0) := by simp [srWithin, hN, h1]
      rw [hs]
      clear hs hN
      go_enter Tryz.func126, Tryz.ntmps126
      go_wp2_with (go_at_call 168; refine (number_any k h hk).mono ?_; rw [HN.out]; rintro e w1 ⟨rfl, hkm, hr1, hf3⟩)
      exact ⟨rfl, rfl, ⟨_, _, _, hr1⟩, hf3⟩
    · by_cases h2 : hi < unfN u
      · have hs : srWithin xs k lo hi = (.bad 8, 0) := by simp [srWithin, hN, h2]
        rw [hs]
        clear hs hN
        go_enter Tryz.func126, Tryz.ntmps126
        go_wp2_with (go_at_call 168; refine (number_any k h hk).mono ?_; rw [HN.out]; rintro e w1 ⟨rfl, hkm, hr1, hf3⟩)
        exact ⟨rfl, rfl, ⟨_, _, _, hr1⟩, hf3⟩
      · have hs : srWithin xs k lo hi = (.ok (k + m), unfN u) := by simp [srWithin, hN, h1, h2]
        rw [hs]
        clear hs hN
        go_enter Tryz.func126, Tryz.ntmps126
        go_wp2_with (go_at_call 168; refine (number_any k h hk).mono ?_; rw [HN.out]; rintro e w1 ⟨rfl, hkm, hr1, hf3⟩)
        go_ret
        exact ⟨_, rfl, hkm, ⟨_, _, hr1⟩, hf3, rfl⟩

def srRun (xs : List UInt8) (k : Nat) (most : Int) : SR × List UInt8 :=
  match rdNum (xs.drop k) with
  | .bad b => (.bad b, [])
  | .ok u m =>
    if unfN u < 0 then (.bad 8, [])
    else if most < unfN u then (.bad 10, [])
    else if (xs.length : Int) - (k + m : Nat) < unfN u then (.bad 7, [])
    else (.ok (k + m + (unfN u).toNat), (xs.drop (k + m)).take (unfN u).toNat)

def runQ (bs : List UInt8) (w : World) (v : Value) (w' : World) : Prop := ∃ A' c', v = .slice A' bs.length c' ∧ Own8 w' 5 (.slice A' bs.length c') bs ∧ ∀ k, v.ownBlock = some k → w.heap.size ≤ k

set_option maxRecDepth 100000 in
set_option maxHeartbeats 1000000 in
theorem run_any {w : World} {g : Nat} {A : Option Addr} {n c : Nat} {xs : List UInt8} {k : Nat} {fat : Int} {what : ByteArray} (h : Rdr w g A n c xs k 0 fat what) (hk : k ≤ n) (most : Int) :
    Calls Tryz.prog 129 #[.pointer (some ⟨g, 0, none⟩), .int .i64 most] w (StepPost w g A n c xs (srRun xs k most).1 (runQ (srRun xs k most).2)) := by
  have hl := h.len
  cases hN : rdNum (xs.drop k) with
  | bad b =>
    have hs : srRun xs k most = (.bad b, []) := by simp [srRun, hN]
    rw [hs]
    clear hs
    have HN := Lib.hid hN
    clear hN
    go_enter Tryz.func129, Tryz.ntmps129
    go_wp2_with (go_at_call 168; refine (number_any k h hk).mono ?_; rw [HN.out]; rintro e w1 ⟨rfl, ⟨p, hr1⟩, hf3⟩)
    exact ⟨rfl, rfl, ⟨p, _, _, hr1⟩, hf3⟩
  | ok u m =>
    have HN := Lib.hid hN
    by_cases h1 : unfN u < 0
    · have hs : srRun xs k most = (.bad 8, []) := by simp [srRun, hN, h1]
      rw [hs]
      clear hs hN
      go_enter Tryz.func129, Tryz.ntmps129
      go_wp2_with (go_at_call 168; refine (number_any k h hk).mono ?_; rw [HN.out]; rintro e w1 ⟨rfl, hkm, hr1, hf3⟩)
      exact ⟨rfl, rfl, ⟨_, _, _, hr1⟩, hf3⟩
    · by_cases h2 : most < unfN u
      · have hs : srRun xs k most = (.bad 10, []) := by simp [srRun, hN, h1, h2]
        rw [hs]
        clear hs hN
        go_enter Tryz.func129, Tryz.ntmps129
        go_wp2_with (go_at_call 168; refine (number_any k h hk).mono ?_; rw [HN.out]; rintro e w1 ⟨rfl, hkm, hr1, hf3⟩)
        exact ⟨rfl, rfl, ⟨_, _, _, hr1⟩, hf3⟩
      · by_cases h3 : (n : Int) - ((k + m : Nat) : Int) < unfN u
        · have hs : srRun xs k most = (.bad 7, []) := by simp only [srRun, hN]; rw [if_neg h1, if_neg h2, hl, if_pos h3]
          rw [hs]
          clear hs hN
          go_enter Tryz.func129, Tryz.ntmps129
          go_wp2_with (go_at_call 168; refine (number_any k h hk).mono ?_; rw [HN.out]; rintro e w1 ⟨rfl, hkm, hr1, hf3⟩)
          have c0 : w1.cell? ⟨g, 0, none⟩ = some (.slice A n c) := hr1.bk.cell 0
          have c1 : w1.cell? ⟨g, 1, none⟩ = some (.int .i64 (k + m : Nat)) := hr1.bk.cell 1
          have hcap := h.cap
          have hbig := h.big
          generalize k + m = K at *
          generalize unfN u = U at *
          go_quiet (fail)
          go_wp2
          exact ⟨rfl, rfl, ⟨_, _, _, hr1.quiet ((Fr.refl _ _).drewN _)⟩, hf3.drewN _⟩
        · obtain ⟨L, hL⟩ : ∃ L : Nat, unfN u = (L : Int) := ⟨(unfN u).toNat, by omega⟩
          have hs : srRun xs k most = (.ok (k + m + L), (xs.drop (k + m)).take L) := by simp only [srRun, hN]; rw [if_neg h1, if_neg h2, hl, if_neg h3, hL]; rfl
          rw [hs]
          have HN1 : Hid (0 < n) := Lib.hid (by
            have := num_ok _ _ _ _ _ _ hN
            rw [List.length_drop] at this
            omega)
          clear hs hN
          have HL := Lib.hid hL
          rw [hL] at h1 h2 h3
          clear hL
          have hrp : ((xs.drop (k + m)).take L).length = L := by simp; omega
          go_enter Tryz.func129, Tryz.ntmps129
          go_wp2_with (go_at_call 168; refine (number_any k h hk).mono ?_; rw [HN.out]; rintro e w1 ⟨rfl, hkm, hr1, hf3⟩; rw [HL.out])
          have c0 : w1.cell? ⟨g, 0, none⟩ = some (.slice A n c) := hr1.bk.cell 0
          have c1 : w1.cell? ⟨g, 1, none⟩ = some (.int .i64 (k + m : Nat)) := hr1.bk.cell 1
          have f1 : w1.frozen? ⟨g, 1, none⟩ = false := hr1.bk.frozen 1
          have hcap := h.cap
          have hbig := h.big
          generalize k + m = K at *
          go_quiet (fail)
          go_wp2_with fail
          have hr2 := (hr1.quiet ((Fr.refl (fun _ => False) w1).drewN nq)).set ((K + L : Nat) : Int)
          have hf4 : Fr (fun x => x = g) w ((w1.drewN nq).setCell ⟨g, 1, none⟩ (.int .i64 ((K + L : Nat) : Int))) := (hf3.drewN nq).trans fr_set (fun _ _ h => h)
          rw [Int.natCast_add] at hr2 hf4
          clear c0 c1 f1 hr1 hf3
          generalize (w1.drewN nq).setCell ⟨g, 1, none⟩ (.int .i64 ((K : Int) + L)) = w2 at *
          have d0 : w2.cell? ⟨g, 0, none⟩ = some (.slice A n c) := hr2.bk.cell 0
          have d1 : w2.cell? ⟨g, 1, none⟩ = some (.int .i64 ((K : Int) + L)) := hr2.bk.cell 1
          have hKL : K + L ≤ n := by omega
          have i1 : (K : Int) + L ≤ c := by omega
          have fin : ∀ {w3 : World} {A4 : Option Addr} {c4 : Nat}, Own8 w3 5 (.slice A4 L c4) ((xs.drop K).take L) → Fresh w2.drew w3 (.slice A4 L c4) → StepPost w g A n c xs (.ok (K + L)) (runQ ((xs.drop K).take L)) (.returned (.slice A4 L c4)) w3 := by
            intro w3 A4 c4 ho4 hfr4
            have hq2 : Fr (fun _ => False) w2 w3 := ((Fr.refl (fun _ => False) w2).drew).trans hfr4.1 (fun _ _ h => h)
            refine ⟨_, rfl, hKL, ⟨0 + fat, what, ?_⟩, hf4.trans hq2 (fun _ _ h => h.elim), A4, c4, by rw [hrp], by rw [hrp]; exact ho4, fun kk hkk => Nat.le_trans hf4.size (hfr4.2 kk hkk)⟩
            rw [Int.zero_add, Int.natCast_add]
            exact hr2.quiet hq2
          have FIN := @Lib.hid _ @fin
          clear fin
          by_cases hcK : c = K
          · have hL0 : L = 0 := by omega
            subst hL0
            subst hcK
            simp only [Int.natCast_zero, Int.add_zero] at d1 i1
            have i2 : (c : Int) ≤ c := by omega
            have i3 : ¬ ((c : Int) < c) := by omega
            go_still_tail 10, (by kernel_rfl)
            change wpList _ _ _ _ _ w2.drew
            generalize hw2 : w2.drew = w2d at *
            have hfd : Fr (fun _ => False) w2 w2d := by subst hw2; exact (Fr.refl _ _).drew
            clear hw2
            go_wp2_with fail
            refine (clone_any A 0 _ [] w2d (Rd8.nil _ _) rfl (by omega)).mono ?_; rintro e w3 ⟨A4, c4, rfl, ho4, hfr4⟩
            go_wp2
            go_ret
            have := FIN.out ho4 hfr4
            simpa using this
          · have i2 : (K : Int) ≤ (K : Int) + L := by omega
            have i0 : (0 : Int) ≤ K := by omega
            rcases hA : A with _ | ad
            · subst hA
              go_still_tail 10, (by kernel_rfl)
              change wpList _ _ _ _ _ w2.drew
              generalize hw2 : w2.drew = w2d at *
              have hfd : Fr (fun _ => False) w2 w2d := by subst hw2; exact (Fr.refl _ _).drew
              clear hw2
              go_wp2_with fail
              have hx : (xs.drop K).take L = [] := by
                rcases Nat.eq_zero_or_pos n with h0 | h0
                · exact List.eq_nil_of_length_eq_zero (by omega)
                · obtain ⟨ad, e, _⟩ := h.rd (by omega)
                  cases e
              rw [show K + L - K = L by omega]
              refine (clone_any none L _ ((xs.drop K).take L) w2d (by rw [hx]; exact Rd8.nil _ _) hrp (by omega)).mono ?_; rintro e w3 ⟨A4, c4, rfl, ho4, hfr4⟩
              go_wp2
              go_ret
              exact FIN.out ho4 hfr4
            · subst hA
              obtain ⟨b, o, sp⟩ := ad
              cases h.spot _ rfl HN1.out
              go_still_tail 10, (by kernel_rfl)
              change wpList _ _ _ _ _ w2.drew
              generalize hw2 : w2.drew = w2d at *
              have hfd : Fr (fun _ => False) w2 w2d := by subst hw2; exact (Fr.refl _ _).drew
              clear hw2
              go_wp2_with fail
              rw [show K + L - K = L by omega]
              refine (clone_any _ L _ ((xs.drop K).take L) w2d ((hr2.quiet hfd).rd.part K L) hrp (by omega)).mono ?_; rintro e w3 ⟨A4, c4, rfl, ho4, hfr4⟩
              go_wp2
              go_ret
              exact FIN.out ho4 hfr4
end Go.Proofs.YtieoeoonopcjbaaGreatDoor

/- The reader's Between, Bytes, End, and a new one. -/
namespace Go.Proofs.YtieoeoonopcjbaaGreatDoor
open Go.RowKit

def stBetween (xs : List UInt8) (wh : ByteArray) (lo hi : Int) : St → Int × St
  | .bad er a w0 => (0, .bad er a w0)
  | .at_ k => match (srWithin xs k lo hi).1 with
    | .bad b => (0, .bad b k wh)
    | .ok k' => ((srWithin xs k lo hi).2, .at_ k')
def stBytes (xs : List UInt8) (wh : ByteArray) (most : Int) : St → List UInt8 × St
  | .bad er a w0 => ([], .bad er a w0)
  | .at_ k => match (srRun xs k most).1 with
    | .bad b => ([], .bad b k wh)
    | .ok k' => ((srRun xs k most).2, .at_ k')

theorem srWithin_bad {xs : List UInt8} {k : Nat} {lo hi b : Int} (h : (srWithin xs k lo hi).1 = .bad b) : b ≠ 0 := by
  unfold srWithin at h
  cases hN : rdNum (xs.drop k) with
  | bad b' => rw [hN] at h; injection h with h; subst h; exact num_bad hN
  | ok u m =>
    rw [hN] at h
    simp only at h
    split at h
    · injection h with h; omega
    · cases h
theorem srRun_bad {xs : List UInt8} {k : Nat} {most b : Int} (h : (srRun xs k most).1 = .bad b) : b ≠ 0 := by
  unfold srRun at h
  cases hN : rdNum (xs.drop k) with
  | bad b' => rw [hN] at h; injection h with h; subst h; exact num_bad hN
  | ok u m =>
    rw [hN] at h
    simp only at h
    repeat' split at h
    all_goals first | (injection h with h; omega) | cases h

set_option maxRecDepth 100000 in
set_option maxHeartbeats 1000000 in
theorem between1_any {w : World} {g : Nat} {A : Option Addr} {n c : Nat} {xs : List UInt8} {k : Nat} {fat : Int} {what : ByteArray} (h : Rdr w g A n c xs k 0 fat what) (hk : k ≤ n) (lo hi : Int) (a1 a2 a3 : Addr)
    (h1 : w.cell? a1 = some (.pointer (some ⟨g, 0, none⟩))) (h2 : w.cell? a2 = some (.int .i64 lo)) (h3 : w.cell? a3 = some (.int .i64 hi)) :
    Calls Tryz.prog 125 #[.pointer (some a1), .pointer (some a2), .pointer (some a3)] w (StepPost w g A n c xs (srWithin xs k lo hi).1 (fun _ v _ => v = .int .i64 (srWithin xs k lo hi).2)) := by
  generalize hR : (srWithin xs k lo hi).1 = r
  generalize hV : (srWithin xs k lo hi).2 = v0
  have HR := Lib.hid hR
  have HV := Lib.hid hV
  clear hR hV
  go_enter Tryz.func125, Tryz.ntmps125
  go_wp2_with fail
  refine (within_any h hk lo hi).mono ?_
  rw [HR.out, HV.out]
  cases r with
  | bad b =>
    rintro e w1 ⟨rfl, hr1, hf1⟩
    exact ⟨rfl, rfl, hr1, hf1⟩
  | ok k' =>
    rintro e w1 ⟨v, rfl, hk', hr1, hf1, rfl⟩
    go_wp2
    go_ret
    exact ⟨_, rfl, hk', hr1, hf1, rfl⟩

set_option maxRecDepth 100000 in
set_option maxHeartbeats 1000000 in
theorem bytes1_any {w : World} {g : Nat} {A : Option Addr} {n c : Nat} {xs : List UInt8} {k : Nat} {fat : Int} {what : ByteArray} (h : Rdr w g A n c xs k 0 fat what) (hk : k ≤ n) (most : Int) (a1 a2 : Addr)
    (h1 : w.cell? a1 = some (.pointer (some ⟨g, 0, none⟩))) (h2 : w.cell? a2 = some (.int .i64 most)) :
    Calls Tryz.prog 128 #[.pointer (some a1), .pointer (some a2)] w (StepPost w g A n c xs (srRun xs k most).1 (runQ (srRun xs k most).2)) := by
  generalize hR : (srRun xs k most).1 = r
  generalize hV : (srRun xs k most).2 = v0
  have HR := Lib.hid hR
  have HV := Lib.hid hV
  clear hR hV
  go_enter Tryz.func128, Tryz.ntmps128
  go_wp2_with fail
  refine (run_any h hk most).mono ?_
  rw [HR.out, HV.out]
  cases r with
  | bad b =>
    rintro e w1 ⟨rfl, hr1, hf1⟩
    exact ⟨rfl, rfl, hr1, hf1⟩
  | ok k' =>
    rintro e w1 ⟨v, rfl, hk', hr1, hf1, hq⟩
    go_wp2
    go_ret
    exact ⟨_, rfl, hk', hr1, hf1, hq⟩

set_option maxRecDepth 100000 in
set_option maxHeartbeats 1000000 in
theorem rBetween_any {w : World} {g : Nat} {A : Option Addr} {n c : Nat} {xs : List UInt8} {s : St} (h : RdAt w g A n c xs s) (ht : ErrT w) (wh : ByteArray) (hg : g ≠ 0) (lo hi : Int) :
    Calls Tryz.prog 69 #[.pointer (some ⟨g, 0, none⟩), .string wh, .int .i64 lo, .int .i64 hi] w fun e w' =>
      e = .returned (.int .i64 (stBetween xs wh lo hi s).1) ∧ RdAt w' g A n c xs (stBetween xs wh lo hi s).2 ∧ Fr (fun x => x = g) w w' := by
  have hmf : ∀ (fn : Fn) (first cap : Array Value) (w : World), (Instr.makeFunc fn first cap).run Tryz.prog w = .ok (.func fn first cap) w := fun _ _ _ _ => rfl
  have hf0 : Fr (fun _ => False) w (((w.alloc (.cells #[.pointer (some ⟨g, 0, none⟩)] 78)).alloc (.cells #[.int .i64 lo] 3)).alloc (.cells #[.int .i64 hi] 3)) := (((Fr.refl _ _).alloc _).alloc _).alloc _
  have hcells : (((w.alloc (.cells #[.pointer (some ⟨g, 0, none⟩)] 78)).alloc (.cells #[.int .i64 lo] 3)).alloc (.cells #[.int .i64 hi] 3)).cell? ⟨w.heap.size, 0, none⟩ = some (.pointer (some ⟨g, 0, none⟩)) ∧
      (((w.alloc (.cells #[.pointer (some ⟨g, 0, none⟩)] 78)).alloc (.cells #[.int .i64 lo] 3)).alloc (.cells #[.int .i64 hi] 3)).cell? ⟨w.heap.size + 1, 0, none⟩ = some (.int .i64 lo) ∧
      (((w.alloc (.cells #[.pointer (some ⟨g, 0, none⟩)] 78)).alloc (.cells #[.int .i64 lo] 3)).alloc (.cells #[.int .i64 hi] 3)).cell? ⟨w.heap.size + 1 + 1, 0, none⟩ = some (.int .i64 hi) ∧
      (((w.alloc (.cells #[.pointer (some ⟨g, 0, none⟩)] 78)).alloc (.cells #[.int .i64 lo] 3)).alloc (.cells #[.int .i64 hi] 3)).heap.size = w.heap.size + 1 + 1 + 1 := by simp [go_sem]
  have HC := Lib.hid hcells
  clear hcells
  cases s with
  | bad er a w0 =>
    obtain ⟨he, p, hr⟩ := h
    have he' : (er == 0) = false := by rw [beq_eq_false_iff_ne]; exact he
    go_enter Tryz.func69, Tryz.ntmps69
    go_wp2_with (go_at_call 124; refine (tryInt_bad (hr.quiet hf0) he' wh _).mono ?_; rintro e w1 ⟨rfl, h1⟩)
    go_ret
    have h2 := hf0.trans h1 (fun _ _ h => h)
    exact ⟨rfl, ⟨he, p, hr.quiet h2⟩, h2.mono (fun _ _ h => h.elim)⟩
  | at_ k =>
    obtain ⟨hk, fat, what, hr⟩ := h
    have hs : stBetween xs wh lo hi (.at_ k) = (match (srWithin xs k lo hi).1 with | .bad b => (0, .bad b k wh) | .ok k' => ((srWithin xs k lo hi).2, .at_ k')) := rfl
    have hbad : ∀ b, (srWithin xs k lo hi).1 = .bad b → b ≠ 0 := fun b => srWithin_bad
    have hstep : ∀ W, Fr (fun _ => False) (((w.alloc (.cells #[.pointer (some ⟨g, 0, none⟩)] 78)).alloc (.cells #[.int .i64 lo] 3)).alloc (.cells #[.int .i64 hi] 3)) W →
        Calls Tryz.prog 125 #[.pointer (some ⟨w.heap.size, 0, none⟩), .pointer (some ⟨w.heap.size + 1, 0, none⟩), .pointer (some ⟨w.heap.size + 1 + 1, 0, none⟩)] W (StepPost W g A n c xs (srWithin xs k lo hi).1 (fun _ v _ => v = .int .i64 (srWithin xs k lo hi).2)) := by
      intro W hW
      obtain ⟨e1, e2, e3, e4⟩ := HC.out
      exact between1_any (hr.quiet (hf0.trans hW (fun _ _ h => h))) hk lo hi _ _ _ ((hW.cell (p := ⟨w.heap.size, 0, none⟩) (by rw [e4]; show w.heap.size < _; omega) (fun h => h)).trans e1) ((hW.cell (p := ⟨w.heap.size + 1, 0, none⟩) (by rw [e4]; show w.heap.size + 1 < _; omega) (fun h => h)).trans e2) ((hW.cell (p := ⟨w.heap.size + 1 + 1, 0, none⟩) (by rw [e4]; show w.heap.size + 1 + 1 < _; omega) (fun h => h)).trans e3)
    rw [hs]
    clear hs
    generalize (srWithin xs k lo hi).1 = r at *
    generalize (srWithin xs k lo hi).2 = v0 at *
    have HS := Lib.hid hstep
    have HB := Lib.hid hbad
    clear hstep hbad
    go_enter Tryz.func69, Tryz.ntmps69
    go_wp2_with fail
    refine (tryInt_step (hr.quiet hf0) (ht.fr hf0 (fun h => h)) wh hg _ _ r _ HS.out HB.out (fun _ => by kernel_rfl)).mono ?_
    cases r with
    | bad b =>
      rintro e w1 ⟨rfl, h1, h2⟩
      go_wp2
      go_ret
      exact ⟨rfl, h1, (hf0.mono (fun _ _ h => h.elim)).trans h2 (fun _ _ h => h)⟩
    | ok k' =>
      rintro e w1 ⟨v, W, rfl, h1, h2, _, rfl⟩
      go_wp2
      go_ret
      exact ⟨rfl, h1, (hf0.mono (fun _ _ h => h.elim)).trans h2 (fun _ _ h => h)⟩
end Go.Proofs.YtieoeoonopcjbaaGreatDoor

/- The reader's Bytes, End, and a new one. -/
namespace Go.Proofs.YtieoeoonopcjbaaGreatDoor
open Go.RowKit

def SliceNew (w w' : World) (v : Value) (bs : List UInt8) : Prop := ∃ A' c', v = .slice A' bs.length c' ∧ Own8 w' 5 (.slice A' bs.length c') bs ∧ ∀ k, v.ownBlock = some k → w.heap.size ≤ k

set_option maxRecDepth 100000 in
set_option maxHeartbeats 1000000 in
theorem rBytes_any {w : World} {g : Nat} {A : Option Addr} {n c : Nat} {xs : List UInt8} {s : St} (h : RdAt w g A n c xs s) (ht : ErrT w) (wh : ByteArray) (hg : g ≠ 0) (most : Int) :
    Calls Tryz.prog 70 #[.pointer (some ⟨g, 0, none⟩), .string wh, .int .i64 most] w fun e w' =>
      ∃ v, e = .returned v ∧ SliceNew w w' v (stBytes xs wh most s).1 ∧ RdAt w' g A n c xs (stBytes xs wh most s).2 ∧ Fr (fun x => x = g) w w' := by
  have hmf : ∀ (fn : Fn) (first cap : Array Value) (w : World), (Instr.makeFunc fn first cap).run Tryz.prog w = .ok (.func fn first cap) w := fun _ _ _ _ => rfl
  have hf0 : Fr (fun _ => False) w ((w.alloc (.cells #[.pointer (some ⟨g, 0, none⟩)] 78)).alloc (.cells #[.int .i64 most] 3)) := ((Fr.refl _ _).alloc _).alloc _
  have hcells : ((w.alloc (.cells #[.pointer (some ⟨g, 0, none⟩)] 78)).alloc (.cells #[.int .i64 most] 3)).cell? ⟨w.heap.size, 0, none⟩ = some (.pointer (some ⟨g, 0, none⟩)) ∧
      ((w.alloc (.cells #[.pointer (some ⟨g, 0, none⟩)] 78)).alloc (.cells #[.int .i64 most] 3)).cell? ⟨w.heap.size + 1, 0, none⟩ = some (.int .i64 most) ∧
      ((w.alloc (.cells #[.pointer (some ⟨g, 0, none⟩)] 78)).alloc (.cells #[.int .i64 most] 3)).heap.size = w.heap.size + 1 + 1 := by simp [go_sem]
  have HC := Lib.hid hcells
  clear hcells
  cases s with
  | bad er a w0 =>
    obtain ⟨he, p, hr⟩ := h
    have he' : (er == 0) = false := by rw [beq_eq_false_iff_ne]; exact he
    go_enter Tryz.func70, Tryz.ntmps70
    go_wp2_with (go_at_call 127; refine (tryB_bad (hr.quiet hf0) he' wh _).mono ?_; rintro e w1 ⟨rfl, h1⟩)
    go_ret
    have h2 := hf0.trans h1 (fun _ _ h => h)
    exact ⟨_, rfl, ⟨none, 0, rfl, Own8.nil _ _, fun k hk => by simp [Value.ownBlock] at hk⟩, ⟨he, p, hr.quiet h2⟩, h2.mono (fun _ _ h => h.elim)⟩
  | at_ k =>
    obtain ⟨hk, fat, what, hr⟩ := h
    have hs : stBytes xs wh most (.at_ k) = (match (srRun xs k most).1 with | .bad b => ([], .bad b k wh) | .ok k' => ((srRun xs k most).2, .at_ k')) := rfl
    have hbad : ∀ b, (srRun xs k most).1 = .bad b → b ≠ 0 := fun b => srRun_bad
    have hstep : ∀ W, Fr (fun _ => False) ((w.alloc (.cells #[.pointer (some ⟨g, 0, none⟩)] 78)).alloc (.cells #[.int .i64 most] 3)) W →
        Calls Tryz.prog 128 #[.pointer (some ⟨w.heap.size, 0, none⟩), .pointer (some ⟨w.heap.size + 1, 0, none⟩)] W (StepPost W g A n c xs (srRun xs k most).1 (runQ (srRun xs k most).2)) := by
      intro W hW
      obtain ⟨e1, e2, e4⟩ := HC.out
      exact bytes1_any (hr.quiet (hf0.trans hW (fun _ _ h => h))) hk most _ _ ((hW.cell (p := ⟨w.heap.size, 0, none⟩) (by rw [e4]; show w.heap.size < _; omega) (fun h => h)).trans e1) ((hW.cell (p := ⟨w.heap.size + 1, 0, none⟩) (by rw [e4]; show w.heap.size + 1 < _; omega) (fun h => h)).trans e2)
    rw [hs]
    clear hs
    generalize (srRun xs k most).1 = r at *
    generalize (srRun xs k most).2 = v0 at *
    have HS := Lib.hid hstep
    have HB := Lib.hid hbad
    clear hstep hbad
    go_enter Tryz.func70, Tryz.ntmps70
    go_wp2_with fail
    refine (tryB_step (hr.quiet hf0) (ht.fr hf0 (fun h => h)) wh hg _ _ r _ HS.out HB.out (fun _ => by kernel_rfl)).mono ?_
    cases r with
    | bad b =>
      rintro e w1 ⟨rfl, h1, h2⟩
      go_wp2
      go_ret
      exact ⟨_, rfl, ⟨none, 0, rfl, Own8.nil _ _, fun k hk => by simp [Value.ownBlock] at hk⟩, h1, (hf0.mono (fun _ _ h => h.elim)).trans h2 (fun _ _ h => h)⟩
    | ok k' =>
      rintro e w1 ⟨v, W, rfl, h1, h2, hW, ⟨A', c', rfl, ho, hown⟩⟩
      go_wp2
      go_ret
      exact ⟨_, rfl, ⟨A', c', rfl, ho, fun k hk => Nat.le_trans (Nat.le_trans hf0.size hW.size) (hown k hk)⟩, h1, (hf0.mono (fun _ _ h => h.elim)).trans h2 (fun _ _ h => h)⟩

def sEnd : ByteArray := ⟨#[101, 110, 100]⟩
/-- What a reader tells in the end. -/
def stEnd (xs : List UInt8) : St → Option (Int × Int × ByteArray)
  | .bad er a wh => some (er, a, wh)
  | .at_ k => if k < xs.length then some (8, k, sEnd) else none

/-- An error: none, or a Fault in a new block. -/
def ErrIs (w w' : World) (v : Value) : Option (Int × Int × ByteArray) → Prop
  | none => v = .nilIface
  | some (er, a, wh) => ∃ fb, v = .iface 96 (.pointer (some ⟨fb, 0, none⟩)) ∧ Bk w' fb 99 #[.int .i64 er, .int .i64 a, .string wh] ∧ w.heap.size ≤ fb

set_option maxRecDepth 100000 in
set_option maxHeartbeats 1000000 in
theorem rEnd_any {w : World} {g : Nat} {A : Option Addr} {n c : Nat} {xs : List UInt8} {s : St} (h : RdAt w g A n c xs s) :
    Calls Tryz.prog 38 #[.pointer (some ⟨g, 0, none⟩)] w fun e w' => ∃ v, e = .returned v ∧ ErrIs w w' v (stEnd xs s) ∧ Fr (fun _ => False) w w' := by
  cases s with
  | bad er a w0 =>
    obtain ⟨he, p, hr⟩ := h
    have he' : (er == 0) = false := by rw [beq_eq_false_iff_ne]; exact he
    have c2 : w.cell? ⟨g, 2, none⟩ = some (.int .i64 er) := hr.bk.cell 2
    have c3 : w.cell? ⟨g, 3, none⟩ = some (.int .i64 a) := hr.bk.cell 3
    have c4 : w.cell? ⟨g, 4, none⟩ = some (.string w0) := hr.bk.cell 4
    go_enter Tryz.func38, Tryz.ntmps38
    go_wp2_with (go_at_call 111; refine (failed_any hr _ he').mono ?_; rintro e w' ⟨rfl, rfl⟩)
    go_ret
    exact ⟨_, rfl, ⟨_, rfl, Bk.new _ _ _, Nat.le_refl _⟩, (Fr.refl _ _).alloc _⟩
  | at_ k =>
    obtain ⟨hk, fat, what, hr⟩ := h
    have hl := hr.len
    have c0 : w.cell? ⟨g, 0, none⟩ = some (.slice A n c) := hr.bk.cell 0
    have c1 : w.cell? ⟨g, 1, none⟩ = some (.int .i64 k) := hr.bk.cell 1
    by_cases hlt : k < n
    · have hs : stEnd xs (.at_ k) = some ((8 : Int), (k : Int), sEnd) := by simp only [stEnd]; rw [if_pos (by omega)]
      rw [hs]
      clear hs
      go_enter Tryz.func38, Tryz.ntmps38
      go_wp2_with (go_at_call 111; refine (failed_any hr true rfl).mono ?_; rintro e w' ⟨rfl, rfl⟩)
      go_quiet (fail)
      go_wp2
      go_ret
      exact ⟨_, rfl, ⟨_, rfl, Bk.new _ _ _, Nat.le_refl _⟩, ((Fr.refl _ _).drewN _).alloc _⟩
    · have hs : stEnd xs (.at_ k) = none := by simp only [stEnd]; rw [if_neg (by omega)]
      rw [hs]
      clear hs
      have hge : (n : Int) ≤ k := by omega
      go_enter Tryz.func38, Tryz.ntmps38
      go_wp2_with (go_at_call 111; refine (failed_any hr true rfl).mono ?_; rintro e w' ⟨rfl, rfl⟩)
      go_quiet (fail)
      go_wp2
      go_ret
      exact ⟨_, rfl, rfl, (Fr.refl _ _).drewN _⟩

set_option maxRecDepth 100000 in
set_option maxHeartbeats 1000000 in
theorem newReader_any (A : Option Addr) (n c : Nat) (xs : List UInt8) (w : World) (hr : Rd8 w A xs) (hn : xs.length = n) (hb : n ≤ 17592186044416) :
    Calls Tryz.prog 36 #[.slice A n c] w fun e w' => ∃ g A' c', e = .returned (.pointer (some ⟨g, 0, none⟩)) ∧ RdAt w' g A' n c' xs (.at_ 0) ∧ Fr (fun _ => False) w w' ∧ w.heap.size ≤ g := by
  go_enter Tryz.func36, Tryz.ntmps36
  go_wp2_with (go_at_call 100; refine (clone_any A n c xs w hr hn (by omega)).mono ?_; rintro e w1 ⟨A1, c1, rfl, ho1, hf1⟩)
  go_ret
  have hbk := Bk.new w1 178 #[.slice A1 n c1, .int .i64 0, .int .i64 0, .int .i64 0, .string ByteArray.empty]
  have hq : Fr (fun _ => False) w1 (w1.alloc (.cells #[.slice A1 n c1, .int .i64 0, .int .i64 0, .int .i64 0, .string ByteArray.empty] 178)) := (Fr.refl _ _).alloc _
  refine ⟨_, A1, c1, rfl, ⟨Nat.zero_le _, 0, ByteArray.empty, ?_⟩, hf1.1.trans hq (fun _ _ h => h), hf1.1.size⟩
  exact
    { bk := hbk
      rd := (ho1.fr hq (fun _ _ h => h)).rd
      len := hn
      cap := by
        rcases ho1.form with ⟨e, h0⟩ | ⟨g, cap, e, h1, _⟩
        · subst h0; simp at hn; omega
        · injection e with _ _ e; subst e; omega
      big := by omega
      apart := fun ad e _ => by
        subst e
        have := ho1.lt (k := ad.block) rfl
        omega
      spot := fun ad e _ => by
        subst e
        rcases ho1.form with ⟨e, h0⟩ | ⟨g, cap, e, h1, _⟩
        · cases e
        · injection e with e _ _; injection e with e; subst e; rfl }
end Go.Proofs.YtieoeoonopcjbaaGreatDoor
