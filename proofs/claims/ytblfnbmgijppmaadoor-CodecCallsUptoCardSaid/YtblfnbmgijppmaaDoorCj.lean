/- The reader's steps: a panic becomes the fault that stays. -/
import Derived.Test.YtblfnbmgijppmaaDoorCi
import Derived.Deep.RegionHeld3
namespace Go.Proofs.YtblfnbmgijppmaaDoor
open Go.RowKit

section
variable {w w' : World} {g : Nat} {A : Option Addr} {n c : Nat} {xs : List UInt8} {at_ er fat : Int} {what : ByteArray}
theorem Rdr.fault (h : Rdr w g A n c xs at_ er fat what) (k a : Int) (wh : ByteArray) :
    Rdr (((w.setCell ⟨g, 2, none⟩ (.int .i64 k)).setCell ⟨g, 3, none⟩ (.int .i64 a)).setCell ⟨g, 4, none⟩ (.string wh)) g A n c xs at_ k a wh :=
  { h with
    bk := by
      have := ((h.bk.set 2 (.int .i64 k)).set 3 (.int .i64 a)).set 4 (.string wh)
      simpa using this
    rd := h.rd.fr (((fr_set (i := 2)).trans (fr_set (i := 3)) (fun _ _ h => h)).trans (fr_set (i := 4)) (fun _ _ h => h)) (fun ad ha h0 => h.apart ad ha (by rw [← h.len]; exact h0)) }
end

set_option maxRecDepth 100000 in
set_option maxHeartbeats 4000000 in
theorem catch64 {w : World} {g : Nat} {A : Option Addr} {n c : Nat} {xs : List UInt8} {at_ er fat : Int} {what : ByteArray} (h : Rdr w g A n c xs at_ er fat what) (ht : ErrT w)
    (pa pw pr : Addr) (k a : Int) (wh : ByteArray) (ha : w.cell? pa = some (.int .i64 a)) (hw : w.cell? pw = some (.string wh)) (hr : w.cell? pr = some (.pointer (some ⟨g, 0, none⟩))) (na : pa.block ≠ g) (nw : pw.block ≠ g) (nr : pr.block ≠ g) :
    CallsD Tryd.prog 57 #[.pointer (some pa), .pointer (some pw), .pointer (some pr)] (.panicking [{ v := .iface 59 (.int .i64 k), recovered := false }]) w fun e u' w' =>
      e = .returned (.tuple #[]) ∧ u' = .panicking [{ v := .iface 59 (.int .i64 k), recovered := true }] ∧ Rdr w' g A n c xs at_ k a wh ∧ Fr (fun x => x = g) w w' := by
  refine callsD_of_wpS Tryd.func57 rfl fun c₀ cs hu => ?_
  apply wpS_seq
  apply wpS_region
  simp [wpOpsS, go_sem, recoverD, hu, Tryd.ntmps57, Exit.thenS]
  refine wpS_of_wp ?_
  have hlg := h.bk.lt
  have r2 : w.cell? ⟨g, 2, none⟩ = some (.int .i64 er) := h.bk.cell 2
  have r3 : w.cell? ⟨g, 3, none⟩ = some (.int .i64 fat) := h.bk.cell 3
  have r4 : w.cell? ⟨g, 4, none⟩ = some (.string what) := h.bk.cell 4
  have f2 : w.frozen? ⟨g, 2, none⟩ = false := h.bk.frozen 2
  have f3 : w.frozen? ⟨g, 3, none⟩ = false := h.bk.frozen 3
  have f4 : w.frozen? ⟨g, 4, none⟩ = false := h.bk.frozen 4
  change Code.wp _ _ _ { tmps := #[.pointer (some pa), .pointer (some pw), .pointer (some pr), .iface 59 (.int .i64 k), .iface 59 (.int .i64 k), undef, undef, undef, undef, undef, undef, undef, undef, undef, undef], defers := [] } w
  have mk : ∀ {w' : World}, Fr (fun x => x = g) w w' → w'.cell? pr = some (.pointer (some ⟨g, 0, none⟩)) ∧ w'.cell? pa = some (.int .i64 a) ∧ w'.cell? pw = some (.string wh) ∧ Fr (fun x => x = g) w w' := fun hF =>
    ⟨(hF.cell (World.block_lt_of_cell? w _ hr) nr).trans hr, (hF.cell (World.block_lt_of_cell? w _ ha) na).trans ha, (hF.cell (World.block_lt_of_cell? w _ hw) nw).trans hw, hF⟩
  have MK := @Lib.hid _ @mk
  clear mk
  go_wp2_with fail
  go_region_held3 (fun w' => w'.cell? pr = some (.pointer (some ⟨g, 0, none⟩)) ∧ w'.cell? pa = some (.int .i64 a) ∧ w'.cell? pw = some (.string wh) ∧ Fr (fun x => x = g) w w')
    (first
      | exact MK.out (Fr.refl _ _).drew
      | exact MK.out hf2
      | exact MK.out (((hf2.trans fr_set (fun _ _ h => h)).trans fr_set (fun _ _ h => h)).trans fr_set (fun _ _ h => h)))
    (first | (go_at_call 58; refine (thrown_any k _ (ht.fr (Fr.refl (fun _ => False) w).drew (fun h => h))).mono ?_; rintro e w1 ⟨rfl, hf⟩; have hf1 : Fr (fun _ => False) w w1 := (Fr.refl (fun _ => False) w).drew.trans hf (fun _ _ h => h); have hf2 : Fr (fun x => x = g) w w1 := hf1.mono (fun _ _ h => h.elim); have q2 := (hf1.cell (p := ⟨g, 2, none⟩) hlg (fun h => h)).trans r2; have q3 := (hf1.cell (p := ⟨g, 3, none⟩) hlg (fun h => h)).trans r3; have q4 := (hf1.cell (p := ⟨g, 4, none⟩) hlg (fun h => h)).trans r4; have e2 := (hf1.frozen (p := ⟨g, 2, none⟩) hlg (fun h => h)).trans f2; have e3 := (hf1.frozen (p := ⟨g, 3, none⟩) hlg (fun h => h)).trans f3; have e4 := (hf1.frozen (p := ⟨g, 4, none⟩) hlg (fun h => h)).trans f4))
  have hf3 := hf2.trans (((fr_set (i := 2) (v := .int .i64 k)).trans (fr_set (i := 3) (v := .int .i64 a)) (fun _ _ h => h)).trans (fr_set (i := 4) (v := .string wh)) (fun _ _ h => h)) (fun _ _ h => h)
  have hr3 := (h.quiet hf1).fault k a wh
  exact ⟨rfl, _, rfl, _, results_none rfl _ _ _, rfl, rfl, hr3, hf3⟩

set_option maxRecDepth 100000 in
set_option maxHeartbeats 1000000 in
theorem idle64 (pa pw pr : Addr) (w : World) :
    CallsD Tryd.prog 57 #[.pointer (some pa), .pointer (some pw), .pointer (some pr)] .returning w fun e u' w' => e = .returned (.tuple #[]) ∧ u' = .returning ∧ w = w' := by
  refine callsD_of_wpS Tryd.func57 rfl fun c₀ cs hu => ?_
  apply wpS_seq
  apply wpS_region
  simp [wpOpsS, go_sem, recoverD, hu, Tryd.ntmps57, Exit.thenS]
  refine wpS_of_wp ?_
  change Code.wp _ _ _ { tmps := #[.pointer (some pa), .pointer (some pw), .pointer (some pr), .nilIface, .nilIface, undef, undef, undef, undef, undef, undef, undef, undef, undef, undef], defers := [] } w
  go_wp2
  exact ⟨rfl, _, by cases c₀; simp_all, _, results_none rfl _ _ _, rfl, rfl, rfl⟩
set_option maxRecDepth 100000 in
set_option maxHeartbeats 4000000 in
theorem catchInt {w : World} {g : Nat} {A : Option Addr} {n c : Nat} {xs : List UInt8} {at_ er fat : Int} {what : ByteArray} (h : Rdr w g A n c xs at_ er fat what) (ht : ErrT w)
    (pa pw pr : Addr) (k a : Int) (wh : ByteArray) (ha : w.cell? pa = some (.int .i64 a)) (hw : w.cell? pw = some (.string wh)) (hr : w.cell? pr = some (.pointer (some ⟨g, 0, none⟩))) (na : pa.block ≠ g) (nw : pw.block ≠ g) (nr : pr.block ≠ g) :
    CallsD Tryd.prog 68 #[.pointer (some pa), .pointer (some pw), .pointer (some pr)] (.panicking [{ v := .iface 59 (.int .i64 k), recovered := false }]) w fun e u' w' =>
      e = .returned (.tuple #[]) ∧ u' = .panicking [{ v := .iface 59 (.int .i64 k), recovered := true }] ∧ Rdr w' g A n c xs at_ k a wh ∧ Fr (fun x => x = g) w w' := by
  refine callsD_of_wpS Tryd.func68 rfl fun c₀ cs hu => ?_
  apply wpS_seq
  apply wpS_region
  simp [wpOpsS, go_sem, recoverD, hu, Tryd.ntmps68, Exit.thenS]
  refine wpS_of_wp ?_
  have hlg := h.bk.lt
  have r2 : w.cell? ⟨g, 2, none⟩ = some (.int .i64 er) := h.bk.cell 2
  have r3 : w.cell? ⟨g, 3, none⟩ = some (.int .i64 fat) := h.bk.cell 3
  have r4 : w.cell? ⟨g, 4, none⟩ = some (.string what) := h.bk.cell 4
  have f2 : w.frozen? ⟨g, 2, none⟩ = false := h.bk.frozen 2
  have f3 : w.frozen? ⟨g, 3, none⟩ = false := h.bk.frozen 3
  have f4 : w.frozen? ⟨g, 4, none⟩ = false := h.bk.frozen 4
  change Code.wp _ _ _ { tmps := #[.pointer (some pa), .pointer (some pw), .pointer (some pr), .iface 59 (.int .i64 k), .iface 59 (.int .i64 k), undef, undef, undef, undef, undef, undef, undef, undef, undef, undef], defers := [] } w
  have mk : ∀ {w' : World}, Fr (fun x => x = g) w w' → w'.cell? pr = some (.pointer (some ⟨g, 0, none⟩)) ∧ w'.cell? pa = some (.int .i64 a) ∧ w'.cell? pw = some (.string wh) ∧ Fr (fun x => x = g) w w' := fun hF =>
    ⟨(hF.cell (World.block_lt_of_cell? w _ hr) nr).trans hr, (hF.cell (World.block_lt_of_cell? w _ ha) na).trans ha, (hF.cell (World.block_lt_of_cell? w _ hw) nw).trans hw, hF⟩
  have MK := @Lib.hid _ @mk
  clear mk
  go_wp2_with fail
  go_region_held3 (fun w' => w'.cell? pr = some (.pointer (some ⟨g, 0, none⟩)) ∧ w'.cell? pa = some (.int .i64 a) ∧ w'.cell? pw = some (.string wh) ∧ Fr (fun x => x = g) w w')
    (first
      | exact MK.out (Fr.refl _ _).drew
      | exact MK.out hf2
      | exact MK.out (((hf2.trans fr_set (fun _ _ h => h)).trans fr_set (fun _ _ h => h)).trans fr_set (fun _ _ h => h)))
    (first | (go_at_call 58; refine (thrown_any k _ (ht.fr (Fr.refl (fun _ => False) w).drew (fun h => h))).mono ?_; rintro e w1 ⟨rfl, hf⟩; have hf1 : Fr (fun _ => False) w w1 := (Fr.refl (fun _ => False) w).drew.trans hf (fun _ _ h => h); have hf2 : Fr (fun x => x = g) w w1 := hf1.mono (fun _ _ h => h.elim); have q2 := (hf1.cell (p := ⟨g, 2, none⟩) hlg (fun h => h)).trans r2; have q3 := (hf1.cell (p := ⟨g, 3, none⟩) hlg (fun h => h)).trans r3; have q4 := (hf1.cell (p := ⟨g, 4, none⟩) hlg (fun h => h)).trans r4; have e2 := (hf1.frozen (p := ⟨g, 2, none⟩) hlg (fun h => h)).trans f2; have e3 := (hf1.frozen (p := ⟨g, 3, none⟩) hlg (fun h => h)).trans f3; have e4 := (hf1.frozen (p := ⟨g, 4, none⟩) hlg (fun h => h)).trans f4))
  have hf3 := hf2.trans (((fr_set (i := 2) (v := .int .i64 k)).trans (fr_set (i := 3) (v := .int .i64 a)) (fun _ _ h => h)).trans (fr_set (i := 4) (v := .string wh)) (fun _ _ h => h)) (fun _ _ h => h)
  have hr3 := (h.quiet hf1).fault k a wh
  exact ⟨rfl, _, rfl, _, results_none rfl _ _ _, rfl, rfl, hr3, hf3⟩

set_option maxRecDepth 100000 in
set_option maxHeartbeats 1000000 in
theorem idleInt (pa pw pr : Addr) (w : World) :
    CallsD Tryd.prog 68 #[.pointer (some pa), .pointer (some pw), .pointer (some pr)] .returning w fun e u' w' => e = .returned (.tuple #[]) ∧ u' = .returning ∧ w = w' := by
  refine callsD_of_wpS Tryd.func68 rfl fun c₀ cs hu => ?_
  apply wpS_seq
  apply wpS_region
  simp [wpOpsS, go_sem, recoverD, hu, Tryd.ntmps68, Exit.thenS]
  refine wpS_of_wp ?_
  change Code.wp _ _ _ { tmps := #[.pointer (some pa), .pointer (some pw), .pointer (some pr), .nilIface, .nilIface, undef, undef, undef, undef, undef, undef, undef, undef, undef, undef], defers := [] } w
  go_wp2
  exact ⟨rfl, _, by cases c₀; simp_all, _, results_none rfl _ _ _, rfl, rfl, rfl⟩
set_option maxRecDepth 100000 in
set_option maxHeartbeats 4000000 in
theorem catchB {w : World} {g : Nat} {A : Option Addr} {n c : Nat} {xs : List UInt8} {at_ er fat : Int} {what : ByteArray} (h : Rdr w g A n c xs at_ er fat what) (ht : ErrT w)
    (pa pw pr : Addr) (k a : Int) (wh : ByteArray) (ha : w.cell? pa = some (.int .i64 a)) (hw : w.cell? pw = some (.string wh)) (hr : w.cell? pr = some (.pointer (some ⟨g, 0, none⟩))) (na : pa.block ≠ g) (nw : pw.block ≠ g) (nr : pr.block ≠ g) :
    CallsD Tryd.prog 61 #[.pointer (some pa), .pointer (some pw), .pointer (some pr)] (.panicking [{ v := .iface 59 (.int .i64 k), recovered := false }]) w fun e u' w' =>
      e = .returned (.tuple #[]) ∧ u' = .panicking [{ v := .iface 59 (.int .i64 k), recovered := true }] ∧ Rdr w' g A n c xs at_ k a wh ∧ Fr (fun x => x = g) w w' := by
  refine callsD_of_wpS Tryd.func61 rfl fun c₀ cs hu => ?_
  apply wpS_seq
  apply wpS_region
  simp [wpOpsS, go_sem, recoverD, hu, Tryd.ntmps61, Exit.thenS]
  refine wpS_of_wp ?_
  have hlg := h.bk.lt
  have r2 : w.cell? ⟨g, 2, none⟩ = some (.int .i64 er) := h.bk.cell 2
  have r3 : w.cell? ⟨g, 3, none⟩ = some (.int .i64 fat) := h.bk.cell 3
  have r4 : w.cell? ⟨g, 4, none⟩ = some (.string what) := h.bk.cell 4
  have f2 : w.frozen? ⟨g, 2, none⟩ = false := h.bk.frozen 2
  have f3 : w.frozen? ⟨g, 3, none⟩ = false := h.bk.frozen 3
  have f4 : w.frozen? ⟨g, 4, none⟩ = false := h.bk.frozen 4
  change Code.wp _ _ _ { tmps := #[.pointer (some pa), .pointer (some pw), .pointer (some pr), .iface 59 (.int .i64 k), .iface 59 (.int .i64 k), undef, undef, undef, undef, undef, undef, undef, undef, undef, undef], defers := [] } w
  have mk : ∀ {w' : World}, Fr (fun x => x = g) w w' → w'.cell? pr = some (.pointer (some ⟨g, 0, none⟩)) ∧ w'.cell? pa = some (.int .i64 a) ∧ w'.cell? pw = some (.string wh) ∧ Fr (fun x => x = g) w w' := fun hF =>
    ⟨(hF.cell (World.block_lt_of_cell? w _ hr) nr).trans hr, (hF.cell (World.block_lt_of_cell? w _ ha) na).trans ha, (hF.cell (World.block_lt_of_cell? w _ hw) nw).trans hw, hF⟩
  have MK := @Lib.hid _ @mk
  clear mk
  go_wp2_with fail
  go_region_held3 (fun w' => w'.cell? pr = some (.pointer (some ⟨g, 0, none⟩)) ∧ w'.cell? pa = some (.int .i64 a) ∧ w'.cell? pw = some (.string wh) ∧ Fr (fun x => x = g) w w')
    (first
      | exact MK.out (Fr.refl _ _).drew
      | exact MK.out hf2
      | exact MK.out (((hf2.trans fr_set (fun _ _ h => h)).trans fr_set (fun _ _ h => h)).trans fr_set (fun _ _ h => h)))
    (first | (go_at_call 58; refine (thrown_any k _ (ht.fr (Fr.refl (fun _ => False) w).drew (fun h => h))).mono ?_; rintro e w1 ⟨rfl, hf⟩; have hf1 : Fr (fun _ => False) w w1 := (Fr.refl (fun _ => False) w).drew.trans hf (fun _ _ h => h); have hf2 : Fr (fun x => x = g) w w1 := hf1.mono (fun _ _ h => h.elim); have q2 := (hf1.cell (p := ⟨g, 2, none⟩) hlg (fun h => h)).trans r2; have q3 := (hf1.cell (p := ⟨g, 3, none⟩) hlg (fun h => h)).trans r3; have q4 := (hf1.cell (p := ⟨g, 4, none⟩) hlg (fun h => h)).trans r4; have e2 := (hf1.frozen (p := ⟨g, 2, none⟩) hlg (fun h => h)).trans f2; have e3 := (hf1.frozen (p := ⟨g, 3, none⟩) hlg (fun h => h)).trans f3; have e4 := (hf1.frozen (p := ⟨g, 4, none⟩) hlg (fun h => h)).trans f4))
  have hf3 := hf2.trans (((fr_set (i := 2) (v := .int .i64 k)).trans (fr_set (i := 3) (v := .int .i64 a)) (fun _ _ h => h)).trans (fr_set (i := 4) (v := .string wh)) (fun _ _ h => h)) (fun _ _ h => h)
  have hr3 := (h.quiet hf1).fault k a wh
  exact ⟨rfl, _, rfl, _, results_none rfl _ _ _, rfl, rfl, hr3, hf3⟩

set_option maxRecDepth 100000 in
set_option maxHeartbeats 1000000 in
theorem idleB (pa pw pr : Addr) (w : World) :
    CallsD Tryd.prog 61 #[.pointer (some pa), .pointer (some pw), .pointer (some pr)] .returning w fun e u' w' => e = .returned (.tuple #[]) ∧ u' = .returning ∧ w = w' := by
  refine callsD_of_wpS Tryd.func61 rfl fun c₀ cs hu => ?_
  apply wpS_seq
  apply wpS_region
  simp [wpOpsS, go_sem, recoverD, hu, Tryd.ntmps61, Exit.thenS]
  refine wpS_of_wp ?_
  change Code.wp _ _ _ { tmps := #[.pointer (some pa), .pointer (some pw), .pointer (some pr), .nilIface, .nilIface, undef, undef, undef, undef, undef, undef, undef, undef, undef, undef], defers := [] } w
  go_wp2
  exact ⟨rfl, _, by cases c₀; simp_all, _, results_none rfl _ _ _, rfl, rfl, rfl⟩
end Go.Proofs.YtblfnbmgijppmaaDoor
