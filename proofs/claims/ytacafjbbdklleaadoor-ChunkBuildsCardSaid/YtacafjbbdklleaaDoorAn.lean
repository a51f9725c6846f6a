/- chunk: mayCut, cut. -/
import Derived.Test.YtacafjbbdklleaaDoorAd
import Derived.Test.YtacafjbbdklleaaDoorAg
import Derived.WalkMore
namespace Go.Proofs.YtacafjbbdklleaaDoor
open Go.RowKit

theorem Tryd.teC : TE Tryd.prog 24 36 5 56 (.agg #[.int .i64 0, .int .i64 0, .int .i64 0, .int .u32 0, .slice none 0 0]) := ⟨Tryd.underlying24, by kernel_rfl, rfl, by omega⟩
theorem Tryd.makeC (c : Nat) (hn : c ≤ 1048577) : ∃ cur : Array Value, cur.size = c * 5 ∧ ∀ w : World,
    (Instr.makeSlice 24 (.int .i64 0) (.int .i64 (c : Int))).run Tryd.prog w = .ok (.slice (some ⟨w.heap.size, 0, none⟩) 0 c) (w.alloc (.cells cur 36)) := by
  obtain ⟨i, hi, hz, hsz, hby⟩ := info_parts Tryd.teC.info
  refine ⟨madeCells (Value.agg #[.int .i64 0, .int .i64 0, .int .i64 0, .int .u32 0, .slice none 0 0]).cells (c * i.size), by simp [madeCells, hsz], fun w => ?_⟩
  have h1 := run_make (P := Tryd.prog) w 24 36 i _ Tryd.teC.sl hi hz .i64 .i64 0 (c : Int) (by omega) (by omega) (by rw [hby]; omega) (by omega)
  simpa using h1
theorem Row.made (w : World) (T : TypeId) (k c : Nat) (cur : Array Value) (hs : cur.size = c * k) (hm : c ≤ maxLen) : Row (w.alloc (.cells cur T)) T k (.slice (some ⟨w.heap.size, 0, none⟩) 0 c) 0 [] :=
  ⟨by simp, .inr ⟨w.heap.size, 0, c, cur, rfl, Bk.new _ _ _, Nat.zero_le _, hm, by omega, fun j hj => by simp at hj⟩⟩

/-- What is wrong of a cut. -/
def cutE (id : Int) (n : Nat) (size : Int) : Int := if id < 0 ∨ size < 1 ∨ 65536 < size then 1 else if 1048576 < n then 10 else 0
set_option maxHeartbeats 2000000 in
theorem mayCut_any (id : Int) (A : Option Addr) (n c : Nat) (size : Int) (w : World) :
    Calls Tryd.prog 22 #[.int .i64 id, .slice A n c, .int .i64 size] w fun e w' => e = .returned (.int .i64 (cutE id n size)) ∧ w = w' := by
  unfold cutE
  by_cases h1 : id < 0
  · have d1 : decide (id < 0) = true := decide_eq_true h1
    rw [if_pos (.inl h1)]
    go_enter Tryd.func22, Tryd.ntmps22
    go_wp2
    go_ret
    exact ⟨rfl, rfl⟩
  · have d1 : decide (id < 0) = false := decide_eq_false h1
    by_cases h2 : size < 1
    · have d2 : decide (size < 1) = true := decide_eq_true h2
      rw [if_pos (.inr (.inl h2))]
      go_enter Tryd.func22, Tryd.ntmps22
      go_wp2
      go_ret
      exact ⟨rfl, rfl⟩
    · have d2 : decide (size < 1) = false := decide_eq_false h2
      by_cases h3 : 65536 < size
      · have d3 : decide (65536 < size) = true := decide_eq_true h3
        rw [if_pos (.inr (.inr h3))]
        go_enter Tryd.func22, Tryd.ntmps22
        go_wp2
        go_ret
        exact ⟨rfl, rfl⟩
      · have d3 : decide (65536 < size) = false := decide_eq_false h3
        rw [if_neg (by omega)]
        by_cases h4 : 1048576 < n
        · have d4 : decide (1048576 < n) = true := decide_eq_true h4
          have d5 : decide ((1048576 : Int) < (n : Int)) = true := decide_eq_true (by omega)
          rw [if_pos h4]
          go_enter Tryd.func22, Tryd.ntmps22
          go_wp2
          go_ret
          exact ⟨rfl, rfl⟩
        · have d4 : decide (1048576 < n) = false := decide_eq_false h4
          have d5 : decide ((1048576 : Int) < (n : Int)) = false := decide_eq_false (by omega)
          rw [if_neg h4]
          go_enter Tryd.func22, Tryd.ntmps22
          go_wp2
          go_ret
          exact ⟨rfl, rfl⟩

/-- A place o further on. -/
def adr (A : Option Addr) (o : Nat) : Option Addr := A.map fun a => ⟨a.block, a.off + o, none⟩
/-- A piece's five cells. -/
def pcl (id : Int) (o n u : Nat) (x : Value) : List Value := [.int .i64 id, .int .i64 (o : Int), .int .i64 (n : Int), .int .u32 (u : Int), x]
theorem pcl_one (id : Int) (o n u : Nat) (x : Value) (hx : x.oneCell' = true) : ∀ y ∈ pcl id o n u x, y.oneCell' = true := by
  intro y hy
  simp only [pcl, List.mem_cons, List.not_mem_nil, or_false] at hy
  rcases hy with rfl | rfl | rfl | rfl | rfl <;> first | rfl | exact hx
/-- The cells of the first k pieces, of z bytes each. -/
def frontC (id : Int) (n u z : Nat) (A : Option Addr) (k : Nat) : List Value := (List.range k).flatMap fun j => pcl id (j * z) n u (.slice (adr A (j * z)) z z)
theorem frontC_succ (id : Int) (n u z : Nat) (A : Option Addr) (k : Nat) : frontC id n u z A (k + 1) = frontC id n u z A k ++ pcl id (k * z) n u (.slice (adr A (k * z)) z z) := by
  unfold frontC; rw [List.range_succ, List.flatMap_append]; simp
theorem sl_five (w : World) (id : Int) (o n u : Nat) (x : Value) : Sl (w.alloc (.cells #[.int .i64 id, .int .i64 (o : Int), .int .i64 (n : Int), .int .u32 (u : Int), x] 36)) 5 (.slice (some ⟨w.heap.size, 0, none⟩) 1 1) 1 (pcl id o n u x) :=
  Sl.at rfl rfl (fun j y hy => by rw [Nat.zero_add, (Bk.new w _ _).cell]; simpa [pcl] using hy)
def vlen : Value → Nat
  | .slice _ m _ => m
  | _ => 0

/-- What cut makes: K full pieces and a last one, over a copy of the bytes. -/
structure CutR (w : World) (id : Int) (xs : List UInt8) (n z : Nat) (K : Nat) (A : Option Addr) (c : Nat) (v : Value) (w' : World) : Prop where
  lo : K * z ≤ n
  hi : n ≤ K * z + z
  mid : K = 0 ∨ K * z < n
  own : Own8 w' 5 (.slice A n c) xs
  row : Row w' 36 5 v (K + 1) (frontC id n (crcOf xs) z A K ++ pcl id (K * z) n (crcOf xs) (.slice (adr A (K * z)) (n - K * z) (c - K * z)))
  fr : Fr (fun _ => False) w w'
  newA : ∀ x, (Value.slice A n c).ownBlock = some x → w.heap.size ≤ x
  newV : ∀ x, v.ownBlock = some x → w.heap.size ≤ x

/-- cut under way. -/
structure CutI (w : World) (id : Int) (xs : List UInt8) (n z u pg : Nat) (A : Option Addr) (c : Nat) (k o : Nat) (v : Value) (wr : World) : Prop where
  eo : o = k * z
  lo : o ≤ n
  mid : k = 0 ∨ o < n
  own : Own8 wr 5 (.slice A n c) xs
  row : Row wr 36 5 v k (frontC id n u z A k)
  pb : ∃ dA dn dc, Bk wr pg 36 #[.int .i64 id, .int .i64 (o : Int), .int .i64 (n : Int), .int .u32 (u : Int), .slice dA dn dc]
  fr : Fr (fun _ => False) w wr
  newA : ∀ x, (Value.slice A n c).ownBlock = some x → w.heap.size ≤ x
  newP : w.heap.size ≤ pg
  newV : ∀ x, v.ownBlock = some x → pg < x

set_option maxRecDepth 100000 in
set_option maxHeartbeats 4000000 in
theorem cut_any (id : Int) (A : Option Addr) (n c : Nat) (xs : List UInt8) (z : Nat) (w : World) (ht : Tab w) (hr : Rd8 w A xs) (hn : xs.length = n) (hnb : n ≤ 1048576) (hz1 : 1 ≤ z) (hz2 : z ≤ 65536) :
    Calls Tryd.prog 23 #[.int .i64 id, .slice A n c, .int .i64 (z : Int)] w fun e w' => ∃ K A0 c0 v, e = .returned v ∧ CutR w id xs n z K A0 c0 v w' := by
  obtain ⟨u, hu⟩ : ∃ u, crcOf xs = u := ⟨_, rfl⟩
  have HU := Lib.hid hu
  have CS : Hid (∀ w', Fr (fun _ => False) w w' → Calls Tryd.prog 35 #[.slice A n c] w' fun e w2 => e = .returned (.int .u32 (u : Int)) ∧ w' = w2) := Lib.hid (fun w' hf => by
    have := sum_any A n c xs w' (ht.fr hf (fun h => h)) (hr.fr hf (fun _ _ _ h => h)) hn (by omega)
    rwa [hu] at this)
  have CC : Hid (∀ w', Fr (fun _ => False) w w' → _) := Lib.hid (fun w' hf => clone_any A n c xs w' (hr.fr hf (fun _ _ _ h => h)) hn (by omega))
  have HNB := Lib.hid hnb
  have HZ1 := Lib.hid hz1
  have HZ2 := Lib.hid hz2
  have HLEN := Lib.hid hn
  obtain ⟨cap, hcap⟩ : ∃ cap : Nat, n / z + 1 = cap := ⟨_, rfl⟩
  have hcb : cap ≤ 1048577 := by have := Nat.div_le_self n z; omega
  obtain ⟨cur, hcur, hmk⟩ := Tryd.makeC cap hcb
  have HMK := Lib.hid (fun w' => Row.made w' 36 5 cap cur hcur (by unfold maxLen; omega))
  obtain ⟨q, hq⟩ : ∃ q : Nat, n / z = q := ⟨_, rfl⟩
  have t1 : (n : Int).tdiv (z : Int) = (q : Int) := by rw [Int.tdiv_eq_ediv_of_nonneg (by omega), ← hq]; simp
  have t2 : IntKind.i64.wrap (q : Int) = (q : Int) := IntWalk.i64_in _ (by omega)
  have t3 : IntKind.i64.wrap ((q : Int) + 1) = (cap : Int) := by rw [IntWalk.i64_in _ (by omega)]; omega
  have t3' : (q : Int) + 1 = (cap : Int) := by omega
  have t4 : ((z : Int) == 0) = false := by rw [beq_eq_false_iff_ne]; omega
  have t5 : ¬ (z : Int) = 0 := by omega
  have t6 : ((z : Int) == -1) = false := by rw [beq_eq_false_iff_ne]; omega
  clear ht hr hn hu hcap hcur hq
  go_enter Tryd.func23, Tryd.ntmps23
  go_wp2_with fail
  go_step3
  go_wp2_with fail
  refine (CS.out w (Fr.refl _ _)).mono ?_; rintro e w1 ⟨rfl, rfl⟩
  obtain ⟨pg, hpg⟩ : ∃ pg, w.heap.size = pg := ⟨_, rfl⟩
  obtain ⟨W, hW⟩ : ∃ W, w.alloc (.cells #[.int .i64 id, .int .i64 0, .int .i64 (n : Int), .int .u32 (u : Int), .slice none 0 0] 36) = W := ⟨_, rfl⟩
  have KW : Hid (Bk W pg 36 #[.int .i64 id, .int .i64 0, .int .i64 (n : Int), .int .u32 (u : Int), .slice none 0 0]) := Lib.hid (by rw [← hW, ← hpg]; exact Bk.new _ _ _)
  have FW : Hid (Fr (fun _ => False) w W) := Lib.hid (by rw [← hW]; exact (Fr.refl _ _).alloc _)
  have HPG := Lib.hid hpg
  have CC1 := Lib.hid (CC.out W FW.out)
  have HWE := Lib.hid hW
  clear CC CS hW
  go_wp2_with fail
  rw [HWE.out]
  clear hpg
  refine CC1.out.mono ?_; rintro e w2 ⟨A0, c0, rfl, ho0, hf0⟩
  have HO0 := Lib.hid ho0
  have HF0 := Lib.hid hf0
  clear ho0 hf0 CC1
  go_wp2_with fail
  go_step3
  go_wp2_with fail
  go_loopw [8, 9] (fun r l wr => ∃ (k o y : Nat) (Ar : Option Addr) (cr : Nat) (lA : Option Addr) (lc : Nat), r = .slice Ar y cr ∧ l = .slice lA k lc ∧ Hid (y = n - o ∧ Ar = adr A0 o ∧ cr = c0 - o) ∧ Hid (CutI w id xs n z u pg A0 c0 k o (.slice lA k lc) wr)) (fun r _ _ => vlen r)
  case atStart =>
    have h1 := HMK.out w2
    refine ⟨0, 0, n, A0, c0, _, _, rfl, rfl, Lib.hid ⟨rfl, ?_, rfl⟩, Lib.hid ⟨by simp, Nat.zero_le _, .inl rfl, ?_, ?_, ?_, ?_, ?_, ?_, ?_⟩⟩
    · rcases HO0.out.form with ⟨e, _⟩ | ⟨g, cp, e, _⟩
      · cases e; rfl
      · injection e with e1; subst e1; rfl
    · exact HO0.out.fr (S := fun _ => False) ((Fr.refl _ _).alloc _) (fun _ _ h => h)
    · simpa [frontC] using h1
    · exact ⟨_, _, _, (KW.out.fr HF0.out.1 (fun h => h)).alloc _⟩
    · exact (FW.out.trans HF0.out.1 (fun _ _ h => h)).alloc _
    · intro x hx; have h2 := HF0.out.2 x hx; have h3 := FW.out.size; omega
    · rw [HPG.out]; exact Nat.le_refl _
    · intro x hx; have : w2.heap.size = x := by injection hx
      have h2 := KW.out.lt; have h3 := HF0.out.1.size; omega
  case round =>
    obtain ⟨k, o, y, Ar, cr, lA, lc, rfl, rfl, HY, HI⟩ := hrel
    clear hmk HMK t1 t2 t3 t3' t4 t5 t6
    obtain ⟨dA, dn, dc, hpb⟩ := HI.out.pb
    have HPB := Lib.hid hpb
    have HSP : Hid (c0 ≥ n) := Lib.hid HI.out.own.cap8.2
    have HOB : Hid (o ≤ 1048576 ∧ (o : Int) ≤ 1048576 ∧ k ≤ 1048576) := Lib.hid (by
      have h1 := HI.out.lo; have h2 := HNB.out; have h3 := HI.out.eo; have h4 := HZ1.out
      refine ⟨by omega, by omega, ?_⟩
      have : k ≤ k * z := Nat.le_mul_of_pos_right k (by omega)
      omega)
    clear hpb
    by_cases hlt : y ≤ z
    · have d1 : decide (y ≤ z) = true := decide_eq_true hlt
      have d2 : decide ((y : Int) ≤ (z : Int)) = true := decide_eq_true (by omega)
      have x0 := HPB.out.cell 0
      have x1 := HPB.out.cell 1
      have x2 := HPB.out.cell 2
      have x3 := HPB.out.cell 3
      have x4 := HPB.out.cell 4
      have xf := HPB.out.frozen 4
      obtain ⟨W8, hW8⟩ : ∃ W8, wr.setCell ⟨pg, 4, none⟩ (.slice Ar y cr) = W8 := ⟨_, rfl⟩
      have K8 : Hid (Bk W8 pg 36 #[.int .i64 id, .int .i64 (o : Int), .int .i64 (n : Int), .int .u32 (u : Int), .slice Ar y cr]) := Lib.hid (by rw [← hW8]; exact HPB.out.set 4 _)
      have F8 : Hid (Fr (fun x => x = pg) wr W8) := Lib.hid (by rw [← hW8]; exact Fr.setCell (Fr.refl (fun x => x = pg) wr) (p := ⟨pg, 4, none⟩) (fun _ => rfl) _)
      have y0 := K8.out.cell 0
      have y1 := K8.out.cell 1
      have y2 := K8.out.cell 2
      have y3 := K8.out.cell 3
      have y4 := K8.out.cell 4
      have hrow := (HI.out.row.fr F8.out (fun x hx e => by have := HI.out.newV x hx; have e' : x = pg := e; omega)).fr0 ((Fr.refl _ W8).alloc (.cells #[.int .i64 id, .int .i64 (o : Int), .int .i64 (n : Int), .int .u32 (u : Int), .slice Ar y cr] 36))
      have hsl := sl_five W8 id o n u (.slice Ar y cr)
      have HL := Lib.hid hlt
      clear hlt
      go_wp2_with (at_builtin; (refine wpList_appendR Tryd.teC rfl (.tmp 48) (.tmp 50) rfl (.slice lA k lc) k (frontC id n u z A0 k) rfl hrow _ 1 (pcl id o n u (.slice Ar y cr)) rfl hsl (pcl_one _ _ _ _ _ rfl) (by have := HOB.out.2.2; unfold maxLen; omega) (by have := HOB.out.2.2; omega) ?_; intro A2 c2 w2' hr2 hf2 hm2; have HR2 := Lib.hid hr2; have HF2 := Lib.hid hf2; have HM2 := Lib.hid hm2; clear hrow hsl hr2 hf2 hm2))
      rw [Exit.noGoto_ret]
      go_ret
      have hF : Fr (fun x => (Value.slice lA k lc).ownBlock = some x) W8 w2' := ((Fr.refl _ _).alloc _).trans HF2.out (fun _ _ h => h)
      obtain ⟨e1, e2, e3⟩ := HY.out
      have eo := HI.out.eo
      refine ⟨k, A0, c0, .slice A2 (k + 1) c2, rfl, ⟨?_, ?_, ?_, ?_, ?_, ?_, HI.out.newA, ?_⟩⟩
      · rw [← eo]; exact HI.out.lo
      · rw [← eo]; have := HL.out; omega
      · rw [← eo]; exact HI.out.mid
      · exact (HI.out.own.fr F8.out (fun x hx e => HI.out.own.ne HPB.out (by decide) (e ▸ hx))).fr hF (fun x hx e => by
          obtain ⟨cb, hcb⟩ := HI.out.row.bk e
          exact HI.out.own.ne hcb (by decide) hx)
      · rw [HU.out, ← eo, ← e1, ← e2, ← e3]; exact HR2.out
      · exact (HI.out.fr.trans F8.out (fun x hx e => by have := HI.out.newP; have e' : x = pg := e; omega)).trans hF (fun x hx e => by have h1 := HI.out.newV x e; have h2 := HI.out.newP; omega)
      · intro x hx
        rcases HM2.out with h | ⟨x', h, hx'⟩
        · rw [h] at hx; have h1 := HI.out.newV x hx; have h2 := HI.out.newP; omega
        · rw [h] at hx; injection hx with hx
          have h1 := HI.out.fr.size; have h2 := F8.out.size; simp at hx'; omega
    · have d1 : decide (y ≤ z) = false := decide_eq_false hlt
      have d2 : decide ((y : Int) ≤ (z : Int)) = false := decide_eq_false (by omega)
      have HL : Hid (z < y) := Lib.hid (by omega)
      obtain ⟨g0, hg0⟩ : ∃ g0, A0 = some ⟨g0, 0, none⟩ := by
        rcases HI.out.own.form with ⟨e, _⟩ | ⟨g, cp, e, _⟩
        · injection e with e1 e2; have := HY.out.1; omega
        · injection e with e1; exact ⟨g, e1⟩
      subst hg0
      obtain ⟨e1, e2, e3⟩ := HY.out
      obtain rfl : Ar = some ⟨g0, o, none⟩ := by rw [e2]; simp [adr]
      clear e1 e2 e3
      have hcr : (y : Int) ≤ (cr : Int) := by obtain ⟨e1, _, e3⟩ := HY.out; have := HSP.out; omega
      have HCR : Hid (y ≤ cr ∧ (cr : Int) ≤ 9223372036854775807) := Lib.hid (by
        obtain ⟨e1, _, e3⟩ := HY.out
        have h1 := HSP.out
        obtain ⟨A', c', e, _, h3⟩ := HI.out.own.slice
        injection e with _ _ e
        subst e
        omega)
      obtain ⟨y2, hy2⟩ : ∃ y2 : Nat, y - z = y2 := ⟨_, rfl⟩
      obtain ⟨cr2, hcr2⟩ : ∃ cr2 : Nat, cr - z = cr2 := ⟨_, rfl⟩
      have hs1 : ∀ w', (Instr.sliceAt 22 (.slice (some ⟨g0, o, none⟩) y cr) none (some (.int .i64 (z : Int))) (some (.int .i64 (z : Int)))).run Tryd.prog w' = .ok (.slice (some ⟨g0, o, none⟩) z z) w' := fun w' => by
        have h1 : (z : Int) ≤ (cr : Int) := by omega
        have h2 : ¬ z = 0 := by have := HZ1.out; omega
        simp [go_sem, Instr.sliceAt, h1, h2]
      have hs2 : ∀ w', (Instr.sliceAt 22 (.slice (some ⟨g0, o, none⟩) y cr) (some (.int .i64 (z : Int))) none none).run Tryd.prog w' = .ok (.slice (some ⟨g0, o + z, none⟩) y2 cr2) w' := fun w' => by
        have h1 : (z : Int) ≤ (y : Int) := by omega
        have h2 : ¬ cr = z := by have := HCR.out.1; omega
        rw [← hy2, ← hcr2]
        simp [go_sem, Instr.sliceAt, h1, h2]
      have HS1 := Lib.hid hs1
      have HS2 := Lib.hid hs2
      have HY2 := Lib.hid hy2
      have HCR2 := Lib.hid hcr2
      clear hs1 hs2 hlt hcr hy2 hcr2
      go_wp2_with fail
      refine wp_region_Z [8] (fun w' => Fr (fun _ => False) wr w') (by kernel_rfl) ((Fr.refl _ _).drew) (fun hHeld => ?_)
      refine anyZ_pure (i := 0) (v := ?_) (some 24) rfl rfl (by kernel_rfl) (by kernel_rfl) (by kernel_rfl) (by kernel_rfl) (fun _ _ _ h => h) (Or.inl ⟨by rfl, ?_⟩) (fun _ => hHeld) ?_
      rotate_left
      · intro w' _
        go_simp
        first | done | with_reducible rfl
      try simp only [Act.put, List.setIfInBounds_toArray, List.set_cons_zero, List.set_cons_succ]
      refine anyZ_pure (i := 1) (v := ?_) (some 25) rfl rfl (by kernel_rfl) (by kernel_rfl) (by kernel_rfl) (by kernel_rfl) (fun _ _ _ h => h) (Or.inl ⟨by rfl, ?_⟩) (fun _ => hHeld) ?_
      rotate_left
      · intro w' _
        go_simp
        first | done | with_reducible rfl
      try simp only [Act.put, List.setIfInBounds_toArray, List.set_cons_zero, List.set_cons_succ]
      refine anyZ_pure (i := 2) (v := ?_) (some 26) rfl rfl (by kernel_rfl) (by kernel_rfl) (by kernel_rfl) (by kernel_rfl) (fun _ _ _ h => h) (Or.inl ⟨by rfl, ?_⟩) (fun _ => hHeld) ?_
      rotate_left
      · intro w' _
        go_simp
        first | done | with_reducible rfl
      try simp only [Act.put, List.setIfInBounds_toArray, List.set_cons_zero, List.set_cons_succ]
      refine anyZ_pure (i := 3) (v := ?_) (some 27) rfl rfl (by kernel_rfl) (by kernel_rfl) (by kernel_rfl) (by kernel_rfl) (fun _ _ _ h => h) (Or.inl ⟨by rfl, ?_⟩) (fun _ => hHeld) ?_
      rotate_left
      · intro w' _
        have HS1w := HS1.out w'
        go_simp
        first | done | with_reducible rfl
      try simp only [Act.put, List.setIfInBounds_toArray, List.set_cons_zero, List.set_cons_succ]
      refine anyZ_pure (i := 4) (v := ?_) (some 28) rfl rfl (by kernel_rfl) (by kernel_rfl) (by kernel_rfl) (by kernel_rfl) (fun _ _ _ h => h) (Or.inl ⟨by rfl, ?_⟩) (fun _ => hHeld) ?_
      rotate_left
      · intro w' _
        go_simp
        first | done | with_reducible rfl
      try simp only [Act.put, List.setIfInBounds_toArray, List.set_cons_zero, List.set_cons_succ]
      refine anyZ_pure (i := 5) (v := ?_) (some 29) rfl rfl (by kernel_rfl) (by kernel_rfl) (by kernel_rfl) (by kernel_rfl) (fun _ _ _ h => h) (Or.inl ⟨by rfl, ?_⟩) (fun _ => hHeld) ?_
      rotate_left
      · intro w' _
        go_simp
        first | done | with_reducible rfl
      try simp only [Act.put, List.setIfInBounds_toArray, List.set_cons_zero, List.set_cons_succ]
      refine anyZ_pure (i := 6) (v := ?_) (some 30) rfl rfl (by kernel_rfl) (by kernel_rfl) (by kernel_rfl) (by kernel_rfl) (fun _ _ _ h => h) (Or.inl ⟨by rfl, ?_⟩) (fun _ => hHeld) ?_
      rotate_left
      · intro w' _
        have HS2w := HS2.out w'
        go_simp
        first | done | with_reducible rfl
      try simp only [Act.put, List.setIfInBounds_toArray, List.set_cons_zero, List.set_cons_succ]
      refine anyZ_pure (i := 7) (v := ?_) (some 31) rfl rfl (by kernel_rfl) (by kernel_rfl) (by kernel_rfl) (by kernel_rfl) (fun _ _ _ h => h) (Or.inl ⟨by rfl, ?_⟩) (fun _ => hHeld) ?_
      rotate_left
      · intro w' _
        go_simp
        first | done | with_reducible rfl
      try simp only [Act.put, List.setIfInBounds_toArray, List.set_cons_zero, List.set_cons_succ]
      refine anyZ_ready (rs := [8]) (by kernel_rfl) (by simp) ?_
      refine AllZ.last rfl (by kernel_rfl) (fun K hK => ?_) AllZ.nil
      have xx4 := HPB.out.drew.cell 4
      have xxf := HPB.out.drew.frozen 4
      obtain ⟨W8, hW8⟩ : ∃ W8, wr.drew.setCell ⟨pg, 4, none⟩ (.slice (some ⟨g0, o, none⟩) z z) = W8 := ⟨_, rfl⟩
      go_simp
      refine hK.out _ _ ?_
      clear hK K
      try change anyZ _ _ _ _ _ _ _ _ (Act.put _ none _) _
      try simp only [Act.put, List.setIfInBounds_toArray, List.set_cons_zero, List.set_cons_succ]
      refine anyZ_pure (i := 9) (v := ?_) (some 8) rfl rfl (by kernel_rfl) (by kernel_rfl) (by kernel_rfl) (by kernel_rfl) (fun _ _ _ h => h) (Or.inl ⟨by rfl, ?_⟩) (notYet (by kernel_rfl)) ?_
      rotate_left
      · intro w' _
        go_simp
        first | done | with_reducible rfl
      try simp only [Act.put, List.setIfInBounds_toArray, List.set_cons_zero, List.set_cons_succ]
      refine anyZ_done (by kernel_rfl) ?_ _
      clear hHeld xx4 xxf
      have K8 : Hid (Bk W8 pg 36 #[.int .i64 id, .int .i64 (o : Int), .int .i64 (n : Int), .int .u32 (u : Int), .slice (some ⟨g0, o, none⟩) z z]) := Lib.hid (by rw [← hW8]; exact HPB.out.drew.set 4 _)
      have F8 : Hid (Fr (fun x => x = pg) wr W8) := Lib.hid (by rw [← hW8]; exact Fr.setCell (Fr.refl (fun x => x = pg) wr).drew (p := ⟨pg, 4, none⟩) (fun _ => rfl) _)
      clear hW8
      have y0 := K8.out.cell 0
      have y1 := K8.out.cell 1
      have y2' := K8.out.cell 2
      have y3 := K8.out.cell 3
      have y4 := K8.out.cell 4
      have hrow := (HI.out.row.fr F8.out (fun x hx e => by have := HI.out.newV x hx; have e' : x = pg := e; omega)).fr0 ((Fr.refl _ W8).alloc (.cells #[.int .i64 id, .int .i64 (o : Int), .int .i64 (n : Int), .int .u32 (u : Int), .slice (some ⟨g0, o, none⟩) z z] 36))
      have hsl := sl_five W8 id o n u (.slice (some ⟨g0, o, none⟩) z z)
      obtain ⟨o2, ho2⟩ : ∃ o2 : Nat, o + z = o2 := ⟨_, rfl⟩
      have t9 : IntKind.i64.wrap ((o : Int) + (z : Int)) = (o2 : Int) := by rw [IntWalk.i64_in _ (by have := HOB.out; omega)]; omega
      have HO2 := Lib.hid ho2
      clear ho2
      go_wp2_with (at_builtin; (refine wpList_appendR Tryd.teC rfl (.tmp 39) (.tmp 41) rfl (.slice lA k lc) k (frontC id n u z (some ⟨g0, 0, none⟩) k) rfl hrow _ 1 (pcl id o n u (.slice (some ⟨g0, o, none⟩) z z)) rfl hsl (pcl_one _ _ _ _ _ rfl) (by have := HOB.out.2.2; unfold maxLen; omega) (by have := HOB.out.2.2; omega) ?_; intro A2 c2 w2' hr2 hf2 hm2; have HR2 := Lib.hid hr2; have HM2 := Lib.hid hm2; have HF2 : Hid (Fr (fun x => (Value.slice lA k lc).ownBlock = some x) W8 w2') := Lib.hid (((Fr.refl _ _).alloc _).trans hf2 (fun _ _ h => h)); have K9 := Lib.hid (K8.out.fr HF2.out (fun h => by have := HI.out.newV _ h; omega)); have k1 := K9.out.cell 1; have kf1 := K9.out.frozen 1; obtain ⟨W10, hW10⟩ : ∃ W10, w2'.setCell ⟨pg, 1, none⟩ (.int .i64 (o2 : Int)) = W10 := ⟨_, rfl⟩; clear hrow hsl hr2 hf2 hm2 y0 y1 y2' y3 y4))
      have F10 : Hid (Fr (fun x => x = pg) w2' W10) := Lib.hid (by rw [← hW10]; exact Fr.setCell (Fr.refl (fun x => x = pg) w2') (p := ⟨pg, 1, none⟩) (fun _ => rfl) _)
      have K10 : Hid (Bk W10 pg 36 #[.int .i64 id, .int .i64 (o2 : Int), .int .i64 (n : Int), .int .u32 (u : Int), .slice (some ⟨g0, o, none⟩) z z]) := Lib.hid (by rw [← hW10]; exact K9.out.set 1 _)
      have HNV : Hid (∀ x, (Value.slice A2 (k + 1) c2).ownBlock = some x → pg < x) := Lib.hid (fun x hx => by
        rcases HM2.out with h | ⟨x', h, hx'⟩
        · rw [h] at hx; exact HI.out.newV x hx
        · rw [h] at hx; injection hx with hx
          have h1 := K8.out.lt; simp at hx'; omega)
      have HF18 : Hid (Fr (fun x => x = pg ∨ (Value.slice lA k lc).ownBlock = some x) wr W10) := Lib.hid (((F8.out.mono (fun _ _ h => .inl h)).trans HF2.out (fun _ _ h => .inr h)).trans F10.out (fun _ _ h => .inl h))
      clear hW10 k1 kf1
      refine ⟨⟨k + 1, o2, y2, some ⟨g0, o + z, none⟩, cr2, A2, c2, rfl, rfl, Lib.hid ⟨?_, ?_, ?_⟩, Lib.hid ⟨?_, ?_, ?_, ?_, ?_, ?_, ?_, HI.out.newA, HI.out.newP, HNV.out⟩⟩, ?_⟩
      · have h1 := HY.out.1; have h2 := HO2.out; have h3 := HY2.out; omega
      · rw [← HO2.out]; simp [adr]
      · have h1 := HY.out.2.2; have h2 := HO2.out; have h3 := HCR2.out; omega
      · rw [← HO2.out, HI.out.eo, Nat.succ_mul]
      · have h1 := HY.out.1; have h2 := HO2.out; have h3 := HL.out; omega
      · right; have h1 := HY.out.1; have h2 := HO2.out; have h3 := HL.out; omega
      · exact HI.out.own.fr HF18.out (fun x hx e => by
          rcases e with e | e
          · exact HI.out.own.ne HPB.out (by decide) (e ▸ hx)
          · obtain ⟨cb, hcb⟩ := HI.out.row.bk e
            exact HI.out.own.ne hcb (by decide) hx)
      · rw [frontC_succ, ← HI.out.eo]
        have h9 := HR2.out.fr F10.out (fun x hx e => by have := HNV.out x hx; have e' : x = pg := e; omega)
        simpa [adr] using h9
      · exact ⟨_, _, _, K10.out⟩
      · exact HI.out.fr.trans HF18.out (fun x hx e => by
          have h2 := HI.out.newP
          rcases e with e | e
          · omega
          · have h1 := HI.out.newV x e; omega)
      · have h1 := HL.out; have h3 := HY2.out; have h4 := HZ1.out; show y2 < y; omega
end Go.Proofs.YtacafjbbdklleaaDoor
