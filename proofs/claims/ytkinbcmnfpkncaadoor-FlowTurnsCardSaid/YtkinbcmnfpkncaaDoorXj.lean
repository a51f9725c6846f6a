/- flow: a draft of decisions; newDraft, closes, takes where a decision closes. -/
import Derived.Test.YtkinbcmnfpkncaaDoorXg
import Derived.Test.YtkinbcmnfpkncaaDoorXi0
namespace Go.Proofs.YtkinbcmnfpkncaaDoor
open Go.RowKit Go.Maps

def madeTab : List Int := [0, 7, 12, 14, 17, 20, 21, 22, 19]
def MadeT (w : World) : Prop := ∀ j, j < 9 → w.cell? ⟨0, j, none⟩ = some (.int .i64 (madeTab.getD j 0))
theorem MadeT.fr {S : Nat → Prop} {w w' : World} (h : MadeT w) (hf : Fr S w w') (hS : ¬ S 0) : MadeT w' := fun j hj => (hf.cell (World.block_lt_of_cell? w _ (h j hj)) hS).trans (h j hj)
/-- A draft at gd, of the run at g: its events can be read, their bytes within G. -/
structure Dr (w : World) (gd g gm : Nat) (A : Option Addr) (n c : Nat) (ps : List VL) (G : Nat → Prop) : Prop where
  blk : Bk w gd 142 #[.pointer (some ⟨g, 0, none⟩), .slice A n c, .map (some gm)]
  row : Row w 75 7 (.slice A n c) n (vlc ps)
  len : ps.length = n
  each : ∀ p ∈ ps, RdV w G p
theorem Dr.fr {S G : Nat → Prop} {w w' : World} {gd g gm : Nat} {A : Option Addr} {n c : Nat} {ps : List VL} (h : Dr w gd g gm A n c ps G) (hf : Fr S w w') (h1 : ¬ S gd) (h2 : ∀ k, (Value.slice A n c).ownBlock = some k → ¬ S k) (h3 : ∀ k, G k → ¬ S k) : Dr w' gd g gm A n c ps G :=
  ⟨h.blk.fr hf h1, h.row.fr hf h2, h.len, fun p hp => (h.each p hp).fr hf h3⟩
theorem Dr.fr0 {G : Nat → Prop} {w w' : World} {gd g gm : Nat} {A : Option Addr} {n c : Nat} {ps : List VL} (h : Dr w gd g gm A n c ps G) (hf : Fr (fun _ => False) w w') : Dr w' gd g gm A n c ps G := h.fr hf (fun h => h) (fun _ _ h => h) (fun _ _ h => h)
theorem Dr.vs {G : Nat → Prop} {w : World} {gd g gm : Nat} {A : Option Addr} {n c : Nat} {ps : List VL} (h : Dr w gd g gm A n c ps G) : Vs w A n ps (fun k => (Value.slice A n c).ownBlock = some k ∨ G k) := by
  have hl := h.len
  subst hl
  refine ⟨rfl, fun h0 => ?_, fun p hp => ?_⟩
  · obtain ⟨A', c', e, _, _, hA⟩ := h.row.form
    obtain ⟨b, off, rfl⟩ := hA h0
    injection e with e1 _ e3
    subst e1 e3
    exact ⟨b, off, rfl, .inl rfl, fun j u hu => h.row.cell hu⟩
  · have h1 := h.each p hp
    exact ⟨h1.rd, h1.ok, fun ad e h0 => .inr (h1.inF ad e h0)⟩

theorem draftNew {w w1 w2 w3 : World} {g : Nat} {b : Int} (hb : I64 b) (G : Nat → Prop) (h1 : w1 = w.alloc (.cells #[.int .i64 4, .int .i64 0, .int .i64 b, .int .i64 0, .int .i64 0, .int .i64 0, .slice none 0 0] 75)) (h2 : w2 = w1.alloc (.cells #[.int .i64 4, .int .i64 0, .int .i64 b, .int .i64 0, .int .i64 0, .int .i64 0, .slice none 0 0] 75)) (h3 : w3 = w2.alloc (.map #[] 0)) :
    Dr (w3.alloc (.cells #[.pointer (some ⟨g, 0, none⟩), .slice (some ⟨w1.heap.size, 0, none⟩) 1 1, .map (some w2.heap.size)] 142)) w3.heap.size g w2.heap.size (some ⟨w1.heap.size, 0, none⟩) 1 1 [⟨evN 4 b 0 0, none, 0⟩] G := by
  have hk : Bk w2 w1.heap.size 75 #[.int .i64 4, .int .i64 0, .int .i64 b, .int .i64 0, .int .i64 0, .int .i64 0, .slice none 0 0] := by rw [h2]; exact Bk.new _ _ _
  have hf : ∀ o, Fr (fun _ => False) w2 (w3.alloc o) := fun o => by rw [h3]; exact ((Fr.refl _ _).alloc _).alloc _
  refine ⟨Bk.new _ _ _, ⟨rfl, .inr ⟨w1.heap.size, 0, 1, _, rfl, hk.fr (hf _) (fun h => h), Nat.le_refl _, by unfold maxLen; omega, by simp, fun j hj => by
    have hj7 : j < 7 := hj
    simp [vlc, VL.cells, VL.bv, evN]⟩⟩, rfl, fun p hp => ?_⟩
  simp at hp; subst hp
  have := rdN (w3.alloc (.cells #[.pointer (some ⟨g, 0, none⟩), .slice (some ⟨w1.heap.size, 0, none⟩) 1 1, .map (some w2.heap.size)] 142)) 4 b 0 0 ⟨by decide, by decide⟩ hb i64z i64z
  exact ⟨this.rd, this.ok, fun ad e => by cases e⟩
set_option maxRecDepth 100000 in
set_option maxHeartbeats 4000000 in
theorem newDraft_any {w : World} {g : Nat} {A : Option Addr} {n c : Nat} {ps : List VL} {mo : Option Nat} {D : DV} {s : FS} (h : FlM w g A n c ps mo D s) (G : Nat → Prop) :
    Calls Tryd.prog 93 #[.pointer (some ⟨g, 0, none⟩)] w fun e w' => ∃ gd gr gm, e = .returned (.pointer (some ⟨gd, 0, none⟩)) ∧ Dr w' gd g gm (some ⟨gr, 0, none⟩) 1 1 [⟨evN 4 s.beg 0 0, none, 0⟩] G ∧ w.heap.size ≤ gd ∧ w.heap.size ≤ gr ∧ Fr (fun _ => False) w w' := by
  have hmm := @run_makeMap Tryd.prog
  have y5 : w.cell? ⟨g, 5, none⟩ = some (.int .i64 s.beg) := h.blk.cell 5
  have HB64 := Lib.hid h.t64.2
  generalize s.beg = b at *
  have HD := Lib.hid (draftNew (w := w) (g := g) HB64.out G rfl rfl rfl)
  have HF : Hid (∀ o1 o2 o3 o4, Fr (fun _ => False) w ((((w.alloc o1).alloc o2).alloc o3).alloc o4)) := Lib.hid (fun _ _ _ _ => ((((Fr.refl _ _).alloc _).alloc _).alloc _).alloc _)
  clear h
  go_enter Tryd.func93, Tryd.ntmps93
  go_wp2
  go_ret
  have hb := HD.out
  have e1 : ∀ (w : World) (o : Obj), (w.alloc o).heap.size = w.heap.size + 1 := fun w o => by simp
  simp only [e1] at hb
  exact ⟨_, _, _, rfl, hb, by omega, by omega, HF.out _ _ _ _⟩

set_option maxRecDepth 100000 in
set_option maxHeartbeats 4000000 in
theorem closesD_any {w : World} {gd g gm : Nat} {A : Option Addr} {n c : Nat} {ps : List VL} {G : Nat → Prop} (h : Dr w gd g gm A n c ps G) (h0 : 0 < n) (hn : n ≤ 1048576) :
    Calls Tryd.prog 96 #[.pointer (some ⟨gd, 0, none⟩)] w fun e w' => e = .returned (.bool (closesK (ps.getD (n - 1) default).e.k)) ∧ Fr (fun _ => False) w w' := by
  obtain ⟨m, rfl⟩ : ∃ m, n = m + 1 := ⟨n - 1, by omega⟩
  rw [Nat.add_sub_cancel]
  obtain ⟨b, off, rfl, -, hcs, -⟩ := h.vs.at (i := m) (by omega)
  have HB : Hid (∀ w', Fr (fun _ => False) w w' → w'.cell? ⟨gd, 1, none⟩ = some (.slice (some ⟨b, off, none⟩) (m + 1) c)) := Lib.hid (fun w' hf => (h.blk.fr hf (fun h => h)).cell 1)
  have hbl := World.block_lt_of_cell? w _ (hcs 0 _ rfl)
  have HK : Hid (∀ w', Fr (fun _ => False) w w' → w'.cell? ⟨b, off + m * 7, none⟩ = some (.int .i64 (ps.getD m default).e.k)) := Lib.hid (fun w' hf => (hf.cell hbl (fun h => h)).trans (hcs 0 _ rfl))
  generalize (ps.getD m default).e.k = k at *
  have CC := Lib.hid (fun w' => closes_any k w')
  have w1 : IntKind.i64.wrap (((m + 1 : Nat) : Int) - 1) = (m : Int) := by rw [IntWalk.i64_in _ (by omega)]; omega
  have w2 : IntKind.i64.wrap ((m : Int) + 1 - 1) = (m : Int) := by rw [IntWalk.i64_in _ (by omega)]; omega
  have w4 : (m : Int) + 1 - 1 = (m : Int) := by omega
  have w5 : wrap64 (m : Int) = (m : Int) := by unfold wrap64; omega
  have w6 : IntKind.i64.wrap (m : Int) = (m : Int) := IntWalk.i64_in _ (by omega)
  have hm0 : (0 : Int) ≤ (m : Int) := by omega
  have hm1 : (m : Int) < ((m + 1 : Nat) : Int) := by omega
  have hm2 : (m : Int) < (m : Int) + 1 := by omega
  clear h hcs hbl h0 hn
  go_enter Tryd.func96, Tryd.ntmps96
  go_wp2_with fail
  refine wp_region_held_drew (S := (fun w' => Fr (fun _ => False) w w')) (by kernel_rfl) ((Fr.refl _ _).drew) (fun hHeld => ?_)
  refine wpAnyH_takeD (i := 0) (v := ?_) (some 3) rfl rfl (by kernel_rfl) (by kernel_rfl) (by kernel_rfl) (fun _ _ _ h => h) (Or.inl ⟨by rfl, ?_⟩) (by assumption) ?_
  rotate_left
  · intro w' hSw
    go_simp
    first | done | with_reducible rfl
  try simp only [Act.put, List.setIfInBounds_toArray, List.set_cons_zero, List.set_cons_succ]
  refine wpAnyH_takeD (i := 1) (v := ?_) (some 4) rfl rfl (by kernel_rfl) (by kernel_rfl) (by kernel_rfl) (fun _ _ _ h => h) (Or.inl ⟨by rfl, ?_⟩) (by assumption) ?_
  rotate_left
  · intro w' hSw
    go_simp
    first | done | with_reducible rfl
  try simp only [Act.put, List.setIfInBounds_toArray, List.set_cons_zero, List.set_cons_succ]
  refine wpAnyH_takeD (i := 2) (v := ?_) (some 5) rfl rfl (by kernel_rfl) (by kernel_rfl) (by kernel_rfl) (fun _ _ _ h => h) (Or.inl ⟨by rfl, ?_⟩) (by assumption) ?_
  rotate_left
  · intro w' hSw
    go_simp
    first | done | with_reducible rfl
  try simp only [Act.put, List.setIfInBounds_toArray, List.set_cons_zero, List.set_cons_succ]
  refine wpAnyH_takeD (i := 3) (v := ?_) (some 6) rfl rfl (by kernel_rfl) (by kernel_rfl) (by kernel_rfl) (fun _ _ _ h => h) (Or.inl ⟨by rfl, ?_⟩) (by assumption) ?_
  rotate_left
  · intro w' hSw
    have q := HB.out w' hSw
    go_simp
    first | done | with_reducible rfl
  try simp only [Act.put, List.setIfInBounds_toArray, List.set_cons_zero, List.set_cons_succ]
  refine wpAnyH_takeD (i := 4) (v := ?_) (some 7) rfl rfl (by kernel_rfl) (by kernel_rfl) (by kernel_rfl) (fun _ _ _ h => h) (Or.inl ⟨by rfl, ?_⟩) (by assumption) ?_
  rotate_left
  · intro w' hSw
    go_simp
    first | done | with_reducible rfl
  try simp only [Act.put, List.setIfInBounds_toArray, List.set_cons_zero, List.set_cons_succ]
  refine wpAnyH_takeD (i := 5) (v := ?_) (some 8) rfl rfl (by kernel_rfl) (by kernel_rfl) (by kernel_rfl) (fun _ _ _ h => h) (Or.inl ⟨by rfl, ?_⟩) (by assumption) ?_
  rotate_left
  · intro w' hSw
    go_simp
    first | done | with_reducible rfl
  try simp only [Act.put, List.setIfInBounds_toArray, List.set_cons_zero, List.set_cons_succ]
  refine wpAnyH_takeD (i := 6) (v := ?_) (some 9) rfl rfl (by kernel_rfl) (by kernel_rfl) (by kernel_rfl) (fun _ _ _ h => h) (Or.inl ⟨by rfl, ?_⟩) (by assumption) ?_
  rotate_left
  · intro w' hSw
    go_simp
    first | done | with_reducible rfl
  try simp only [Act.put, List.setIfInBounds_toArray, List.set_cons_zero, List.set_cons_succ]
  refine wpAnyH_takeD (i := 7) (v := ?_) (some 10) rfl rfl (by kernel_rfl) (by kernel_rfl) (by kernel_rfl) (fun _ _ _ h => h) (Or.inl ⟨by rfl, ?_⟩) (by assumption) ?_
  rotate_left
  · intro w' hSw
    have q := HB.out w' hSw
    go_simp
    first | done | with_reducible rfl
  try simp only [Act.put, List.setIfInBounds_toArray, List.set_cons_zero, List.set_cons_succ]
  refine wpAnyH_takeD (i := 8) (v := ?_) (some 11) rfl rfl (by kernel_rfl) (by kernel_rfl) (by kernel_rfl) (fun _ _ _ h => h) (Or.inl ⟨by rfl, ?_⟩) (by assumption) ?_
  rotate_left
  · intro w' hSw
    go_simp
    first | done | with_reducible rfl
  try simp only [Act.put, List.setIfInBounds_toArray, List.set_cons_zero, List.set_cons_succ]
  refine wpAnyH_takeD (i := 9) (v := ?_) (some 12) rfl rfl (by kernel_rfl) (by kernel_rfl) (by kernel_rfl) (fun _ _ _ h => h) (Or.inl ⟨by rfl, ?_⟩) (by assumption) ?_
  rotate_left
  · intro w' hSw
    go_simp
    first | done | with_reducible rfl
  try simp only [Act.put, List.setIfInBounds_toArray, List.set_cons_zero, List.set_cons_succ]
  refine wpAnyH_takeD (i := 10) (v := ?_) (some 13) rfl rfl (by kernel_rfl) (by kernel_rfl) (by kernel_rfl) (fun _ _ _ h => h) (Or.inl ⟨by rfl, ?_⟩) (by assumption) ?_
  rotate_left
  · intro w' hSw
    go_simp
    first | done | with_reducible rfl
  try simp only [Act.put, List.setIfInBounds_toArray, List.set_cons_zero, List.set_cons_succ]
  refine wpAnyH_takeD (i := 11) (v := ?_) (some 14) rfl rfl (by kernel_rfl) (by kernel_rfl) (by kernel_rfl) (fun _ _ _ h => h) (Or.inl ⟨by rfl, ?_⟩) (by assumption) ?_
  rotate_left
  · intro w' hSw
    go_simp
    first | done | with_reducible rfl
  try simp only [Act.put, List.setIfInBounds_toArray, List.set_cons_zero, List.set_cons_succ]
  refine wpAnyH_takeD (i := 12) (v := ?_) (some 15) rfl rfl (by kernel_rfl) (by kernel_rfl) (by kernel_rfl) (fun _ _ _ h => h) (Or.inl ⟨by rfl, ?_⟩) (by assumption) ?_
  rotate_left
  · intro w' hSw
    have q := HK.out w' hSw
    go_simp
    first | done | with_reducible rfl
  try simp only [Act.put, List.setIfInBounds_toArray, List.set_cons_zero, List.set_cons_succ]
  refine wpAnyH_ready (rs := [13]) (by kernel_rfl) (by simp) ?_
  refine AllReadyH.cons rfl (fun K hK => ?_) AllReadyH.nil
  go_simp
  refine (CC.out _).mono ?_; rintro e w2 ⟨rfl, rfl⟩
  try go_simp
  refine hK.out _ _ (hHeld) (fun hHeld => ?_)
  clear hK K
  try change wpAnyH _ _ _ _ _ _ _ (Act.put _ (some 16) _) _
  try simp only [Act.put, List.setIfInBounds_toArray, List.set_cons_zero, List.set_cons_succ]
  refine wpAnyH_takeD (i := 14) (v := ?_) (some 2) rfl rfl (by kernel_rfl) (by kernel_rfl) (by kernel_rfl) (fun _ _ _ h => h) (Or.inl ⟨by rfl, ?_⟩) (by assumption) ?_
  rotate_left
  · intro w' hSw
    go_simp
    first | done | with_reducible rfl
  try simp only [Act.put, List.setIfInBounds_toArray, List.set_cons_zero, List.set_cons_succ]
  refine wpAnyH_done (by kernel_rfl) ?_ _
  have HH := Lib.hid hHeld
  clear hHeld
  go_wp2
  go_ret
  exact ⟨rfl, HH.out⟩

theorem sl1D {w' : World} {g : Nat} {cs : List Value} (hl : cs.length = 7) (h : Bk w' g 75 cs.toArray) : Sl w' 7 (.slice (some ⟨g, 0, none⟩) 1 1) 1 cs :=
  Sl.at rfl (by rw [hl]) (fun j u hu => by rw [Nat.zero_add, h.cell]; simpa using hu)
/-- The kind of the event that a decision that closes comes to. -/
def closeK (k : Int) : Int := if k = 5 then 20 else if k = 6 then 21 else if k = 7 then 22 else 19
set_option maxRecDepth 100000 in
set_option maxHeartbeats 8000000 in
/-- A decision that closes is taken. -/
theorem takes_close {w : World} {gd g gm : Nat} {A : Option Addr} {n c : Nat} {ps : List VL} {G : Nat → Prop} (h : Dr w gd g gm A n c ps G) (hn : n ≤ 1048576) (hM : MadeT w) (x : DL) (d : List UInt8) (hk : x.k = 5 ∨ x.k = 6 ∨ x.k = 8 ∨ (x.k = 7 ∧ w.cell? ⟨g, 8, none⟩ = some (.bool true))) (hr : Rd8 w x.A d) (hd : d.length = x.dl) (hd2 : x.dl ≤ 140737488355328) (hG : ∀ ad, x.A = some ad → 0 < x.dl → G ad.block) (hi : I64 x.i) (hl : I64 x.l) (hx : I64 x.n) (hgg : ∀ k, G k → (Value.slice A n c).ownBlock ≠ some k ∧ k ≠ gd) :
    Calls Tryd.prog 107 #[.pointer (some ⟨gd, 0, none⟩), .agg x.cells] w fun e w' => e = .returned (.bool true) ∧ ∃ A' c', Dr w' gd g gm A' (n + 1) c' (ps ++ [⟨⟨closeK x.k, 0, 0, x.i, x.l, x.n, d⟩, x.A, x.c⟩]) G ∧ Moved w (.slice A n c) (.slice A' (n + 1) c') ∧ Fr (fun k => k = gd ∨ (Value.slice A n c).ownBlock = some k) w w' := by
  obtain ⟨g1, hg1⟩ : ∃ g1, w.heap.size = g1 := ⟨_, rfl⟩
  obtain ⟨W, hW⟩ : ∃ W, w.alloc (.cells x.cells 59) = W := ⟨_, rfl⟩
  have HF : Hid (Fr (fun _ => False) w W) := Lib.hid (by rw [← hW]; exact (Fr.refl _ _).alloc _)
  have HB : Hid (Bk W g1 59 x.cells) := Lib.hid (by rw [← hW, ← hg1]; exact Bk.new _ _ _)
  have HG1 := Lib.hid hg1
  have HD := Lib.hid (h.fr0 HF.out)
  have HMW : Hid (∀ w', Fr (fun _ => False) W w' → MadeT w') := Lib.hid (fun w' hf => hM.fr (HF.out.trans hf (fun _ _ h => h)) (fun h => h))
  have HRW := Lib.hid (hr.fr HF.out (fun _ _ _ h => h))
  have HGG := Lib.hid hgg
  have HLEN := Lib.hid h.len
  have HNB : Hid (gd < g1 ∧ ∀ k, (Value.slice A n c).ownBlock = some k → k < g1 ∧ k ≠ gd) := Lib.hid ⟨by have := h.blk.lt; omega, fun k hk => by
    obtain ⟨cur, hbk⟩ := h.row.bk hk
    exact ⟨by have := hbk.lt; omega, fun e => by subst e; exact Bk.ne hbk h.blk (by decide) rfl⟩⟩
  have hnI : (n : Int) ≤ 1048576 := by omega
  obtain ⟨p, hp⟩ : ∃ p : VL, p = ⟨⟨closeK x.k, 0, 0, x.i, x.l, x.n, d⟩, x.A, x.c⟩ := ⟨_, rfl⟩
  have HPC : Hid (p.cells = [.int .i64 (closeK x.k), .int .i64 0, .int .i64 0, .int .i64 x.i, .int .i64 x.l, .int .i64 x.n, .slice x.A x.dl x.c]) := Lib.hid (by rw [hp]; simp [VL.cells, VL.bv, hd])
  have HPR : Hid (∀ w', Rd8 w' x.A d → RdV w' G p) := Lib.hid (fun w' hr' => by
    rw [hp]
    refine ⟨hr', ⟨?_, i64z, i64z, hi, hl, hx, by simp only; omega⟩, fun ad e h0 => hG ad e (by simp only at h0; omega)⟩
    unfold closeK
    constructor <;> (simp only; repeat' split) <;> omega)
  have HPB : Hid (p.A = x.A ∧ ∀ ad, x.A = some ad → 0 < d.length → G ad.block) := Lib.hid ⟨by rw [hp], fun ad e h0 => hG ad e (by omega)⟩
  rw [← hp]
  have HK8 : Hid (x.k = 7 → W.cell? ⟨g, 8, none⟩ = some (.bool true)) := Lib.hid (fun h7 => by
    rcases hk with h5 | h5 | h5 | ⟨_, h5⟩
    · omega
    · omega
    · omega
    · exact (HF.out.cell (World.block_lt_of_cell? w _ h5) (fun h => h)).trans h5)
  have HKK : Hid (x.k = 5 ∨ x.k = 6 ∨ x.k = 8 ∨ x.k = 7) := Lib.hid (by omega)
  clear h hn hM hk hr hd hd2 hG hi hl hx hgg hp
  obtain ⟨k, i, l, m, dA, dl, dc⟩ := x
  unfold DL.cells at *
  simp only at *
  have HQ : Hid (∀ w', Fr (fun _ => False) W w' → w'.cell? ⟨g1, 0, none⟩ = some (.int .i64 k) ∧ w'.cell? ⟨g1, 1, none⟩ = some (.int .i64 i) ∧ w'.cell? ⟨g1, 2, none⟩ = some (.int .i64 l) ∧ w'.cell? ⟨g1, 3, none⟩ = some (.int .i64 m) ∧ w'.cell? ⟨g1, 4, none⟩ = some (.slice dA dl dc)) := Lib.hid (fun w' hf => by
    have hb := HB.out.fr hf (fun h => h)
    exact ⟨hb.cell 0, hb.cell 1, hb.cell 2, hb.cell 3, hb.cell 4⟩)
  obtain ⟨j, rfl⟩ : ∃ j : Nat, k = (j : Int) := ⟨k.toNat, by have := HKK.out; omega⟩
  have hj9 : j < 9 := by have := HKK.out; omega
  have hjI : (j : Int) < 9 := by omega
  have hj0 : (0 : Int) ≤ (j : Int) := by omega
  obtain ⟨ck, hck⟩ : ∃ ck, closeK (j : Int) = ck := ⟨_, rfl⟩
  rw [hck] at HPC
  have HCK : Hid (∀ w', Fr (fun _ => False) W w' → w'.cell? ⟨0, j, none⟩ = some (.int .i64 ck)) := Lib.hid (fun w' hf => by
    have hm := HMW.out w' hf
    rw [← hck]
    have hkk := HKK.out
    have h4 : j = 5 ∨ j = 6 ∨ j = 8 ∨ j = 7 := by omega
    rcases h4 with rfl | rfl | rfl | rfl
    · exact hm 5 (by omega)
    · exact hm 6 (by omega)
    · exact hm 8 (by omega)
    · exact hm 7 (by omega))
  clear hck HMW HB
  go_enter Tryd.func107, Tryd.ntmps107
  go_wp2_with fail
  clear hW hg1
  refine wp_region_Z [14] ((fun w' => Fr (fun _ => False) W w')) (by kernel_rfl) ((Fr.refl _ _).drew) (fun hHeld => ?_)
  refine anyZ_pure (i := 0) (v := ?_) (some 8) rfl rfl (by kernel_rfl) (by kernel_rfl) (by kernel_rfl) (by kernel_rfl) (fun _ _ _ h => h) (Or.inl ⟨by rfl, ?_⟩) (fun _ => hHeld) ?_
  rotate_left
  · intro w' _
    go_simp
    first | done | with_reducible rfl
  try simp only [Act.put, List.setIfInBounds_toArray, List.set_cons_zero, List.set_cons_succ]
  refine anyZ_read (i := 1) (v := ?_) (some 9) [2, 3, 12, 14] rfl rfl (by kernel_rfl) (by kernel_rfl) (by kernel_rfl) (by kernel_rfl) (by kernel_rfl) (by kernel_rfl) (fun _ _ _ h => h) (Or.inl ⟨by rfl, ?_⟩) hHeld ?_
  rotate_left
  · intro w' hSw
    obtain ⟨q0, q1, q2, q3, q4⟩ := HQ.out w' hSw
    go_simp
    first | done | with_reducible rfl
  try simp only [Act.put, List.setIfInBounds_toArray, List.set_cons_zero, List.set_cons_succ]
  refine anyZ_pure (i := 2) (v := ?_) (some 10) rfl rfl (by kernel_rfl) (by kernel_rfl) (by kernel_rfl) (by kernel_rfl) (fun _ _ _ h => h) (Or.inl ⟨by rfl, ?_⟩) (fun _ => hHeld) ?_
  rotate_left
  · intro w' _
    go_simp
    first | done | with_reducible rfl
  try simp only [Act.put, List.setIfInBounds_toArray, List.set_cons_zero, List.set_cons_succ]
  refine anyZ_read (i := 3) (v := ?_) (some 11) [12, 14] rfl rfl (by kernel_rfl) (by kernel_rfl) (by kernel_rfl) (by kernel_rfl) (by kernel_rfl) (by kernel_rfl) (fun _ _ _ h => h) (Or.inl ⟨by rfl, ?_⟩) hHeld ?_
  rotate_left
  · intro w' hSw
    have qm := HCK.out w' hSw
    go_simp
    first | done | with_reducible rfl
  try simp only [Act.put, List.setIfInBounds_toArray, List.set_cons_zero, List.set_cons_succ]
  refine anyZ_pure (i := 4) (v := ?_) (some 12) rfl rfl (by kernel_rfl) (by kernel_rfl) (by kernel_rfl) (by kernel_rfl) (fun _ _ _ h => h) (Or.inl ⟨by rfl, ?_⟩) (fun _ => hHeld) ?_
  rotate_left
  · intro w' _
    go_simp
    first | done | with_reducible rfl
  try simp only [Act.put, List.setIfInBounds_toArray, List.set_cons_zero, List.set_cons_succ]
  refine anyZ_read (i := 5) (v := ?_) (some 13) [12, 14] rfl rfl (by kernel_rfl) (by kernel_rfl) (by kernel_rfl) (by kernel_rfl) (by kernel_rfl) (by kernel_rfl) (fun _ _ _ h => h) (Or.inl ⟨by rfl, ?_⟩) hHeld ?_
  rotate_left
  · intro w' hSw
    obtain ⟨q0, q1, q2, q3, q4⟩ := HQ.out w' hSw
    go_simp
    first | done | with_reducible rfl
  try simp only [Act.put, List.setIfInBounds_toArray, List.set_cons_zero, List.set_cons_succ]
  refine anyZ_pure (i := 6) (v := ?_) (some 14) rfl rfl (by kernel_rfl) (by kernel_rfl) (by kernel_rfl) (by kernel_rfl) (fun _ _ _ h => h) (Or.inl ⟨by rfl, ?_⟩) (fun _ => hHeld) ?_
  rotate_left
  · intro w' _
    go_simp
    first | done | with_reducible rfl
  try simp only [Act.put, List.setIfInBounds_toArray, List.set_cons_zero, List.set_cons_succ]
  refine anyZ_read (i := 7) (v := ?_) (some 15) [12, 14] rfl rfl (by kernel_rfl) (by kernel_rfl) (by kernel_rfl) (by kernel_rfl) (by kernel_rfl) (by kernel_rfl) (fun _ _ _ h => h) (Or.inl ⟨by rfl, ?_⟩) hHeld ?_
  rotate_left
  · intro w' hSw
    obtain ⟨q0, q1, q2, q3, q4⟩ := HQ.out w' hSw
    go_simp
    first | done | with_reducible rfl
  try simp only [Act.put, List.setIfInBounds_toArray, List.set_cons_zero, List.set_cons_succ]
  refine anyZ_pure (i := 8) (v := ?_) (some 16) rfl rfl (by kernel_rfl) (by kernel_rfl) (by kernel_rfl) (by kernel_rfl) (fun _ _ _ h => h) (Or.inl ⟨by rfl, ?_⟩) (fun _ => hHeld) ?_
  rotate_left
  · intro w' _
    go_simp
    first | done | with_reducible rfl
  try simp only [Act.put, List.setIfInBounds_toArray, List.set_cons_zero, List.set_cons_succ]
  refine anyZ_read (i := 9) (v := ?_) (some 17) [12, 14] rfl rfl (by kernel_rfl) (by kernel_rfl) (by kernel_rfl) (by kernel_rfl) (by kernel_rfl) (by kernel_rfl) (fun _ _ _ h => h) (Or.inl ⟨by rfl, ?_⟩) hHeld ?_
  rotate_left
  · intro w' hSw
    obtain ⟨q0, q1, q2, q3, q4⟩ := HQ.out w' hSw
    go_simp
    first | done | with_reducible rfl
  try simp only [Act.put, List.setIfInBounds_toArray, List.set_cons_zero, List.set_cons_succ]
  refine anyZ_pure (i := 10) (v := ?_) (some 18) rfl rfl (by kernel_rfl) (by kernel_rfl) (by kernel_rfl) (by kernel_rfl) (fun _ _ _ h => h) (Or.inl ⟨by rfl, ?_⟩) (fun _ => hHeld) ?_
  rotate_left
  · intro w' _
    go_simp
    first | done | with_reducible rfl
  try simp only [Act.put, List.setIfInBounds_toArray, List.set_cons_zero, List.set_cons_succ]
  refine anyZ_read (i := 11) (v := ?_) (some 19) [12, 14] rfl rfl (by kernel_rfl) (by kernel_rfl) (by kernel_rfl) (by kernel_rfl) (by kernel_rfl) (by kernel_rfl) (fun _ _ _ h => h) (Or.inl ⟨by rfl, ?_⟩) hHeld ?_
  rotate_left
  · intro w' hSw
    obtain ⟨q0, q1, q2, q3, q4⟩ := HQ.out w' hSw
    go_simp
    first | done | with_reducible rfl
  try simp only [Act.put, List.setIfInBounds_toArray, List.set_cons_zero, List.set_cons_succ]
  refine anyZ_pure (i := 12) (v := ?_) (some 20) rfl rfl (by kernel_rfl) (by kernel_rfl) (by kernel_rfl) (by kernel_rfl) (fun _ _ _ h => h) (Or.inl ⟨by rfl, ?_⟩) (fun _ => hHeld) ?_
  rotate_left
  · intro w' _
    go_simp
    first | done | with_reducible rfl
  try simp only [Act.put, List.setIfInBounds_toArray, List.set_cons_zero, List.set_cons_succ]
  refine anyZ_ready (rs := [13]) (by kernel_rfl) (by simp) ?_
  refine AllZ.step rfl (fun K hK => ?_) AllZ.nil
  go_simp
  refine hK.out _ _ (hHeld.alloc _) (fun hHeld => ?_)
  clear hK K
  try change anyZ _ _ _ _ _ _ _ _ (Act.put _ (some 5) _) _
  try simp only [Act.put, List.setIfInBounds_toArray, List.set_cons_zero, List.set_cons_succ]
  refine anyZ_ready (rs := [14]) (by kernel_rfl) (by simp) ?_
  refine AllZ.last rfl (by kernel_rfl) (fun K hK => ?_) AllZ.nil
  have HKZ : Bk (W.alloc (.cells #[.int .i64 0, .int .i64 0, .int .i64 0, .int .i64 0, .int .i64 0, .int .i64 0, .slice none 0 0] 75)) W.heap.size 75 #[.int .i64 0, .int .i64 0, .int .i64 0, .int .i64 0, .int .i64 0, .int .i64 0, .slice none 0 0] := Bk.new _ _ _
  have z0 := HKZ.cell 0
  have z1 := HKZ.cell 1
  have z2 := HKZ.cell 2
  have z3 := HKZ.cell 3
  have z4 := HKZ.cell 4
  have z5 := HKZ.cell 5
  have z6 := HKZ.cell 6
  have f0 := HKZ.frozen 0
  have f1 := HKZ.frozen 1
  have f2 := HKZ.frozen 2
  have f3 := HKZ.frozen 3
  have f4 := HKZ.frozen 4
  have f5 := HKZ.frozen 5
  have f6 := HKZ.frozen 6
  simp only [List.getElem?_toArray, List.getElem?_cons_zero, List.getElem?_cons_succ] at z0 z1 z2 z3 z4 z5 z6
  go_simp
  refine hK.out _ _ ?_
  clear hK K
  try change anyZ _ _ _ _ _ _ _ _ (Act.put _ none _) _
  try simp only [Act.put, List.setIfInBounds_toArray, List.set_cons_zero, List.set_cons_succ]
  refine anyZ_done (by kernel_rfl) ?_ _
  clear hHeld z0 z1 z2 z3 z4 z5 z6 f0 f1 f2 f3 f4 f5 f6 HKZ
  obtain ⟨ge, hge⟩ : ∃ ge, W.heap.size = ge := ⟨_, rfl⟩
  obtain ⟨W2, hW2⟩ : ∃ W2, (W.alloc (.cells #[.int .i64 ck, .int .i64 0, .int .i64 0, .int .i64 i, .int .i64 l, .int .i64 m, .slice dA dl dc] 75)).drew = W2 := ⟨_, rfl⟩
  have HK2 : Hid (Bk W2 ge 75 #[.int .i64 ck, .int .i64 0, .int .i64 0, .int .i64 i, .int .i64 l, .int .i64 m, .slice dA dl dc]) := Lib.hid (by rw [← hW2, ← hge]; exact (Bk.new _ _ _).drew)
  have HF2 : Hid (Fr (fun _ => False) W W2) := Lib.hid (by rw [← hW2]; exact ((Fr.refl _ _).alloc _).drew)
  rw [hge, hW2]
  clear hW2 hge
  have h4 : j = 5 ∨ j = 6 ∨ j = 8 ∨ j = 7 := by have := HKK.out; omega
  have kk : W2.cell? ⟨g1, 0, none⟩ = some (.int .i64 (j : Int)) := (HQ.out W2 HF2.out).1
  rcases h4 with h4 | h4 | h4 | h4
  · have e3 : ((j : Int) == 3) = false := by simp; omega
    have e7 : ((j : Int) == 7) = false := by simp; omega
    have e4 : ((j : Int) == 4) = false := by simp; omega
    have e1 : ((j : Int) == 1) = false := by simp; omega
    have e2 : ((j : Int) == 2) = false := by simp; omega
    have g3 : (j == 3) = false := by simp; omega
    have g7 : (j == 7) = false := by simp; omega
    have g4 : (j == 4) = false := by simp; omega
    have g1' : (j == 1) = false := by simp; omega
    have g2' : (j == 2) = false := by simp; omega
    clear h4
    go_wp2_with fail
    refine wp_region_Z [7, 10] ((fun w' => Fr (fun _ => False) W2 w')) (by kernel_rfl) ((Fr.refl _ _).drew) (fun hHeld => ?_)
    refine anyZ_pure (i := 0) (v := ?_) (some 94) rfl rfl (by kernel_rfl) (by kernel_rfl) (by kernel_rfl) (by kernel_rfl) (fun _ _ _ h => h) (Or.inl ⟨by rfl, ?_⟩) (fun _ => hHeld) ?_
    rotate_left
    · intro w' _
      go_simp
      first | done | with_reducible rfl
    try simp only [Act.put, List.setIfInBounds_toArray, List.set_cons_zero, List.set_cons_succ]
    refine anyZ_pure (i := 1) (v := ?_) (some 95) rfl rfl (by kernel_rfl) (by kernel_rfl) (by kernel_rfl) (by kernel_rfl) (fun _ _ _ h => h) (Or.inl ⟨by rfl, ?_⟩) (fun _ => hHeld) ?_
    rotate_left
    · intro w' _
      go_simp
      first | done | with_reducible rfl
    try simp only [Act.put, List.setIfInBounds_toArray, List.set_cons_zero, List.set_cons_succ]
    refine anyZ_pure (i := 2) (v := ?_) (some 96) rfl rfl (by kernel_rfl) (by kernel_rfl) (by kernel_rfl) (by kernel_rfl) (fun _ _ _ h => h) (Or.inl ⟨by rfl, ?_⟩) (fun _ => hHeld) ?_
    rotate_left
    · intro w' _
      go_simp
      first | done | with_reducible rfl
    try simp only [Act.put, List.setIfInBounds_toArray, List.set_cons_zero, List.set_cons_succ]
    refine anyZ_pure (i := 3) (v := ?_) (some 97) rfl rfl (by kernel_rfl) (by kernel_rfl) (by kernel_rfl) (by kernel_rfl) (fun _ _ _ h => h) (Or.inl ⟨by rfl, ?_⟩) (fun _ => hHeld) ?_
    rotate_left
    · intro w' _
      go_simp
      first | done | with_reducible rfl
    try simp only [Act.put, List.setIfInBounds_toArray, List.set_cons_zero, List.set_cons_succ]
    refine anyZ_read (i := 4) (v := ?_) (some 98) [7, 8, 9, 10] rfl rfl (by kernel_rfl) (by kernel_rfl) (by kernel_rfl) (by kernel_rfl) (by kernel_rfl) (by kernel_rfl) (fun _ _ _ h => h) (Or.inl ⟨by rfl, ?_⟩) hHeld ?_
    rotate_left
    · intro w' hSw
      have q1 := ((HD.out.blk.fr HF2.out (fun h => h)).fr hSw (fun h => h)).cell 1; simp only [List.getElem?_toArray, List.getElem?_cons_zero, List.getElem?_cons_succ] at q1
      go_simp
      first | done | with_reducible rfl
    try simp only [Act.put, List.setIfInBounds_toArray, List.set_cons_zero, List.set_cons_succ]
    refine anyZ_read (i := 5) (v := ?_) (some 99) [6, 7, 8, 9, 10] rfl rfl (by kernel_rfl) (by kernel_rfl) (by kernel_rfl) (by kernel_rfl) (by kernel_rfl) (by kernel_rfl) (fun _ _ _ h => h) (Or.inl ⟨by rfl, ?_⟩) hHeld ?_
    rotate_left
    · intro w' hSw
      have qk := HK2.out.fr hSw (fun h => h); have k0 := qk.cell 0; have k1 := qk.cell 1; have k2 := qk.cell 2; have k3 := qk.cell 3; have k4 := qk.cell 4; have k5 := qk.cell 5; have k6 := qk.cell 6; simp only [List.getElem?_toArray, List.getElem?_cons_zero, List.getElem?_cons_succ] at k0 k1 k2 k3 k4 k5 k6
      go_simp
      first | done | with_reducible rfl
    try simp only [Act.put, List.setIfInBounds_toArray, List.set_cons_zero, List.set_cons_succ]
    refine anyZ_ready (rs := [6]) (by kernel_rfl) (by simp) ?_
    refine AllZ.step rfl (fun K hK => ?_) AllZ.nil
    go_simp
    refine hK.out _ _ (hHeld.alloc _) (fun hHeld => ?_)
    clear hK K
    try change anyZ _ _ _ _ _ _ _ _ (Act.put _ (some 100) _) _
    try simp only [Act.put, List.setIfInBounds_toArray, List.set_cons_zero, List.set_cons_succ]
    refine anyZ_ready (rs := [7]) (by kernel_rfl) (by simp) ?_
    refine AllZ.last rfl (by kernel_rfl) (fun K hK => ?_) AllZ.nil
    refine stepOf_appendW teVF rfl (.tmp 98) (.tmp 100) rfl (.slice A n c) n (vlc ps) rfl (HD.out.row.fr0 (HF2.out.trans hHeld (fun _ _ h => h))) _ 1 [.int .i64 ck, .int .i64 0, .int .i64 0, .int .i64 i, .int .i64 l, .int .i64 m, .slice dA dl dc] rfl (sl1D rfl (Bk.new W2 75 #[.int .i64 ck, .int .i64 0, .int .i64 0, .int .i64 i, .int .i64 l, .int .i64 m, .slice dA dl dc]).drew) (fun u hu => by simp at hu; rcases hu with rfl | rfl | rfl | rfl | rfl | rfl | rfl <;> rfl) (by unfold maxLen; omega) (by omega) ?_
    intro A8 c8 w8 hr8 hf8 hm8
    have hWx := HF2.out.trans hHeld (fun _ _ h => h)
    have hD8 : Dr _ gd g gm A n c ps G := HD.out.fr0 hWx
    have HR8 : Hid (Row w8 75 7 (.slice A8 (n + 1) c8) (n + 1) (vlc (ps ++ [p]))) := Lib.hid (by rw [show vlc (ps ++ [p]) = vlc ps ++ p.cells by simp [vlc], HPC.out]; exact hr8)
    have HB8 : Hid (Bk w8 gd 142 #[.pointer (some ⟨g, 0, none⟩), .slice A n c, .map (some gm)]) := Lib.hid (hD8.blk.fr hf8 (fun e => (HNB.out.2 _ e).2 rfl))
    have HE8 : Hid (∀ q ∈ ps ++ [p], RdV w8 G q) := Lib.hid (fun q hq => by
  rcases List.mem_append.1 hq with hq | hq
  · exact (hD8.each q hq).fr hf8 (fun k hk e => (HGG.out k hk).1 e)
  · simp at hq; subst hq
    exact HPR.out _ ((HRW.out.fr hWx (fun _ _ _ h => h)).fr hf8 (fun ad e h0 e2 => (HGG.out _ (HPB.out.2 ad e h0)).1 e2)))
    have HFX : Hid (Fr (fun k => k = gd ∨ (Value.slice A n c).ownBlock = some k) w w8) := Lib.hid (((HF.out.trans hWx (fun _ _ h => h)).mono (fun _ _ h => h.elim)).trans hf8 (fun _ _ e => .inr e))
    have HMV : Hid (Moved w (.slice A n c) (.slice A8 (n + 1) c8)) := Lib.hid (hm8.elim .inl (fun ⟨x, e, hx⟩ => .inr ⟨x, e, Nat.le_trans (HF.out.trans hWx (fun _ _ h => h)).size hx⟩))
    clear hr8 hf8 hm8 hWx hD8
    have x1 := HB8.out.cell 1
    have z1 := HB8.out.frozen 1
    simp only [List.getElem?_toArray, List.getElem?_cons_zero, List.getElem?_cons_succ] at x1
    obtain ⟨W9, hW9⟩ : ∃ W9, w8.setCell ⟨gd, 1, none⟩ (.slice A8 (n + 1) c8) = W9 := ⟨_, rfl⟩
    refine hK.out _ _ ?_
    clear hK K
    try change anyZ _ _ _ _ _ _ _ _ (Act.put _ (some 101) _) _
    try simp only [Act.put, List.setIfInBounds_toArray, List.set_cons_zero, List.set_cons_succ]
    refine anyZ_pure (i := 8) (v := ?_) (some 102) rfl rfl (by kernel_rfl) (by kernel_rfl) (by kernel_rfl) (by kernel_rfl) (fun _ _ _ h => h) (Or.inl ⟨by rfl, ?_⟩) (notYet (by kernel_rfl)) ?_
    rotate_left
    · intro w' _
      go_simp
      first | done | with_reducible rfl
    try simp only [Act.put, List.setIfInBounds_toArray, List.set_cons_zero, List.set_cons_succ]
    refine anyZ_pure (i := 9) (v := ?_) (some 103) rfl rfl (by kernel_rfl) (by kernel_rfl) (by kernel_rfl) (by kernel_rfl) (fun _ _ _ h => h) (Or.inl ⟨by rfl, ?_⟩) (notYet (by kernel_rfl)) ?_
    rotate_left
    · intro w' _
      go_simp
      first | done | with_reducible rfl
    try simp only [Act.put, List.setIfInBounds_toArray, List.set_cons_zero, List.set_cons_succ]
    refine anyZ_ready (rs := [10]) (by kernel_rfl) (by simp) ?_
    refine AllZ.last rfl (by kernel_rfl) (fun K hK => ?_) AllZ.nil
    go_simp
    refine hK.out _ _ ?_
    clear hK K
    try change anyZ _ _ _ _ _ _ _ _ (Act.put _ none _) _
    try simp only [Act.put, List.setIfInBounds_toArray, List.set_cons_zero, List.set_cons_succ]
    refine anyZ_done (by kernel_rfl) ?_ _
    try rw [hW9]
    have HS9 : Hid (Fr (fun x => x = gd) w8 W9) := Lib.hid (by rw [← hW9]; exact Fr.setCell (S := fun x => x = gd) (p := ⟨gd, 1, none⟩) (Fr.refl _ w8) (fun _ => rfl) _)
    have HB9 : Hid (Bk W9 gd 142 #[.pointer (some ⟨g, 0, none⟩), .slice A8 (n + 1) c8, .map (some gm)]) := Lib.hid (by rw [← hW9]; exact HB8.out.set 1 _)
    clear hW9 hHeld x1 z1
    go_wp2
    go_ret
    refine ⟨rfl, A8, c8, ⟨HB9.out, HR8.out.fr HS9.out (fun k hk e => by
      obtain ⟨cur, hbk⟩ := HR8.out.bk hk
      subst e
      exact Bk.ne hbk HB8.out (by decide) rfl), by simp [HLEN.out], fun q hq => (HE8.out q hq).fr HS9.out (fun k hk e => (HGG.out k hk).2 e)⟩, HMV.out, HFX.out.trans HS9.out (fun _ _ e => .inl e)⟩
  · have e3 : ((j : Int) == 3) = false := by simp; omega
    have e7 : ((j : Int) == 7) = false := by simp; omega
    have e4 : ((j : Int) == 4) = false := by simp; omega
    have e1 : ((j : Int) == 1) = false := by simp; omega
    have e2 : ((j : Int) == 2) = false := by simp; omega
    have g3 : (j == 3) = false := by simp; omega
    have g7 : (j == 7) = false := by simp; omega
    have g4 : (j == 4) = false := by simp; omega
    have g1' : (j == 1) = false := by simp; omega
    have g2' : (j == 2) = false := by simp; omega
    clear h4
    go_wp2_with fail
    refine wp_region_Z [7, 10] ((fun w' => Fr (fun _ => False) W2 w')) (by kernel_rfl) ((Fr.refl _ _).drew) (fun hHeld => ?_)
    refine anyZ_pure (i := 0) (v := ?_) (some 94) rfl rfl (by kernel_rfl) (by kernel_rfl) (by kernel_rfl) (by kernel_rfl) (fun _ _ _ h => h) (Or.inl ⟨by rfl, ?_⟩) (fun _ => hHeld) ?_
    rotate_left
    · intro w' _
      go_simp
      first | done | with_reducible rfl
    try simp only [Act.put, List.setIfInBounds_toArray, List.set_cons_zero, List.set_cons_succ]
    refine anyZ_pure (i := 1) (v := ?_) (some 95) rfl rfl (by kernel_rfl) (by kernel_rfl) (by kernel_rfl) (by kernel_rfl) (fun _ _ _ h => h) (Or.inl ⟨by rfl, ?_⟩) (fun _ => hHeld) ?_
    rotate_left
    · intro w' _
      go_simp
      first | done | with_reducible rfl
    try simp only [Act.put, List.setIfInBounds_toArray, List.set_cons_zero, List.set_cons_succ]
    refine anyZ_pure (i := 2) (v := ?_) (some 96) rfl rfl (by kernel_rfl) (by kernel_rfl) (by kernel_rfl) (by kernel_rfl) (fun _ _ _ h => h) (Or.inl ⟨by rfl, ?_⟩) (fun _ => hHeld) ?_
    rotate_left
    · intro w' _
      go_simp
      first | done | with_reducible rfl
    try simp only [Act.put, List.setIfInBounds_toArray, List.set_cons_zero, List.set_cons_succ]
    refine anyZ_pure (i := 3) (v := ?_) (some 97) rfl rfl (by kernel_rfl) (by kernel_rfl) (by kernel_rfl) (by kernel_rfl) (fun _ _ _ h => h) (Or.inl ⟨by rfl, ?_⟩) (fun _ => hHeld) ?_
    rotate_left
    · intro w' _
      go_simp
      first | done | with_reducible rfl
    try simp only [Act.put, List.setIfInBounds_toArray, List.set_cons_zero, List.set_cons_succ]
    refine anyZ_read (i := 4) (v := ?_) (some 98) [7, 8, 9, 10] rfl rfl (by kernel_rfl) (by kernel_rfl) (by kernel_rfl) (by kernel_rfl) (by kernel_rfl) (by kernel_rfl) (fun _ _ _ h => h) (Or.inl ⟨by rfl, ?_⟩) hHeld ?_
    rotate_left
    · intro w' hSw
      have q1 := ((HD.out.blk.fr HF2.out (fun h => h)).fr hSw (fun h => h)).cell 1; simp only [List.getElem?_toArray, List.getElem?_cons_zero, List.getElem?_cons_succ] at q1
      go_simp
      first | done | with_reducible rfl
    try simp only [Act.put, List.setIfInBounds_toArray, List.set_cons_zero, List.set_cons_succ]
    refine anyZ_read (i := 5) (v := ?_) (some 99) [6, 7, 8, 9, 10] rfl rfl (by kernel_rfl) (by kernel_rfl) (by kernel_rfl) (by kernel_rfl) (by kernel_rfl) (by kernel_rfl) (fun _ _ _ h => h) (Or.inl ⟨by rfl, ?_⟩) hHeld ?_
    rotate_left
    · intro w' hSw
      have qk := HK2.out.fr hSw (fun h => h); have k0 := qk.cell 0; have k1 := qk.cell 1; have k2 := qk.cell 2; have k3 := qk.cell 3; have k4 := qk.cell 4; have k5 := qk.cell 5; have k6 := qk.cell 6; simp only [List.getElem?_toArray, List.getElem?_cons_zero, List.getElem?_cons_succ] at k0 k1 k2 k3 k4 k5 k6
      go_simp
      first | done | with_reducible rfl
    try simp only [Act.put, List.setIfInBounds_toArray, List.set_cons_zero, List.set_cons_succ]
    refine anyZ_ready (rs := [6]) (by kernel_rfl) (by simp) ?_
    refine AllZ.step rfl (fun K hK => ?_) AllZ.nil
    go_simp
    refine hK.out _ _ (hHeld.alloc _) (fun hHeld => ?_)
    clear hK K
    try change anyZ _ _ _ _ _ _ _ _ (Act.put _ (some 100) _) _
    try simp only [Act.put, List.setIfInBounds_toArray, List.set_cons_zero, List.set_cons_succ]
    refine anyZ_ready (rs := [7]) (by kernel_rfl) (by simp) ?_
    refine AllZ.last rfl (by kernel_rfl) (fun K hK => ?_) AllZ.nil
    refine stepOf_appendW teVF rfl (.tmp 98) (.tmp 100) rfl (.slice A n c) n (vlc ps) rfl (HD.out.row.fr0 (HF2.out.trans hHeld (fun _ _ h => h))) _ 1 [.int .i64 ck, .int .i64 0, .int .i64 0, .int .i64 i, .int .i64 l, .int .i64 m, .slice dA dl dc] rfl (sl1D rfl (Bk.new W2 75 #[.int .i64 ck, .int .i64 0, .int .i64 0, .int .i64 i, .int .i64 l, .int .i64 m, .slice dA dl dc]).drew) (fun u hu => by simp at hu; rcases hu with rfl | rfl | rfl | rfl | rfl | rfl | rfl <;> rfl) (by unfold maxLen; omega) (by omega) ?_
    intro A8 c8 w8 hr8 hf8 hm8
    have hWx := HF2.out.trans hHeld (fun _ _ h => h)
    have hD8 : Dr _ gd g gm A n c ps G := HD.out.fr0 hWx
    have HR8 : Hid (Row w8 75 7 (.slice A8 (n + 1) c8) (n + 1) (vlc (ps ++ [p]))) := Lib.hid (by rw [show vlc (ps ++ [p]) = vlc ps ++ p.cells by simp [vlc], HPC.out]; exact hr8)
    have HB8 : Hid (Bk w8 gd 142 #[.pointer (some ⟨g, 0, none⟩), .slice A n c, .map (some gm)]) := Lib.hid (hD8.blk.fr hf8 (fun e => (HNB.out.2 _ e).2 rfl))
    have HE8 : Hid (∀ q ∈ ps ++ [p], RdV w8 G q) := Lib.hid (fun q hq => by
  rcases List.mem_append.1 hq with hq | hq
  · exact (hD8.each q hq).fr hf8 (fun k hk e => (HGG.out k hk).1 e)
  · simp at hq; subst hq
    exact HPR.out _ ((HRW.out.fr hWx (fun _ _ _ h => h)).fr hf8 (fun ad e h0 e2 => (HGG.out _ (HPB.out.2 ad e h0)).1 e2)))
    have HFX : Hid (Fr (fun k => k = gd ∨ (Value.slice A n c).ownBlock = some k) w w8) := Lib.hid (((HF.out.trans hWx (fun _ _ h => h)).mono (fun _ _ h => h.elim)).trans hf8 (fun _ _ e => .inr e))
    have HMV : Hid (Moved w (.slice A n c) (.slice A8 (n + 1) c8)) := Lib.hid (hm8.elim .inl (fun ⟨x, e, hx⟩ => .inr ⟨x, e, Nat.le_trans (HF.out.trans hWx (fun _ _ h => h)).size hx⟩))
    clear hr8 hf8 hm8 hWx hD8
    have x1 := HB8.out.cell 1
    have z1 := HB8.out.frozen 1
    simp only [List.getElem?_toArray, List.getElem?_cons_zero, List.getElem?_cons_succ] at x1
    obtain ⟨W9, hW9⟩ : ∃ W9, w8.setCell ⟨gd, 1, none⟩ (.slice A8 (n + 1) c8) = W9 := ⟨_, rfl⟩
    refine hK.out _ _ ?_
    clear hK K
    try change anyZ _ _ _ _ _ _ _ _ (Act.put _ (some 101) _) _
    try simp only [Act.put, List.setIfInBounds_toArray, List.set_cons_zero, List.set_cons_succ]
    refine anyZ_pure (i := 8) (v := ?_) (some 102) rfl rfl (by kernel_rfl) (by kernel_rfl) (by kernel_rfl) (by kernel_rfl) (fun _ _ _ h => h) (Or.inl ⟨by rfl, ?_⟩) (notYet (by kernel_rfl)) ?_
    rotate_left
    · intro w' _
      go_simp
      first | done | with_reducible rfl
    try simp only [Act.put, List.setIfInBounds_toArray, List.set_cons_zero, List.set_cons_succ]
    refine anyZ_pure (i := 9) (v := ?_) (some 103) rfl rfl (by kernel_rfl) (by kernel_rfl) (by kernel_rfl) (by kernel_rfl) (fun _ _ _ h => h) (Or.inl ⟨by rfl, ?_⟩) (notYet (by kernel_rfl)) ?_
    rotate_left
    · intro w' _
      go_simp
      first | done | with_reducible rfl
    try simp only [Act.put, List.setIfInBounds_toArray, List.set_cons_zero, List.set_cons_succ]
    refine anyZ_ready (rs := [10]) (by kernel_rfl) (by simp) ?_
    refine AllZ.last rfl (by kernel_rfl) (fun K hK => ?_) AllZ.nil
    go_simp
    refine hK.out _ _ ?_
    clear hK K
    try change anyZ _ _ _ _ _ _ _ _ (Act.put _ none _) _
    try simp only [Act.put, List.setIfInBounds_toArray, List.set_cons_zero, List.set_cons_succ]
    refine anyZ_done (by kernel_rfl) ?_ _
    try rw [hW9]
    have HS9 : Hid (Fr (fun x => x = gd) w8 W9) := Lib.hid (by rw [← hW9]; exact Fr.setCell (S := fun x => x = gd) (p := ⟨gd, 1, none⟩) (Fr.refl _ w8) (fun _ => rfl) _)
    have HB9 : Hid (Bk W9 gd 142 #[.pointer (some ⟨g, 0, none⟩), .slice A8 (n + 1) c8, .map (some gm)]) := Lib.hid (by rw [← hW9]; exact HB8.out.set 1 _)
    clear hW9 hHeld x1 z1
    go_wp2
    go_ret
    refine ⟨rfl, A8, c8, ⟨HB9.out, HR8.out.fr HS9.out (fun k hk e => by
      obtain ⟨cur, hbk⟩ := HR8.out.bk hk
      subst e
      exact Bk.ne hbk HB8.out (by decide) rfl), by simp [HLEN.out], fun q hq => (HE8.out q hq).fr HS9.out (fun k hk e => (HGG.out k hk).2 e)⟩, HMV.out, HFX.out.trans HS9.out (fun _ _ e => .inl e)⟩
  · have e3 : ((j : Int) == 3) = false := by simp; omega
    have e7 : ((j : Int) == 7) = false := by simp; omega
    have e4 : ((j : Int) == 4) = false := by simp; omega
    have e1 : ((j : Int) == 1) = false := by simp; omega
    have e2 : ((j : Int) == 2) = false := by simp; omega
    have g3 : (j == 3) = false := by simp; omega
    have g7 : (j == 7) = false := by simp; omega
    have g4 : (j == 4) = false := by simp; omega
    have g1' : (j == 1) = false := by simp; omega
    have g2' : (j == 2) = false := by simp; omega
    clear h4
    go_wp2_with fail
    refine wp_region_Z [7, 10] ((fun w' => Fr (fun _ => False) W2 w')) (by kernel_rfl) ((Fr.refl _ _).drew) (fun hHeld => ?_)
    refine anyZ_pure (i := 0) (v := ?_) (some 94) rfl rfl (by kernel_rfl) (by kernel_rfl) (by kernel_rfl) (by kernel_rfl) (fun _ _ _ h => h) (Or.inl ⟨by rfl, ?_⟩) (fun _ => hHeld) ?_
    rotate_left
    · intro w' _
      go_simp
      first | done | with_reducible rfl
    try simp only [Act.put, List.setIfInBounds_toArray, List.set_cons_zero, List.set_cons_succ]
    refine anyZ_pure (i := 1) (v := ?_) (some 95) rfl rfl (by kernel_rfl) (by kernel_rfl) (by kernel_rfl) (by kernel_rfl) (fun _ _ _ h => h) (Or.inl ⟨by rfl, ?_⟩) (fun _ => hHeld) ?_
    rotate_left
    · intro w' _
      go_simp
      first | done | with_reducible rfl
    try simp only [Act.put, List.setIfInBounds_toArray, List.set_cons_zero, List.set_cons_succ]
    refine anyZ_pure (i := 2) (v := ?_) (some 96) rfl rfl (by kernel_rfl) (by kernel_rfl) (by kernel_rfl) (by kernel_rfl) (fun _ _ _ h => h) (Or.inl ⟨by rfl, ?_⟩) (fun _ => hHeld) ?_
    rotate_left
    · intro w' _
      go_simp
      first | done | with_reducible rfl
    try simp only [Act.put, List.setIfInBounds_toArray, List.set_cons_zero, List.set_cons_succ]
    refine anyZ_pure (i := 3) (v := ?_) (some 97) rfl rfl (by kernel_rfl) (by kernel_rfl) (by kernel_rfl) (by kernel_rfl) (fun _ _ _ h => h) (Or.inl ⟨by rfl, ?_⟩) (fun _ => hHeld) ?_
    rotate_left
    · intro w' _
      go_simp
      first | done | with_reducible rfl
    try simp only [Act.put, List.setIfInBounds_toArray, List.set_cons_zero, List.set_cons_succ]
    refine anyZ_read (i := 4) (v := ?_) (some 98) [7, 8, 9, 10] rfl rfl (by kernel_rfl) (by kernel_rfl) (by kernel_rfl) (by kernel_rfl) (by kernel_rfl) (by kernel_rfl) (fun _ _ _ h => h) (Or.inl ⟨by rfl, ?_⟩) hHeld ?_
    rotate_left
    · intro w' hSw
      have q1 := ((HD.out.blk.fr HF2.out (fun h => h)).fr hSw (fun h => h)).cell 1; simp only [List.getElem?_toArray, List.getElem?_cons_zero, List.getElem?_cons_succ] at q1
      go_simp
      first | done | with_reducible rfl
    try simp only [Act.put, List.setIfInBounds_toArray, List.set_cons_zero, List.set_cons_succ]
    refine anyZ_read (i := 5) (v := ?_) (some 99) [6, 7, 8, 9, 10] rfl rfl (by kernel_rfl) (by kernel_rfl) (by kernel_rfl) (by kernel_rfl) (by kernel_rfl) (by kernel_rfl) (fun _ _ _ h => h) (Or.inl ⟨by rfl, ?_⟩) hHeld ?_
    rotate_left
    · intro w' hSw
      have qk := HK2.out.fr hSw (fun h => h); have k0 := qk.cell 0; have k1 := qk.cell 1; have k2 := qk.cell 2; have k3 := qk.cell 3; have k4 := qk.cell 4; have k5 := qk.cell 5; have k6 := qk.cell 6; simp only [List.getElem?_toArray, List.getElem?_cons_zero, List.getElem?_cons_succ] at k0 k1 k2 k3 k4 k5 k6
      go_simp
      first | done | with_reducible rfl
    try simp only [Act.put, List.setIfInBounds_toArray, List.set_cons_zero, List.set_cons_succ]
    refine anyZ_ready (rs := [6]) (by kernel_rfl) (by simp) ?_
    refine AllZ.step rfl (fun K hK => ?_) AllZ.nil
    go_simp
    refine hK.out _ _ (hHeld.alloc _) (fun hHeld => ?_)
    clear hK K
    try change anyZ _ _ _ _ _ _ _ _ (Act.put _ (some 100) _) _
    try simp only [Act.put, List.setIfInBounds_toArray, List.set_cons_zero, List.set_cons_succ]
    refine anyZ_ready (rs := [7]) (by kernel_rfl) (by simp) ?_
    refine AllZ.last rfl (by kernel_rfl) (fun K hK => ?_) AllZ.nil
    refine stepOf_appendW teVF rfl (.tmp 98) (.tmp 100) rfl (.slice A n c) n (vlc ps) rfl (HD.out.row.fr0 (HF2.out.trans hHeld (fun _ _ h => h))) _ 1 [.int .i64 ck, .int .i64 0, .int .i64 0, .int .i64 i, .int .i64 l, .int .i64 m, .slice dA dl dc] rfl (sl1D rfl (Bk.new W2 75 #[.int .i64 ck, .int .i64 0, .int .i64 0, .int .i64 i, .int .i64 l, .int .i64 m, .slice dA dl dc]).drew) (fun u hu => by simp at hu; rcases hu with rfl | rfl | rfl | rfl | rfl | rfl | rfl <;> rfl) (by unfold maxLen; omega) (by omega) ?_
    intro A8 c8 w8 hr8 hf8 hm8
    have hWx := HF2.out.trans hHeld (fun _ _ h => h)
    have hD8 : Dr _ gd g gm A n c ps G := HD.out.fr0 hWx
    have HR8 : Hid (Row w8 75 7 (.slice A8 (n + 1) c8) (n + 1) (vlc (ps ++ [p]))) := Lib.hid (by rw [show vlc (ps ++ [p]) = vlc ps ++ p.cells by simp [vlc], HPC.out]; exact hr8)
    have HB8 : Hid (Bk w8 gd 142 #[.pointer (some ⟨g, 0, none⟩), .slice A n c, .map (some gm)]) := Lib.hid (hD8.blk.fr hf8 (fun e => (HNB.out.2 _ e).2 rfl))
    have HE8 : Hid (∀ q ∈ ps ++ [p], RdV w8 G q) := Lib.hid (fun q hq => by
  rcases List.mem_append.1 hq with hq | hq
  · exact (hD8.each q hq).fr hf8 (fun k hk e => (HGG.out k hk).1 e)
  · simp at hq; subst hq
    exact HPR.out _ ((HRW.out.fr hWx (fun _ _ _ h => h)).fr hf8 (fun ad e h0 e2 => (HGG.out _ (HPB.out.2 ad e h0)).1 e2)))
    have HFX : Hid (Fr (fun k => k = gd ∨ (Value.slice A n c).ownBlock = some k) w w8) := Lib.hid (((HF.out.trans hWx (fun _ _ h => h)).mono (fun _ _ h => h.elim)).trans hf8 (fun _ _ e => .inr e))
    have HMV : Hid (Moved w (.slice A n c) (.slice A8 (n + 1) c8)) := Lib.hid (hm8.elim .inl (fun ⟨x, e, hx⟩ => .inr ⟨x, e, Nat.le_trans (HF.out.trans hWx (fun _ _ h => h)).size hx⟩))
    clear hr8 hf8 hm8 hWx hD8
    have x1 := HB8.out.cell 1
    have z1 := HB8.out.frozen 1
    simp only [List.getElem?_toArray, List.getElem?_cons_zero, List.getElem?_cons_succ] at x1
    obtain ⟨W9, hW9⟩ : ∃ W9, w8.setCell ⟨gd, 1, none⟩ (.slice A8 (n + 1) c8) = W9 := ⟨_, rfl⟩
    refine hK.out _ _ ?_
    clear hK K
    try change anyZ _ _ _ _ _ _ _ _ (Act.put _ (some 101) _) _
    try simp only [Act.put, List.setIfInBounds_toArray, List.set_cons_zero, List.set_cons_succ]
    refine anyZ_pure (i := 8) (v := ?_) (some 102) rfl rfl (by kernel_rfl) (by kernel_rfl) (by kernel_rfl) (by kernel_rfl) (fun _ _ _ h => h) (Or.inl ⟨by rfl, ?_⟩) (notYet (by kernel_rfl)) ?_
    rotate_left
    · intro w' _
      go_simp
      first | done | with_reducible rfl
    try simp only [Act.put, List.setIfInBounds_toArray, List.set_cons_zero, List.set_cons_succ]
    refine anyZ_pure (i := 9) (v := ?_) (some 103) rfl rfl (by kernel_rfl) (by kernel_rfl) (by kernel_rfl) (by kernel_rfl) (fun _ _ _ h => h) (Or.inl ⟨by rfl, ?_⟩) (notYet (by kernel_rfl)) ?_
    rotate_left
    · intro w' _
      go_simp
      first | done | with_reducible rfl
    try simp only [Act.put, List.setIfInBounds_toArray, List.set_cons_zero, List.set_cons_succ]
    refine anyZ_ready (rs := [10]) (by kernel_rfl) (by simp) ?_
    refine AllZ.last rfl (by kernel_rfl) (fun K hK => ?_) AllZ.nil
    go_simp
    refine hK.out _ _ ?_
    clear hK K
    try change anyZ _ _ _ _ _ _ _ _ (Act.put _ none _) _
    try simp only [Act.put, List.setIfInBounds_toArray, List.set_cons_zero, List.set_cons_succ]
    refine anyZ_done (by kernel_rfl) ?_ _
    try rw [hW9]
    have HS9 : Hid (Fr (fun x => x = gd) w8 W9) := Lib.hid (by rw [← hW9]; exact Fr.setCell (S := fun x => x = gd) (p := ⟨gd, 1, none⟩) (Fr.refl _ w8) (fun _ => rfl) _)
    have HB9 : Hid (Bk W9 gd 142 #[.pointer (some ⟨g, 0, none⟩), .slice A8 (n + 1) c8, .map (some gm)]) := Lib.hid (by rw [← hW9]; exact HB8.out.set 1 _)
    clear hW9 hHeld x1 z1
    go_wp2
    go_ret
    refine ⟨rfl, A8, c8, ⟨HB9.out, HR8.out.fr HS9.out (fun k hk e => by
      obtain ⟨cur, hbk⟩ := HR8.out.bk hk
      subst e
      exact Bk.ne hbk HB8.out (by decide) rfl), by simp [HLEN.out], fun q hq => (HE8.out q hq).fr HS9.out (fun k hk e => (HGG.out k hk).2 e)⟩, HMV.out, HFX.out.trans HS9.out (fun _ _ e => .inl e)⟩
  · have e3 : ((j : Int) == 3) = false := by simp; omega
    have e7 : ((j : Int) == 7) = true := by simp; omega
    have e4 : ((j : Int) == 4) = false := by simp; omega
    have e1 : ((j : Int) == 1) = false := by simp; omega
    have e2 : ((j : Int) == 2) = false := by simp; omega
    have g3 : (j == 3) = false := by simp; omega
    have g7 : (j == 7) = true := by simp; omega
    have g4 : (j == 4) = false := by simp; omega
    have g1' : (j == 1) = false := by simp; omega
    have g2' : (j == 2) = false := by simp; omega
    have qa : W2.cell? ⟨g, 8, none⟩ = some (.bool true) := (HF2.out.cell (World.block_lt_of_cell? W _ (HK8.out (by omega))) (fun h => h)).trans (HK8.out (by omega))
    have qd : W2.cell? ⟨gd, 0, none⟩ = some (.pointer (some ⟨g, 0, none⟩)) := (HD.out.blk.fr HF2.out (fun h => h)).cell 0
    clear h4
    go_wp2_with fail
    clear qa qd
    refine wp_region_Z [7, 10] ((fun w' => Fr (fun _ => False) W2 w')) (by kernel_rfl) ((Fr.refl _ _).drew) (fun hHeld => ?_)
    refine anyZ_pure (i := 0) (v := ?_) (some 94) rfl rfl (by kernel_rfl) (by kernel_rfl) (by kernel_rfl) (by kernel_rfl) (fun _ _ _ h => h) (Or.inl ⟨by rfl, ?_⟩) (fun _ => hHeld) ?_
    rotate_left
    · intro w' _
      go_simp
      first | done | with_reducible rfl
    try simp only [Act.put, List.setIfInBounds_toArray, List.set_cons_zero, List.set_cons_succ]
    refine anyZ_pure (i := 1) (v := ?_) (some 95) rfl rfl (by kernel_rfl) (by kernel_rfl) (by kernel_rfl) (by kernel_rfl) (fun _ _ _ h => h) (Or.inl ⟨by rfl, ?_⟩) (fun _ => hHeld) ?_
    rotate_left
    · intro w' _
      go_simp
      first | done | with_reducible rfl
    try simp only [Act.put, List.setIfInBounds_toArray, List.set_cons_zero, List.set_cons_succ]
    refine anyZ_pure (i := 2) (v := ?_) (some 96) rfl rfl (by kernel_rfl) (by kernel_rfl) (by kernel_rfl) (by kernel_rfl) (fun _ _ _ h => h) (Or.inl ⟨by rfl, ?_⟩) (fun _ => hHeld) ?_
    rotate_left
    · intro w' _
      go_simp
      first | done | with_reducible rfl
    try simp only [Act.put, List.setIfInBounds_toArray, List.set_cons_zero, List.set_cons_succ]
    refine anyZ_pure (i := 3) (v := ?_) (some 97) rfl rfl (by kernel_rfl) (by kernel_rfl) (by kernel_rfl) (by kernel_rfl) (fun _ _ _ h => h) (Or.inl ⟨by rfl, ?_⟩) (fun _ => hHeld) ?_
    rotate_left
    · intro w' _
      go_simp
      first | done | with_reducible rfl
    try simp only [Act.put, List.setIfInBounds_toArray, List.set_cons_zero, List.set_cons_succ]
    refine anyZ_read (i := 4) (v := ?_) (some 98) [7, 8, 9, 10] rfl rfl (by kernel_rfl) (by kernel_rfl) (by kernel_rfl) (by kernel_rfl) (by kernel_rfl) (by kernel_rfl) (fun _ _ _ h => h) (Or.inl ⟨by rfl, ?_⟩) hHeld ?_
    rotate_left
    · intro w' hSw
      have q1 := ((HD.out.blk.fr HF2.out (fun h => h)).fr hSw (fun h => h)).cell 1; simp only [List.getElem?_toArray, List.getElem?_cons_zero, List.getElem?_cons_succ] at q1
      go_simp
      first | done | with_reducible rfl
    try simp only [Act.put, List.setIfInBounds_toArray, List.set_cons_zero, List.set_cons_succ]
    refine anyZ_read (i := 5) (v := ?_) (some 99) [6, 7, 8, 9, 10] rfl rfl (by kernel_rfl) (by kernel_rfl) (by kernel_rfl) (by kernel_rfl) (by kernel_rfl) (by kernel_rfl) (fun _ _ _ h => h) (Or.inl ⟨by rfl, ?_⟩) hHeld ?_
    rotate_left
    · intro w' hSw
      have qk := HK2.out.fr hSw (fun h => h); have k0 := qk.cell 0; have k1 := qk.cell 1; have k2 := qk.cell 2; have k3 := qk.cell 3; have k4 := qk.cell 4; have k5 := qk.cell 5; have k6 := qk.cell 6; simp only [List.getElem?_toArray, List.getElem?_cons_zero, List.getElem?_cons_succ] at k0 k1 k2 k3 k4 k5 k6
      go_simp
      first | done | with_reducible rfl
    try simp only [Act.put, List.setIfInBounds_toArray, List.set_cons_zero, List.set_cons_succ]
    refine anyZ_ready (rs := [6]) (by kernel_rfl) (by simp) ?_
    refine AllZ.step rfl (fun K hK => ?_) AllZ.nil
    go_simp
    refine hK.out _ _ (hHeld.alloc _) (fun hHeld => ?_)
    clear hK K
    try change anyZ _ _ _ _ _ _ _ _ (Act.put _ (some 100) _) _
    try simp only [Act.put, List.setIfInBounds_toArray, List.set_cons_zero, List.set_cons_succ]
    refine anyZ_ready (rs := [7]) (by kernel_rfl) (by simp) ?_
    refine AllZ.last rfl (by kernel_rfl) (fun K hK => ?_) AllZ.nil
    refine stepOf_appendW teVF rfl (.tmp 98) (.tmp 100) rfl (.slice A n c) n (vlc ps) rfl (HD.out.row.fr0 (HF2.out.trans hHeld (fun _ _ h => h))) _ 1 [.int .i64 ck, .int .i64 0, .int .i64 0, .int .i64 i, .int .i64 l, .int .i64 m, .slice dA dl dc] rfl (sl1D rfl (Bk.new W2 75 #[.int .i64 ck, .int .i64 0, .int .i64 0, .int .i64 i, .int .i64 l, .int .i64 m, .slice dA dl dc]).drew) (fun u hu => by simp at hu; rcases hu with rfl | rfl | rfl | rfl | rfl | rfl | rfl <;> rfl) (by unfold maxLen; omega) (by omega) ?_
    intro A8 c8 w8 hr8 hf8 hm8
    have hWx := HF2.out.trans hHeld (fun _ _ h => h)
    have hD8 : Dr _ gd g gm A n c ps G := HD.out.fr0 hWx
    have HR8 : Hid (Row w8 75 7 (.slice A8 (n + 1) c8) (n + 1) (vlc (ps ++ [p]))) := Lib.hid (by rw [show vlc (ps ++ [p]) = vlc ps ++ p.cells by simp [vlc], HPC.out]; exact hr8)
    have HB8 : Hid (Bk w8 gd 142 #[.pointer (some ⟨g, 0, none⟩), .slice A n c, .map (some gm)]) := Lib.hid (hD8.blk.fr hf8 (fun e => (HNB.out.2 _ e).2 rfl))
    have HE8 : Hid (∀ q ∈ ps ++ [p], RdV w8 G q) := Lib.hid (fun q hq => by
  rcases List.mem_append.1 hq with hq | hq
  · exact (hD8.each q hq).fr hf8 (fun k hk e => (HGG.out k hk).1 e)
  · simp at hq; subst hq
    exact HPR.out _ ((HRW.out.fr hWx (fun _ _ _ h => h)).fr hf8 (fun ad e h0 e2 => (HGG.out _ (HPB.out.2 ad e h0)).1 e2)))
    have HFX : Hid (Fr (fun k => k = gd ∨ (Value.slice A n c).ownBlock = some k) w w8) := Lib.hid (((HF.out.trans hWx (fun _ _ h => h)).mono (fun _ _ h => h.elim)).trans hf8 (fun _ _ e => .inr e))
    have HMV : Hid (Moved w (.slice A n c) (.slice A8 (n + 1) c8)) := Lib.hid (hm8.elim .inl (fun ⟨x, e, hx⟩ => .inr ⟨x, e, Nat.le_trans (HF.out.trans hWx (fun _ _ h => h)).size hx⟩))
    clear hr8 hf8 hm8 hWx hD8
    have x1 := HB8.out.cell 1
    have z1 := HB8.out.frozen 1
    simp only [List.getElem?_toArray, List.getElem?_cons_zero, List.getElem?_cons_succ] at x1
    obtain ⟨W9, hW9⟩ : ∃ W9, w8.setCell ⟨gd, 1, none⟩ (.slice A8 (n + 1) c8) = W9 := ⟨_, rfl⟩
    refine hK.out _ _ ?_
    clear hK K
    try change anyZ _ _ _ _ _ _ _ _ (Act.put _ (some 101) _) _
    try simp only [Act.put, List.setIfInBounds_toArray, List.set_cons_zero, List.set_cons_succ]
    refine anyZ_pure (i := 8) (v := ?_) (some 102) rfl rfl (by kernel_rfl) (by kernel_rfl) (by kernel_rfl) (by kernel_rfl) (fun _ _ _ h => h) (Or.inl ⟨by rfl, ?_⟩) (notYet (by kernel_rfl)) ?_
    rotate_left
    · intro w' _
      go_simp
      first | done | with_reducible rfl
    try simp only [Act.put, List.setIfInBounds_toArray, List.set_cons_zero, List.set_cons_succ]
    refine anyZ_pure (i := 9) (v := ?_) (some 103) rfl rfl (by kernel_rfl) (by kernel_rfl) (by kernel_rfl) (by kernel_rfl) (fun _ _ _ h => h) (Or.inl ⟨by rfl, ?_⟩) (notYet (by kernel_rfl)) ?_
    rotate_left
    · intro w' _
      go_simp
      first | done | with_reducible rfl
    try simp only [Act.put, List.setIfInBounds_toArray, List.set_cons_zero, List.set_cons_succ]
    refine anyZ_ready (rs := [10]) (by kernel_rfl) (by simp) ?_
    refine AllZ.last rfl (by kernel_rfl) (fun K hK => ?_) AllZ.nil
    go_simp
    refine hK.out _ _ ?_
    clear hK K
    try change anyZ _ _ _ _ _ _ _ _ (Act.put _ none _) _
    try simp only [Act.put, List.setIfInBounds_toArray, List.set_cons_zero, List.set_cons_succ]
    refine anyZ_done (by kernel_rfl) ?_ _
    try rw [hW9]
    have HS9 : Hid (Fr (fun x => x = gd) w8 W9) := Lib.hid (by rw [← hW9]; exact Fr.setCell (S := fun x => x = gd) (p := ⟨gd, 1, none⟩) (Fr.refl _ w8) (fun _ => rfl) _)
    have HB9 : Hid (Bk W9 gd 142 #[.pointer (some ⟨g, 0, none⟩), .slice A8 (n + 1) c8, .map (some gm)]) := Lib.hid (by rw [← hW9]; exact HB8.out.set 1 _)
    clear hW9 hHeld x1 z1
    go_wp2
    go_ret
    refine ⟨rfl, A8, c8, ⟨HB9.out, HR8.out.fr HS9.out (fun k hk e => by
      obtain ⟨cur, hbk⟩ := HR8.out.bk hk
      subst e
      exact Bk.ne hbk HB8.out (by decide) rfl), by simp [HLEN.out], fun q hq => (HE8.out q hq).fr HS9.out (fun k hk e => (HGG.out k hk).2 e)⟩, HMV.out, HFX.out.trans HS9.out (fun _ _ e => .inl e)⟩
end Go.Proofs.YtkinbcmnfpkncaaDoor
