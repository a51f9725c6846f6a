/- match: the reference's Names. -/
import Derived.Test.YtkinbcmnfpkncaaRt
namespace Go.Proofs.Ytkinbcmnfpkncaa
open Go.RowKit Go.Maps

def posF : List Int → Int → Nat
  | [], _ => 0
  | a :: r, x => if a < x then posF r x + 1 else 0
def insF (out : List Int) (x : Int) : List Int := out.take (posF out x) ++ x :: out.drop (posF out x)
theorem posF_le : ∀ (out : List Int) (x : Int), posF out x ≤ out.length
  | [], _ => Nat.le_refl _
  | a :: r, x => by unfold posF; have := posF_le r x; split <;> simp <;> omega
theorem posF_step : ∀ (out : List Int) (x : Int) (n : Nat), n ≤ posF out x → ∀ (h : n < out.length), (out[n] < x ↔ n < posF out x)
  | [], _, _, _, h => by simp at h
  | a :: r, x, 0, _, _ => by unfold posF; simp only [List.getElem_cons_zero]; split <;> simp_all
  | a :: r, x, n + 1, hn, h => by
    unfold posF at hn ⊢
    split at hn
    · rename_i h1
      rw [if_pos h1]
      have := posF_step r x n (by omega) (by simpa using h)
      simp only [List.getElem_cons_succ]
      rw [this]; omega
    · omega
theorem mem_insF (out : List Int) (x y : Int) : y ∈ insF out x ↔ y = x ∨ y ∈ out := by
  unfold insF
  rw [List.mem_append, List.mem_cons]
  constructor
  · rintro (h | h | h)
    · exact .inr (List.mem_of_mem_take h)
    · exact .inl h
    · exact .inr (List.mem_of_mem_drop h)
  · rintro (h | h)
    · exact .inr (.inl h)
    · rw [← List.take_append_drop (posF out x) out, List.mem_append] at h
      exact h.imp id .inr
theorem front_lt : ∀ {out : List Int} {x : Int}, ∀ y ∈ out.take (posF out x), y < x
  | [], x, y, h => by simp at h
  | a :: r, x, y, h => by
    unfold posF at h
    split at h
    · rw [List.take_succ_cons] at h
      rcases List.mem_cons.1 h with rfl | h
      · assumption
      · exact front_lt y h
    · simp at h
theorem back_ge : ∀ {out : List Int} {x : Int}, out.Pairwise (· < ·) → ∀ y ∈ out.drop (posF out x), x ≤ y
  | [], x, _, y, h => by simp at h
  | a :: r, x, hp, y, h => by
    obtain ⟨h1, h2⟩ := List.pairwise_cons.1 hp
    unfold posF at h
    split at h
    · rw [List.drop_succ_cons] at h
      exact back_ge h2 y h
    · rename_i hn
      simp only [List.drop_zero] at h
      rcases List.mem_cons.1 h with rfl | h
      · omega
      · have := h1 y h; omega
theorem insF_rise {out : List Int} {x : Int} (h : out.Pairwise (· < ·)) (hx : x ∉ out) : (insF out x).Pairwise (· < ·) := by
  unfold insF
  rw [List.pairwise_append]
  refine ⟨h.sublist (List.take_sublist _ _), List.pairwise_cons.2 ⟨fun y hy => ?_, h.sublist (List.drop_sublist _ _)⟩, fun y hy z hz => ?_⟩
  · have h1 := back_ge h y hy
    have : y ≠ x := fun e => hx (e ▸ List.mem_of_mem_drop hy)
    omega
  · have h1 := front_lt y hy
    rcases List.mem_cons.1 hz with rfl | hz
    · exact h1
    · have h2 := back_ge h z hz
      omega
theorem teI : TE Try.prog 43 3 1 8 (.int .i64 0) := ⟨Try.underlying43, by kernel_rfl, rfl, by omega⟩
/-- A row of ints that is new since w. -/
structure NewI (w w' : World) (v : Value) (n : Nat) (cs : List Value) : Prop where
  row : Row w' 3 1 v n cs
  fr : Fr (fun _ => False) w w'
  new : ∀ k, v.ownBlock = some k → w.heap.size ≤ k
theorem NewI.fr0 {w w' w2 : World} {v : Value} {n : Nat} {cs : List Value} (h : NewI w w' v n cs) (hf : Fr (fun _ => False) w' w2) : NewI w w2 v n cs := ⟨h.row.fr0 hf, h.fr.trans hf (fun _ _ h => h), h.new⟩
theorem NewI.old {w0 w w' : World} {v : Value} {n : Nat} {cs : List Value} (h : NewI w w' v n cs) (hf : Fr (fun _ => False) w0 w) : NewI w0 w' v n cs := ⟨h.row, hf.trans h.fr (fun _ _ h => h), fun k hk => Nat.le_trans hf.size (h.new k hk)⟩
theorem NewI.step {w w1 w2 : World} {v v2 : Value} {n m : Nat} {cs ds : List Value} (h : NewI w w1 v n cs) (hr : Row w2 3 1 v2 m ds) (hf : Fr (fun g => v.ownBlock = some g) w1 w2) (hm : Moved w1 v v2) : NewI w w2 v2 m ds := by
  refine ⟨hr, h.fr.trans hf (fun x hx e => by have := h.new x e; omega), fun k hk => ?_⟩
  rcases hm with e | ⟨x, e, hx⟩
  · exact h.new k (e ▸ hk)
  · rw [e] at hk; injection hk with hk; have := h.fr.size; omega
abbrev O0I : Obj := .cells #[] 3
theorem rowI0 (w : World) : Row (w.alloc O0I) 3 1 (.slice (some ⟨w.heap.size, 0, none⟩) 0 0) 0 [] :=
  ⟨by simp, .inr ⟨w.heap.size, 0, 0, #[], rfl, Bk.new _ _ _, Nat.le_refl _, by unfold maxLen; omega, by simp, fun j hj => by simp at hj⟩⟩
theorem newIA (w : World) : NewI w (w.alloc O0I).drew (.slice (some ⟨w.heap.size, 0, none⟩) 0 0) 0 [] :=
  ⟨(rowI0 w).fr0 ((Fr.refl _ _).drew), ((Fr.refl _ _).alloc _).drew, fun k hk => by have : w.heap.size = k := (by injection hk); omega⟩
theorem newIB (w : World) (o : Obj) : NewI w ((w.alloc O0I).alloc o).drew (.slice (some ⟨w.heap.size, 0, none⟩) 0 0) 0 [] :=
  ⟨(rowI0 w).fr0 (((Fr.refl _ _).alloc _).drew), (((Fr.refl _ _).alloc _).alloc _).drew, fun k hk => by have : w.heap.size = k := (by injection hk); omega⟩
theorem newIC (w : World) (o : Obj) : NewI w ((w.alloc o).alloc O0I).drew (.slice (some ⟨w.heap.size + 1, 0, none⟩) 0 0) 0 [] := by
  have h := rowI0 (w.alloc o)
  rw [show (w.alloc o).heap.size = w.heap.size + 1 by simp] at h
  exact ⟨h.fr0 ((Fr.refl _ _).drew), (((Fr.refl _ _).alloc _).alloc _).drew, fun k hk => by have : w.heap.size + 1 = k := (by injection hk); omega⟩
theorem sl1i {w' : World} {g : Nat} {x : Int} (h : Bk w' g 3 #[.int .i64 x]) : Sl w' 1 (.slice (some ⟨g, 0, none⟩) 1 1) 1 [.int .i64 x] :=
  Sl.at rfl rfl (fun j u hu => by rw [Nat.zero_add, h.cell]; simpa using hu)
theorem Sl.take1 {w : World} {A : Option Addr} {n c c' k : Nat} {cs : List Value} (h : Sl w 1 (.slice A n c) n cs) (hk : k ≤ n) : Sl w 1 (.slice A k c') k (cs.take k) := by
  obtain ⟨hl, A', c2, e, hA⟩ := h
  injection e with e1 _ _
  subst e1
  refine ⟨by rw [List.length_take, hl]; omega, A, c', rfl, fun h0 => ?_⟩
  obtain ⟨b, off, e, hc⟩ := hA (by omega)
  exact ⟨b, off, e, fun j u hu => by
    rw [List.getElem?_take] at hu
    split at hu
    · exact hc j u hu
    · cases hu⟩
theorem Sl.drop1 {w : World} {b off n c c' k : Nat} {cs : List Value} (h : Sl w 1 (.slice (some ⟨b, off, Option.none⟩) n c) n cs) (hk : k ≤ n) : Sl w 1 (.slice (some ⟨b, off + k, Option.none⟩) (n - k) c') (n - k) (cs.drop k) := by
  obtain ⟨hl, A', c2, e, hA⟩ := h
  injection e with e1 _ _
  subst e1
  refine ⟨by rw [List.length_drop, hl]; omega, _, c', rfl, fun h0 => ?_⟩
  obtain ⟨b', off', e, hc⟩ := hA (by omega)
  injection e with e
  injection e with e1 e2
  subst e1 e2
  exact ⟨_, _, rfl, fun j u hu => by
    rw [List.getElem?_drop] at hu
    rw [Nat.add_assoc]
    exact hc _ _ hu⟩
/-- A row of ints cut at k: both parts. -/
theorem run_cutI {w : World} {A : Option Addr} {n c k : Nat} {cs : List Value} (h : Row w 3 1 (.slice A n c) n cs) (hk : k ≤ n) :
    ∃ A1 c1 A2 c2, (∀ w, (Instr.sliceAt 43 (.slice A n c) none (some (.int .i64 (k : Int))) none).run Try.prog w = .ok (.slice A1 k c1) w) ∧ (∀ w, (Instr.sliceAt 43 (.slice A n c) (some (.int .i64 (k : Int))) none none).run Try.prog w = .ok (.slice A2 (n - k) c2) w) ∧
      ∀ w', Row w' 3 1 (.slice A n c) n cs → Sl w' 1 (.slice A1 k c1) k (cs.take k) ∧ Sl w' 1 (.slice A2 (n - k) c2) (n - k) (cs.drop k) := by
  rcases h.2 with ⟨e, h0⟩ | ⟨b, off, cap, cur, e, -, hnc, hcm, -⟩
  · injection e with e1 e2 e3
    subst e1 e3 h0
    obtain rfl : k = 0 := by omega
    have hcs : cs = [] := List.eq_nil_of_length_eq_zero (by simpa using h.1)
    subst hcs
    exact ⟨none, 0, none, 0, fun w => by simp [go_sem, Instr.sliceAt], fun w => by simp [go_sem, Instr.sliceAt], fun w' _ => ⟨by simpa using Sl.none, by simpa using Sl.none⟩⟩
  · injection e with e1 e2 e3
    subst e1 e3
    have h1 : (k : Int) ≤ (n : Int) := by omega
    have h2 : (k : Int) ≤ (c : Int) := by omega
    by_cases hc0 : c = 0
    · subst hc0
      obtain rfl : n = 0 := by omega
      obtain rfl : k = 0 := by omega
      have hcs : cs = [] := List.eq_nil_of_length_eq_zero (by simpa using h.1)
      subst hcs
      exact ⟨some ⟨b, off, none⟩, 0, some ⟨b, off, none⟩, 0, fun w => by simp [go_sem, Instr.sliceAt], fun w => by simp [go_sem, Instr.sliceAt], fun w' _ => ⟨by simpa using Sl.none, by simpa using Sl.none⟩⟩
    · by_cases hck : c = k
      · subst hck
        obtain rfl : n = c := by omega
        refine ⟨some ⟨b, off, none⟩, n, some ⟨b, off, none⟩, 0, fun w => by simp [go_sem, Instr.sliceAt, hc0], fun w => by simp [go_sem, Instr.sliceAt], fun w' hr => ⟨hr.sl.take1 (Nat.le_refl _), ?_⟩⟩
        rw [List.drop_of_length_le (by rw [h.1]; omega), Nat.sub_self]
        exact Sl.none
      · refine ⟨some ⟨b, off, none⟩, c, some ⟨b, off + k, none⟩, c - k, fun w => by simp [go_sem, Instr.sliceAt, hc0, h2], fun w => by simp [go_sem, Instr.sliceAt, hck, h1], fun w' hr => ⟨hr.sl.take1 hk, hr.sl.drop1 hk⟩⟩
theorem insF_map (zs : List Int) (x : Int) : (insF zs x).map IV = ((zs.take (posF zs x)).map IV ++ [.int .i64 x]) ++ (zs.drop (posF zs x)).map IV := by
  unfold insF; simp [IV]
theorem insF_len (zs : List Int) (x : Int) : (insF zs x).length = zs.length + 1 := by
  have := posF_le zs x
  unfold insF; simp; omega

/-- The names among the first k tasks, rising. -/
def nmL (L : List (Int × Int)) : Nat → List Int
  | 0 => []
  | k + 1 => if (L.getD k (0, 0)).1 ∈ nmL L k then nmL L k else insF (nmL L k) (L.getD k (0, 0)).1
theorem nmL_rise (L : List (Int × Int)) : ∀ k, (nmL L k).Pairwise (· < ·)
  | 0 => List.Pairwise.nil
  | k + 1 => by
    unfold nmL
    split
    · exact nmL_rise L k
    · exact insF_rise (nmL_rise L k) (by assumption)
theorem nmL_len (L : List (Int × Int)) : ∀ k, (nmL L k).length ≤ k
  | 0 => Nat.le_refl _
  | k + 1 => by
    have := nmL_len L k
    unfold nmL
    split
    · omega
    · rw [insF_len]; omega
theorem nmL_mem (L : List (Int × Int)) : ∀ k, k ≤ L.length → ∀ c, c ∈ nmL L k ↔ ∃ p ∈ L.take k, p.1 = c
  | 0, _, c => by simp [nmL]
  | k + 1, h, c => by
    have ih := nmL_mem L k (by omega) c
    have e : L.take (k + 1) = L.take k ++ [L.getD k (0, 0)] := by
      rw [List.take_add_one, List.getElem?_eq_getElem (by omega)]
      simp [List.getD, show k < L.length by omega]
    rw [e]
    have e2 : (∃ p ∈ L.take k ++ [L.getD k (0, 0)], p.1 = c) ↔ (∃ p ∈ L.take k, p.1 = c) ∨ (L.getD k (0, 0)).1 = c := by
      constructor
      · rintro ⟨p, hp, h⟩
        rcases List.mem_append.1 hp with hp | hp
        · exact .inl ⟨p, hp, h⟩
        · rw [List.mem_singleton] at hp; exact .inr (hp ▸ h)
      · rintro (⟨p, hp, h⟩ | h)
        · exact ⟨p, List.mem_append_left _ hp, h⟩
        · exact ⟨_, List.mem_append_right _ (List.mem_singleton.2 rfl), h⟩
    have e3 : nmL L (k + 1) = if (L.getD k (0, 0)).1 ∈ nmL L k then nmL L k else insF (nmL L k) (L.getD k (0, 0)).1 := rfl
    rw [e2, ← ih, e3]
    split
    · rename_i hm
      constructor
      · exact .inl
      · rintro (h | h)
        · exact h
        · rw [← h]; exact hm
    · rw [mem_insF]
      constructor
      · rintro (h | h)
        · exact .inr h.symm
        · exact .inl h
      · rintro (h | h)
        · exact .inr h
        · exact .inl h.symm
/-- At the place where a number would stand: it stands there, or nowhere. -/
theorem posF_at {zs : List Int} {x : Int} (hr : zs.Pairwise (· < ·)) {j : Nat} (hj : posF zs x = j) : x ∈ zs ↔ ∃ h : j < zs.length, zs[j] = x := by
  subst hj
  constructor
  · intro hx
    have h1 := hx
    rw [← List.take_append_drop (posF zs x) zs, List.mem_append] at h1
    rcases h1 with h1 | h1
    · have := front_lt x h1; omega
    · have hl : posF zs x < zs.length := by
        rcases Nat.lt_or_ge (posF zs x) zs.length with h | h
        · exact h
        · rw [List.drop_of_length_le h] at h1; cases h1
      refine ⟨hl, ?_⟩
      have hd := List.drop_eq_getElem_cons hl
      rw [hd] at h1
      rcases List.mem_cons.1 h1 with e | h1
      · exact e.symm
      · have hp : (zs[posF zs x] :: zs.drop (posF zs x + 1)).Pairwise (· < ·) := by rw [← hd]; exact hr.sublist (List.drop_sublist _ _)
        have h2 := (List.pairwise_cons.1 hp).1 x h1
        have h3 := back_ge hr zs[posF zs x] (by rw [hd]; exact List.mem_cons_self ..)
        omega
  · rintro ⟨h, e⟩
    rw [← e]; exact List.getElem_mem _

set_option maxRecDepth 100000 in
set_option maxHeartbeats 16000000 in
theorem rnames_any {w : World} {g : Nat} {F : Nat → Prop} {most : Int} {L : List (Int × Int)} {v : Value} (h : RfM w g F most L v) :
    Calls Try.prog 36 #[.pointer (some ⟨g, 0, none⟩)] w fun e w' => ∃ A9 c9 m, e = .returned (.slice A9 m c9) ∧ (nmL L L.length).length = m ∧ NewI w w' (.slice A9 m c9) m ((nmL L L.length).map IV) := by
  obtain ⟨A, cp, rfl, hnc, -, -⟩ := Row.form h.row
  obtain ⟨n, hn⟩ : ∃ n, L.length = n := ⟨_, rfl⟩
  rw [hn] at h hnc
  have H := Lib.hid h
  have HN := Lib.hid hn
  have HLL : Hid (n ≤ 1000000) := Lib.hid (by rw [← hn]; exact h.ll)
  have hnI : (n : Int) ≤ 1000000 := by have := HLL.out; omega
  have q1 : w.cell? ⟨g, 1, none⟩ = some (.slice A n cp) := h.blk.cell 1
  rw [hn]
  clear h hn hnc
  go_enter Try.func36, Try.ntmps36
  go_wp2_with fail
  clear q1
  go_loopw [3, 4] (fun vo vi wr => ∃ (k m : Nat) (A1 : Option Addr) (c1 : Nat), vi = .int .i64 (k : Int) ∧ vo = .slice A1 m c1 ∧ k ≤ n ∧ Hid ((nmL L k).length = m ∧ NewI w wr (.slice A1 m c1) m ((nmL L k).map IV))) (fun _ vi _ => n - (intOf vi).toNat)
  case atStart => exact ⟨0, 0, none, 0, rfl, rfl, Nat.zero_le _, ⟨rfl, ⟨Row.nil _ _ _, Fr.refl _ _, fun k hk => by cases hk⟩⟩⟩
  case round =>
    obtain ⟨k, m, A1, c1, rfl, rfl, hk, HK⟩ := hrel
    have hk0 : (0 : Int) ≤ (k : Int) := by omega
    have HW1 : Hid (∀ w', Fr (fun _ => False) wr w' → w'.cell? ⟨g, 1, none⟩ = some (.slice A n cp)) := Lib.hid (fun w' hf => (H.out.fr0 (HK.out.2.fr.trans hf (fun _ _ h => h))).blk.cell 1)
    have q1 := HW1.out wr (Fr.refl _ _)
    by_cases hlt : k < n
    · have hlt' : (k : Int) < n := by omega
      have hkI : (k : Int) ≤ 1048576 := by omega
      have hmk : m ≤ 1000000 := by have := nmL_len L k; have := HK.out.1; have := HLL.out; omega
      have hkl : k < L.length := by rw [HN.out]; exact hlt
      obtain ⟨p, hp⟩ : ∃ p, L[k] = p := ⟨_, rfl⟩
      obtain ⟨b, off, rfl, hcell⟩ := H.out.task hkl hp
      have hgd : L.getD k (0, 0) = p := by rw [← hp]; simp [List.getD, hkl]
      obtain ⟨x, y0⟩ := p
      have HS : Hid (nmL L (k + 1) = if x ∈ nmL L k then nmL L k else insF (nmL L k) x) := Lib.hid (by rw [nmL, hgd])
      have HQ0 : Hid (∀ w', Fr (fun _ => False) wr w' → w'.cell? ⟨b, off + k * 2, none⟩ = some (.int .i64 x)) := Lib.hid (fun w' hf => (hcell w' ((HK.out.2.fr.trans hf (fun _ _ h => h)).mono (fun _ _ h => h.elim))).1)
      have w1 : IntKind.i64.wrap ((k : Int) + 1) = (k : Int) + 1 := IntWalk.i64_in _ (by omega)
      have HNR := Lib.hid HK.out.2
      have HRI : Hid ((nmL L k).Pairwise (· < ·)) := Lib.hid (nmL_rise L k)
      obtain ⟨zs, hzs⟩ : ∃ zs, nmL L k = zs := ⟨_, rfl⟩
      have HZL : Hid (zs.length = m) := Lib.hid (by rw [← hzs]; exact HK.out.1)
      rw [hzs] at HS HNR HRI
      clear hcell hzs HK hkl hp hgd
      obtain ⟨w3, rfl⟩ : ∃ w3, w3 = wr := ⟨_, rfl⟩
      go_wp2_with fail
      clear q1
      go_loopw [5] (fun v wr => ∃ (j : Nat), v = .int .i64 (j : Int) ∧ j ≤ posF zs x ∧ Hid (∃ q, wr = w3.drewN q)) (fun v _ => m + 1 - (intOf v).toNat)
      case atStart => exact ⟨0, rfl, Nat.zero_le _, ⟨0, rfl⟩⟩
      case round =>
        obtain ⟨j, rfl, hjp, HW⟩ := hrel
        have hj0 : (0 : Int) ≤ (j : Int) := by omega
        have hpm : posF zs x ≤ m := by have := posF_le zs x; have := HZL.out; omega
        have HX : Hid (∀ q, Fr (fun _ => False) w3 (wr.drewN q)) := Lib.hid (fun q => by obtain ⟨m, e⟩ := HW.out; subst e; exact ((Fr.refl _ _).drewN _).trans ((Fr.refl _ _).drewN _) (fun _ _ h => h))
        have qx : ∀ q, (wr.drewN q).cell? ⟨b, off + k * 2, none⟩ = some (.int .i64 x) := fun q => HQ0.out _ (HX.out q)
        have qg : ∀ q, (wr.drewN q).cell? ⟨g, 1, none⟩ = some (.slice (some ⟨b, off, none⟩) n cp) := fun q => HW1.out _ (HX.out q)
        by_cases hjm : j < m
        · have hjm' : (j : Int) < (m : Int) := by omega
          have hzl := HZL.out
          have hjz : j < zs.length := by omega
          obtain ⟨y, hy⟩ : ∃ y, zs[j]'hjz = y := ⟨_, rfl⟩
          have hps := posF_step zs x j hjp hjz
          rw [hy] at hps
          have HY : Hid (∃ b1 o1, A1 = some ⟨b1, o1, none⟩ ∧ ∀ w', Fr (fun _ => False) w3 w' → w'.cell? ⟨b1, o1 + j, none⟩ = some (.int .i64 y)) := Lib.hid (by
            obtain ⟨A', c', e, _, _, hA⟩ := HNR.out.row.form
            injection e with e1 _ _
            subst e1
            obtain ⟨b1, o1, rfl⟩ := hA (by omega)
            exact ⟨b1, o1, rfl, fun w' hf => (HNR.out.row.fr0 hf).cell (by rw [List.getElem?_map, List.getElem?_eq_getElem hjz, hy]; rfl)⟩)
          obtain ⟨b1, o1, rfl, hyc⟩ := HY.out
          have HYC := Lib.hid hyc
          have qy : ∀ q, (wr.drewN q).cell? ⟨b1, o1 + j, none⟩ = some (.int .i64 y) := fun q => HYC.out _ (HX.out q)
          by_cases hyx : y < x
          · have hjl : j < posF zs x := hps.1 hyx
            have w2 : IntKind.i64.wrap ((j : Int) + 1) = (j : Int) + 1 := IntWalk.i64_in _ (by omega)
            clear hps HY hyc hy
            go_wp2_with fail
            go_quiet (fail)
            go_wp2
            go_roundw
            case rel => exact ⟨j + 1, by first | rfl | (go_num; done) | (congr 1; omega), by omega, by obtain ⟨m, e⟩ := HW.out; exact ⟨m + nq, by rw [e]; simp [World.drewN, Nat.add_assoc]⟩⟩
            case measure => (simp [intOf]) <;> omega
          · have hjq : posF zs x = j := by have := mt hps.2 hyx; omega
            have dyx : decide (y < x) = false := decide_eq_false hyx
            have HAT := Lib.hid (posF_at HRI.out hjq)
            have HYE : Hid (∃ h : j < zs.length, zs[j] = y) := Lib.hid ⟨hjz, hy⟩
            clear hps HY hyx hyc hy
            go_wp2_with fail
            go_quiet (fail)
            obtain ⟨w5, hw5⟩ : ∃ w5, wr.drewN nq = w5 := ⟨_, rfl⟩
            have HX5 : Hid (∀ q, Fr (fun _ => False) w3 (w5.drewN q)) := Lib.hid (fun q => by rw [← hw5]; exact (HX.out nq).trans ((Fr.refl _ _).drewN _) (fun _ _ h => h))
            have qx5 : ∀ q, (w5.drewN q).cell? ⟨b, off + k * 2, none⟩ = some (.int .i64 x) := fun q => HQ0.out _ (HX5.out q)
            have qg5 : ∀ q, (w5.drewN q).cell? ⟨g, 1, none⟩ = some (.slice (some ⟨b, off, none⟩) n cp) := fun q => HW1.out _ (HX5.out q)
            have qy5 : ∀ q, (w5.drewN q).cell? ⟨b1, o1 + j, none⟩ = some (.int .i64 y) := fun q => HYC.out _ (HX5.out q)
            rw [hw5]
            clear hw5 HX qx qg qy HW dyx
            by_cases hxy : y = x
            · have dxy : (y == x) = true := by rw [beq_iff_eq]; exact hxy
              have HIN : Hid (x ∈ zs) := Lib.hid (HAT.out.2 ⟨hjz, by obtain ⟨h, e⟩ := HYE.out; rw [e]; exact hxy⟩)
              clear hxy
              go_wp2_with fail
              go_quiet (fail)
              go_wp2
              go_roundw
              case rel => exact ⟨k + 1, m, _, c1, by first | rfl | (go_num; done) | (congr 1; omega), rfl, by omega, ⟨by rw [HS.out, if_pos HIN.out]; exact HZL.out, by rw [HS.out, if_pos HIN.out]; exact HNR.out.fr0 (HX5.out _)⟩⟩
              case measure => (simp [intOf]) <;> omega
            · have dxy : (y == x) = false := by rw [beq_eq_false_iff_ne]; exact hxy
              have HS2 := Lib.hid (HS.out.trans (if_neg (fun e => hxy (by obtain ⟨h, e1⟩ := HAT.out.1 e; obtain ⟨_, e2⟩ := HYE.out; rw [← e2]; exact e1))))
              clear hxy
              go_wp2_with fail
              go_quiet (fail)
              have hjm2 : j ≤ m := by omega
              have HJ := Lib.hid hjq
              obtain ⟨w4, hw4⟩ : ∃ w4, w5.drewN nq = w4 := ⟨_, rfl⟩
              have HF4 : Hid (Fr (fun _ => False) w3 w4) := Lib.hid (by rw [← hw4]; exact HX5.out _)
              have HR4 := Lib.hid (HNR.out.fr0 HF4.out)
              have HQ := Lib.hid (fun w' (hf : Fr (fun _ => False) w4 w') => HQ0.out w' (HF4.out.trans hf (fun _ _ h => h)))
              have HQ1 := Lib.hid (fun w' (hf : Fr (fun _ => False) w4 w') => HW1.out w' (HF4.out.trans hf (fun _ _ h => h)))
              obtain ⟨A7, c7, A3, c3, hs1, hs2, hsl⟩ := run_cutI HR4.out.row hjm2
              have HSL1 := Lib.hid hs1
              have HSL2 := Lib.hid hs2
              have HSA : Hid (∀ w', Fr (fun _ => False) w4 w' → Sl w' 1 (.slice A7 j c7) j ((zs.take j).map IV)) := Lib.hid (fun w' hf => by rw [List.map_take]; exact (hsl w' (HR4.out.row.fr0 hf)).1)
              have HSB : Hid (∀ w', Fr (fun _ => False) w4 w' → Sl w' 1 (.slice A3 (m - j) c3) (m - j) ((zs.drop j).map IV)) := Lib.hid (fun w' hf => by rw [List.map_drop]; exact (hsl w' (HR4.out.row.fr0 hf)).2)
              rw [hw4]
              clear hs1 hs2 hsl hw4 hjq HX5 hpm hjp hjm hjm' qx5 qg5 qy5 dxy hzl hjz
              go_wp2_with fail
              refine wp_region_held_drew (S := (fun w' => Fr (fun _ => False) w4 w')) (by kernel_rfl) ((Fr.refl _ _).drew) (fun hHeld => ?_)
              refine wpAnyH_takeD (i := 1) (v := ?_) (some 57) rfl rfl (by kernel_rfl) (by kernel_rfl) (by kernel_rfl) (fun _ _ _ h => h) (Or.inl ⟨by rfl, ?_⟩) (by assumption) ?_
              rotate_left
              · intro w' hSw
                go_simp
                first | done | with_reducible rfl
              try simp only [Act.put, List.setIfInBounds_toArray, List.set_cons_zero, List.set_cons_succ]
              refine wpAnyH_takeD (i := 2) (v := ?_) (some 58) rfl rfl (by kernel_rfl) (by kernel_rfl) (by kernel_rfl) (fun _ _ _ h => h) (Or.inl ⟨by rfl, ?_⟩) (by assumption) ?_
              rotate_left
              · intro w' hSw
                go_simp
                first | done | with_reducible rfl
              try simp only [Act.put, List.setIfInBounds_toArray, List.set_cons_zero, List.set_cons_succ]
              refine wpAnyH_takeD (i := 3) (v := ?_) (some 59) rfl rfl (by kernel_rfl) (by kernel_rfl) (by kernel_rfl) (fun _ _ _ h => h) (Or.inl ⟨by rfl, ?_⟩) (by assumption) ?_
              rotate_left
              · intro w' hSw
                have q9 := HSL1.out w'
                go_simp
                first | done | with_reducible rfl
              try simp only [Act.put, List.setIfInBounds_toArray, List.set_cons_zero, List.set_cons_succ]
              refine wpAnyH_takeD (i := 5) (v := ?_) (some 61) rfl rfl (by kernel_rfl) (by kernel_rfl) (by kernel_rfl) (fun _ _ _ h => h) (Or.inl ⟨by rfl, ?_⟩) (by assumption) ?_
              rotate_left
              · intro w' hSw
                go_simp
                first | done | with_reducible rfl
              try simp only [Act.put, List.setIfInBounds_toArray, List.set_cons_zero, List.set_cons_succ]
              refine wpAnyH_takeD (i := 6) (v := ?_) (some 62) rfl rfl (by kernel_rfl) (by kernel_rfl) (by kernel_rfl) (fun _ _ _ h => h) (Or.inl ⟨by rfl, ?_⟩) (by assumption) ?_
              rotate_left
              · intro w' hSw
                go_simp
                first | done | with_reducible rfl
              try simp only [Act.put, List.setIfInBounds_toArray, List.set_cons_zero, List.set_cons_succ]
              refine wpAnyH_takeD (i := 7) (v := ?_) (some 63) rfl rfl (by kernel_rfl) (by kernel_rfl) (by kernel_rfl) (fun _ _ _ h => h) (Or.inl ⟨by rfl, ?_⟩) (by assumption) ?_
              rotate_left
              · intro w' hSw
                go_simp
                first | done | with_reducible rfl
              try simp only [Act.put, List.setIfInBounds_toArray, List.set_cons_zero, List.set_cons_succ]
              refine wpAnyH_takeD (i := 8) (v := ?_) (some 64) rfl rfl (by kernel_rfl) (by kernel_rfl) (by kernel_rfl) (fun _ _ _ h => h) (Or.inl ⟨by rfl, ?_⟩) (by assumption) ?_
              rotate_left
              · intro w' hSw
                have q1 := HQ1.out w' hSw
                go_simp
                first | done | with_reducible rfl
              try simp only [Act.put, List.setIfInBounds_toArray, List.set_cons_zero, List.set_cons_succ]
              refine wpAnyH_takeD (i := 9) (v := ?_) (some 65) rfl rfl (by kernel_rfl) (by kernel_rfl) (by kernel_rfl) (fun _ _ _ h => h) (Or.inl ⟨by rfl, ?_⟩) (by assumption) ?_
              rotate_left
              · intro w' hSw
                go_simp
                first | done | with_reducible rfl
              try simp only [Act.put, List.setIfInBounds_toArray, List.set_cons_zero, List.set_cons_succ]
              refine wpAnyH_takeD (i := 10) (v := ?_) (some 66) rfl rfl (by kernel_rfl) (by kernel_rfl) (by kernel_rfl) (fun _ _ _ h => h) (Or.inl ⟨by rfl, ?_⟩) (by assumption) ?_
              rotate_left
              · intro w' hSw
                go_simp
                first | done | with_reducible rfl
              try simp only [Act.put, List.setIfInBounds_toArray, List.set_cons_zero, List.set_cons_succ]
              refine wpAnyH_takeD (i := 11) (v := ?_) (some 67) rfl rfl (by kernel_rfl) (by kernel_rfl) (by kernel_rfl) (fun _ _ _ h => h) (Or.inl ⟨by rfl, ?_⟩) (by assumption) ?_
              rotate_left
              · intro w' hSw
                go_simp
                first | done | with_reducible rfl
              try simp only [Act.put, List.setIfInBounds_toArray, List.set_cons_zero, List.set_cons_succ]
              refine wpAnyH_takeD (i := 12) (v := ?_) (some 68) rfl rfl (by kernel_rfl) (by kernel_rfl) (by kernel_rfl) (fun _ _ _ h => h) (Or.inl ⟨by rfl, ?_⟩) (by assumption) ?_
              rotate_left
              · intro w' hSw
                have q0 := HQ.out w' hSw
                go_simp
                first | done | with_reducible rfl
              try simp only [Act.put, List.setIfInBounds_toArray, List.set_cons_zero, List.set_cons_succ]
              refine wpAnyH_ready (rs := [0, 13]) (by kernel_rfl) (by simp) ?_
              refine AllReadyH.cons rfl (fun K hK => ?_) (AllReadyH.cons rfl (fun K hK => ?_) AllReadyH.nil)
              · skip
                go_simp
                refine hK.out _ _ (hHeld.alloc _) (fun hHeld => ?_)
                clear hK K
                try change wpAnyH _ _ _ _ _ _ _ (Act.put _ (some 56) _) _
                try simp only [Act.put, List.setIfInBounds_toArray, List.set_cons_zero, List.set_cons_succ]
                refine wpAnyH_ready (rs := [4, 13]) (by kernel_rfl) (by simp) ?_
                refine AllReadyH.cons rfl (fun K hK => ?_) (AllReadyH.cons rfl (fun K hK => ?_) AllReadyH.nil)
                · skip
                  have hN0 := newIA w4
                  refine stepOf_appendR teI rfl (.tmp 56) (.tmp 59) rfl _ 0 [] rfl hN0.row (.slice A7 j c7) j ((zs.take j).map IV) rfl (HSA.out _ hN0.fr) (IV_one _) (by unfold maxLen; omega) (by omega) ?_
                  intro A8 c8 w8 hr8 hf8 hm8
                  have hN8' := hN0.step hr8 hf8 hm8
                  simp only [Nat.zero_add, List.nil_append] at hN8' ⊢
                  have HN8 := Lib.hid hN8'
                  clear hN0 hr8 hf8 hm8 hN8'
                  refine hK.out _ _ (HN8.out.fr) (fun hHeld => ?_)
                  clear hK K
                  try change wpAnyH _ _ _ _ _ _ _ (Act.put _ (some 60) _) _
                  try simp only [Act.put, List.setIfInBounds_toArray, List.set_cons_zero, List.set_cons_succ]
                  refine wpAnyH_ready (rs := [13]) (by kernel_rfl) (by simp) ?_
                  refine AllReadyH.cons rfl (fun K hK => ?_) AllReadyH.nil
                  go_simp
                  refine hK.out _ _ (hHeld.trans ((Fr.refl _ _).alloc _) (fun _ _ h => h)) (fun hHeld => ?_)
                  clear hK K
                  try change wpAnyH _ _ _ _ _ _ _ (Act.put _ (some 69) _) _
                  try simp only [Act.put, List.setIfInBounds_toArray, List.set_cons_zero, List.set_cons_succ]
                  refine wpAnyH_ready (rs := [14]) (by kernel_rfl) (by simp) ?_
                  refine AllReadyH.cons rfl (fun K hK => ?_) AllReadyH.nil
                  have hN8 := HN8.out.fr0 (show Fr (fun _ => False) w8 (w8.alloc (.cells #[.int .i64 x] 3)) from (Fr.refl _ _).alloc _)
                  refine stepOf_appendR teI rfl (.tmp 60) (.tmp 69) rfl (.slice A8 j c8) j ((zs.take j).map IV) rfl hN8.row _ 1 [.int .i64 x] rfl (sl1i (show Bk (w8.alloc (.cells #[.int .i64 x] 3)) w8.heap.size 3 #[.int .i64 x] from Bk.new _ _ _)) (fun u hu => by simp at hu; subst hu; rfl) (by unfold maxLen; omega) (by omega) ?_
                  intro A9 c9 w9 hr9 hf9 hm9
                  have HN9 := Lib.hid (hN8.step hr9 hf9 hm9)
                  clear hN8 hr9 hf9 hm9
                  refine hK.out _ _ (HN9.out.fr) (fun hHeld => ?_)
                  clear hK K
                  try change wpAnyH _ _ _ _ _ _ _ (Act.put _ (some 70) _) _
                  try simp only [Act.put, List.setIfInBounds_toArray, List.set_cons_zero, List.set_cons_succ]
                  refine wpAnyH_takeD (i := 15) (v := ?_) (some 6) rfl rfl (by kernel_rfl) (by kernel_rfl) (by kernel_rfl) (fun _ _ _ h => h) (Or.inl ⟨by rfl, ?_⟩) (by assumption) ?_
                  rotate_left
                  · intro w' hSw
                    go_simp
                    first | done | with_reducible rfl
                  try simp only [Act.put, List.setIfInBounds_toArray, List.set_cons_zero, List.set_cons_succ]
                  refine wpAnyH_done (by kernel_rfl) ?_ _
                  have hs2 := HSL2.out
                  clear HSL1 HSL2 HSA
                  go_wp2_with (at_builtin; (refine wpList_appendR teI rfl (.tmp 71) (.tmp 74) rfl (.slice A9 (j + 1) c9) (j + 1) _ rfl HN9.out.row (.slice A3 (m - j) c3) (m - j) _ rfl (HSB.out _ HN9.out.fr) (IV_one _) (by unfold maxLen; omega) (by omega) ?_; intro A5 c5 w6 hr5 hf5 hm5; have HN5 := Lib.hid ((HN9.out.old HF4.out).step hr5 hf5 hm5); clear hr5 hf5 hm5))
                  go_roundw
                  case rel =>
                    refine ⟨k + 1, m + 1, A5, c5, by first | rfl | (go_num; done) | (congr 1; omega), by congr 1; omega, by omega, ⟨by rw [HS2.out, insF_len, HZL.out], ?_⟩⟩
                    rw [HS2.out, insF_map, HJ.out, show m + 1 = j + 1 + (m - j) by omega]
                    exact ⟨HN5.out.row, HNR.out.fr.trans HN5.out.fr (fun _ _ h => h), fun k hk => Nat.le_trans HNR.out.fr.size (HN5.out.new k hk)⟩
                  case measure => (simp [intOf]) <;> omega
                · skip
                  go_simp
                  refine hK.out _ _ (hHeld.trans ((Fr.refl _ _).alloc _) (fun _ _ h => h)) (fun hHeld => ?_)
                  clear hK K
                  try change wpAnyH _ _ _ _ _ _ _ (Act.put _ (some 69) _) _
                  try simp only [Act.put, List.setIfInBounds_toArray, List.set_cons_zero, List.set_cons_succ]
                  refine wpAnyH_ready (rs := [4]) (by kernel_rfl) (by simp) ?_
                  refine AllReadyH.cons rfl (fun K hK => ?_) AllReadyH.nil
                  have hN0 := newIB w4 (.cells #[.int .i64 x] 3)
                  refine stepOf_appendR teI rfl (.tmp 56) (.tmp 59) rfl _ 0 [] rfl hN0.row (.slice A7 j c7) j ((zs.take j).map IV) rfl (HSA.out _ hN0.fr) (IV_one _) (by unfold maxLen; omega) (by omega) ?_
                  intro A8 c8 w8 hr8 hf8 hm8
                  have hN8' := hN0.step hr8 hf8 hm8
                  simp only [Nat.zero_add, List.nil_append] at hN8' ⊢
                  have HN8 := Lib.hid hN8'
                  have HSE : Hid (Sl w8 1 (.slice (some ⟨w4.heap.size + 1, 0, none⟩) 1 1) 1 [.int .i64 x]) := Lib.hid (sl1i (Bk.fr (w := ((w4.alloc O0I).alloc (.cells #[.int .i64 x] 3)).drew) (by have := (Bk.new (w4.alloc O0I) 3 #[.int .i64 x]).drew; rw [show (w4.alloc O0I).heap.size = w4.heap.size + 1 by simp] at this; exact this) hf8 (fun e => by have e' : w4.heap.size = w4.heap.size + 1 := (by injection e); omega)))
                  clear hN0 hr8 hf8 hm8 hN8'
                  refine hK.out _ _ (HN8.out.fr) (fun hHeld => ?_)
                  clear hK K
                  try change wpAnyH _ _ _ _ _ _ _ (Act.put _ (some 60) _) _
                  try simp only [Act.put, List.setIfInBounds_toArray, List.set_cons_zero, List.set_cons_succ]
                  refine wpAnyH_ready (rs := [14]) (by kernel_rfl) (by simp) ?_
                  refine AllReadyH.cons rfl (fun K hK => ?_) AllReadyH.nil
                  have hN8 := HN8.out
                  refine stepOf_appendR teI rfl (.tmp 60) (.tmp 69) rfl (.slice A8 j c8) j ((zs.take j).map IV) rfl hN8.row _ 1 [.int .i64 x] rfl HSE.out (fun u hu => by simp at hu; subst hu; rfl) (by unfold maxLen; omega) (by omega) ?_
                  intro A9 c9 w9 hr9 hf9 hm9
                  have HN9 := Lib.hid (hN8.step hr9 hf9 hm9)
                  clear hN8 hr9 hf9 hm9
                  refine hK.out _ _ (HN9.out.fr) (fun hHeld => ?_)
                  clear hK K
                  try change wpAnyH _ _ _ _ _ _ _ (Act.put _ (some 70) _) _
                  try simp only [Act.put, List.setIfInBounds_toArray, List.set_cons_zero, List.set_cons_succ]
                  refine wpAnyH_takeD (i := 15) (v := ?_) (some 6) rfl rfl (by kernel_rfl) (by kernel_rfl) (by kernel_rfl) (fun _ _ _ h => h) (Or.inl ⟨by rfl, ?_⟩) (by assumption) ?_
                  rotate_left
                  · intro w' hSw
                    go_simp
                    first | done | with_reducible rfl
                  try simp only [Act.put, List.setIfInBounds_toArray, List.set_cons_zero, List.set_cons_succ]
                  refine wpAnyH_done (by kernel_rfl) ?_ _
                  have hs2 := HSL2.out
                  clear HSL1 HSL2 HSA
                  go_wp2_with (at_builtin; (refine wpList_appendR teI rfl (.tmp 71) (.tmp 74) rfl (.slice A9 (j + 1) c9) (j + 1) _ rfl HN9.out.row (.slice A3 (m - j) c3) (m - j) _ rfl (HSB.out _ HN9.out.fr) (IV_one _) (by unfold maxLen; omega) (by omega) ?_; intro A5 c5 w6 hr5 hf5 hm5; have HN5 := Lib.hid ((HN9.out.old HF4.out).step hr5 hf5 hm5); clear hr5 hf5 hm5))
                  go_roundw
                  case rel =>
                    refine ⟨k + 1, m + 1, A5, c5, by first | rfl | (go_num; done) | (congr 1; omega), by congr 1; omega, by omega, ⟨by rw [HS2.out, insF_len, HZL.out], ?_⟩⟩
                    rw [HS2.out, insF_map, HJ.out, show m + 1 = j + 1 + (m - j) by omega]
                    exact ⟨HN5.out.row, HNR.out.fr.trans HN5.out.fr (fun _ _ h => h), fun k hk => Nat.le_trans HNR.out.fr.size (HN5.out.new k hk)⟩
                  case measure => (simp [intOf]) <;> omega
              · skip
                go_simp
                refine hK.out _ _ (hHeld.trans ((Fr.refl _ _).alloc _) (fun _ _ h => h)) (fun hHeld => ?_)
                clear hK K
                try change wpAnyH _ _ _ _ _ _ _ (Act.put _ (some 69) _) _
                try simp only [Act.put, List.setIfInBounds_toArray, List.set_cons_zero, List.set_cons_succ]
                refine wpAnyH_ready (rs := [0]) (by kernel_rfl) (by simp) ?_
                refine AllReadyH.cons rfl (fun K hK => ?_) AllReadyH.nil
                go_simp
                refine hK.out _ _ (hHeld.alloc _) (fun hHeld => ?_)
                clear hK K
                try change wpAnyH _ _ _ _ _ _ _ (Act.put _ (some 56) _) _
                try simp only [Act.put, List.setIfInBounds_toArray, List.set_cons_zero, List.set_cons_succ]
                refine wpAnyH_ready (rs := [4]) (by kernel_rfl) (by simp) ?_
                refine AllReadyH.cons rfl (fun K hK => ?_) AllReadyH.nil
                have hN0 := newIC w4 (.cells #[.int .i64 x] 3)
                refine stepOf_appendR teI rfl (.tmp 56) (.tmp 59) rfl _ 0 [] rfl hN0.row (.slice A7 j c7) j ((zs.take j).map IV) rfl (HSA.out _ hN0.fr) (IV_one _) (by unfold maxLen; omega) (by omega) ?_
                intro A8 c8 w8 hr8 hf8 hm8
                have hN8' := hN0.step hr8 hf8 hm8
                simp only [Nat.zero_add, List.nil_append] at hN8' ⊢
                have HN8 := Lib.hid hN8'
                have HSE : Hid (Sl w8 1 (.slice (some ⟨w4.heap.size, 0, none⟩) 1 1) 1 [.int .i64 x]) := Lib.hid (sl1i (Bk.fr (w := ((w4.alloc (.cells #[.int .i64 x] 3)).alloc O0I).drew) ((((Bk.new w4 3 #[.int .i64 x]).alloc O0I)).drew) hf8 (fun e => by have e' : w4.heap.size + 1 = w4.heap.size := (by injection e); omega)))
                clear hN0 hr8 hf8 hm8 hN8'
                refine hK.out _ _ (HN8.out.fr) (fun hHeld => ?_)
                clear hK K
                try change wpAnyH _ _ _ _ _ _ _ (Act.put _ (some 60) _) _
                try simp only [Act.put, List.setIfInBounds_toArray, List.set_cons_zero, List.set_cons_succ]
                refine wpAnyH_ready (rs := [14]) (by kernel_rfl) (by simp) ?_
                refine AllReadyH.cons rfl (fun K hK => ?_) AllReadyH.nil
                have hN8 := HN8.out
                refine stepOf_appendR teI rfl (.tmp 60) (.tmp 69) rfl (.slice A8 j c8) j ((zs.take j).map IV) rfl hN8.row _ 1 [.int .i64 x] rfl HSE.out (fun u hu => by simp at hu; subst hu; rfl) (by unfold maxLen; omega) (by omega) ?_
                intro A9 c9 w9 hr9 hf9 hm9
                have HN9 := Lib.hid (hN8.step hr9 hf9 hm9)
                clear hN8 hr9 hf9 hm9
                refine hK.out _ _ (HN9.out.fr) (fun hHeld => ?_)
                clear hK K
                try change wpAnyH _ _ _ _ _ _ _ (Act.put _ (some 70) _) _
                try simp only [Act.put, List.setIfInBounds_toArray, List.set_cons_zero, List.set_cons_succ]
                refine wpAnyH_takeD (i := 15) (v := ?_) (some 6) rfl rfl (by kernel_rfl) (by kernel_rfl) (by kernel_rfl) (fun _ _ _ h => h) (Or.inl ⟨by rfl, ?_⟩) (by assumption) ?_
                rotate_left
                · intro w' hSw
                  go_simp
                  first | done | with_reducible rfl
                try simp only [Act.put, List.setIfInBounds_toArray, List.set_cons_zero, List.set_cons_succ]
                refine wpAnyH_done (by kernel_rfl) ?_ _
                have hs2 := HSL2.out
                clear HSL1 HSL2 HSA
                go_wp2_with (at_builtin; (refine wpList_appendR teI rfl (.tmp 71) (.tmp 74) rfl (.slice A9 (j + 1) c9) (j + 1) _ rfl HN9.out.row (.slice A3 (m - j) c3) (m - j) _ rfl (HSB.out _ HN9.out.fr) (IV_one _) (by unfold maxLen; omega) (by omega) ?_; intro A5 c5 w6 hr5 hf5 hm5; have HN5 := Lib.hid ((HN9.out.old HF4.out).step hr5 hf5 hm5); clear hr5 hf5 hm5))
                go_roundw
                case rel =>
                  refine ⟨k + 1, m + 1, A5, c5, by first | rfl | (go_num; done) | (congr 1; omega), by congr 1; omega, by omega, ⟨by rw [HS2.out, insF_len, HZL.out], ?_⟩⟩
                  rw [HS2.out, insF_map, HJ.out, show m + 1 = j + 1 + (m - j) by omega]
                  exact ⟨HN5.out.row, HNR.out.fr.trans HN5.out.fr (fun _ _ h => h), fun k hk => Nat.le_trans HNR.out.fr.size (HN5.out.new k hk)⟩
                case measure => (simp [intOf]) <;> omega
        · have hjq : posF zs x = j := by omega
          have hjm' : ¬ (j : Int) < (m : Int) := by omega
          have HS2 := Lib.hid (HS.out.trans (if_neg (fun e => by obtain ⟨h, _⟩ := (posF_at HRI.out hjq).1 e; have := HZL.out; omega)))
          go_wp2_with fail
          go_quiet (fail)
          obtain ⟨w5, hw5⟩ : ∃ w5, wr.drewN nq = w5 := ⟨_, rfl⟩
          have HX5 : Hid (∀ q, Fr (fun _ => False) w3 (w5.drewN q)) := Lib.hid (fun q => by rw [← hw5]; exact (HX.out nq).trans ((Fr.refl _ _).drewN _) (fun _ _ h => h))
          have qx5 : ∀ q, (w5.drewN q).cell? ⟨b, off + k * 2, none⟩ = some (.int .i64 x) := fun q => HQ0.out _ (HX5.out q)
          have qg5 : ∀ q, (w5.drewN q).cell? ⟨g, 1, none⟩ = some (.slice (some ⟨b, off, none⟩) n cp) := fun q => HW1.out _ (HX5.out q)
          rw [hw5]
          clear hw5 HX qx qg HW
          go_wp2_with fail
          go_quiet (fail)
          have hjm2 : j ≤ m := by omega
          have HJ := Lib.hid hjq
          obtain ⟨w4, hw4⟩ : ∃ w4, w5.drewN nq = w4 := ⟨_, rfl⟩
          have HF4 : Hid (Fr (fun _ => False) w3 w4) := Lib.hid (by rw [← hw4]; exact HX5.out _)
          have HR4 := Lib.hid (HNR.out.fr0 HF4.out)
          have HQ := Lib.hid (fun w' (hf : Fr (fun _ => False) w4 w') => HQ0.out w' (HF4.out.trans hf (fun _ _ h => h)))
          have HQ1 := Lib.hid (fun w' (hf : Fr (fun _ => False) w4 w') => HW1.out w' (HF4.out.trans hf (fun _ _ h => h)))
          obtain ⟨A7, c7, A3, c3, hs1, hs2, hsl⟩ := run_cutI HR4.out.row hjm2
          have HSL1 := Lib.hid hs1
          have HSL2 := Lib.hid hs2
          have HSA : Hid (∀ w', Fr (fun _ => False) w4 w' → Sl w' 1 (.slice A7 j c7) j ((zs.take j).map IV)) := Lib.hid (fun w' hf => by rw [List.map_take]; exact (hsl w' (HR4.out.row.fr0 hf)).1)
          have HSB : Hid (∀ w', Fr (fun _ => False) w4 w' → Sl w' 1 (.slice A3 (m - j) c3) (m - j) ((zs.drop j).map IV)) := Lib.hid (fun w' hf => by rw [List.map_drop]; exact (hsl w' (HR4.out.row.fr0 hf)).2)
          rw [hw4]
          clear hs1 hs2 hsl hw4 hjq HX5 hpm hjp hjm hjm' qx5 qg5 
          go_wp2_with fail
          refine wp_region_held_drew (S := (fun w' => Fr (fun _ => False) w4 w')) (by kernel_rfl) ((Fr.refl _ _).drew) (fun hHeld => ?_)
          refine wpAnyH_takeD (i := 1) (v := ?_) (some 57) rfl rfl (by kernel_rfl) (by kernel_rfl) (by kernel_rfl) (fun _ _ _ h => h) (Or.inl ⟨by rfl, ?_⟩) (by assumption) ?_
          rotate_left
          · intro w' hSw
            go_simp
            first | done | with_reducible rfl
          try simp only [Act.put, List.setIfInBounds_toArray, List.set_cons_zero, List.set_cons_succ]
          refine wpAnyH_takeD (i := 2) (v := ?_) (some 58) rfl rfl (by kernel_rfl) (by kernel_rfl) (by kernel_rfl) (fun _ _ _ h => h) (Or.inl ⟨by rfl, ?_⟩) (by assumption) ?_
          rotate_left
          · intro w' hSw
            go_simp
            first | done | with_reducible rfl
          try simp only [Act.put, List.setIfInBounds_toArray, List.set_cons_zero, List.set_cons_succ]
          refine wpAnyH_takeD (i := 3) (v := ?_) (some 59) rfl rfl (by kernel_rfl) (by kernel_rfl) (by kernel_rfl) (fun _ _ _ h => h) (Or.inl ⟨by rfl, ?_⟩) (by assumption) ?_
          rotate_left
          · intro w' hSw
            have q9 := HSL1.out w'
            go_simp
            first | done | with_reducible rfl
          try simp only [Act.put, List.setIfInBounds_toArray, List.set_cons_zero, List.set_cons_succ]
          refine wpAnyH_takeD (i := 5) (v := ?_) (some 61) rfl rfl (by kernel_rfl) (by kernel_rfl) (by kernel_rfl) (fun _ _ _ h => h) (Or.inl ⟨by rfl, ?_⟩) (by assumption) ?_
          rotate_left
          · intro w' hSw
            go_simp
            first | done | with_reducible rfl
          try simp only [Act.put, List.setIfInBounds_toArray, List.set_cons_zero, List.set_cons_succ]
          refine wpAnyH_takeD (i := 6) (v := ?_) (some 62) rfl rfl (by kernel_rfl) (by kernel_rfl) (by kernel_rfl) (fun _ _ _ h => h) (Or.inl ⟨by rfl, ?_⟩) (by assumption) ?_
          rotate_left
          · intro w' hSw
            go_simp
            first | done | with_reducible rfl
          try simp only [Act.put, List.setIfInBounds_toArray, List.set_cons_zero, List.set_cons_succ]
          refine wpAnyH_takeD (i := 7) (v := ?_) (some 63) rfl rfl (by kernel_rfl) (by kernel_rfl) (by kernel_rfl) (fun _ _ _ h => h) (Or.inl ⟨by rfl, ?_⟩) (by assumption) ?_
          rotate_left
          · intro w' hSw
            go_simp
            first | done | with_reducible rfl
          try simp only [Act.put, List.setIfInBounds_toArray, List.set_cons_zero, List.set_cons_succ]
          refine wpAnyH_takeD (i := 8) (v := ?_) (some 64) rfl rfl (by kernel_rfl) (by kernel_rfl) (by kernel_rfl) (fun _ _ _ h => h) (Or.inl ⟨by rfl, ?_⟩) (by assumption) ?_
          rotate_left
          · intro w' hSw
            have q1 := HQ1.out w' hSw
            go_simp
            first | done | with_reducible rfl
          try simp only [Act.put, List.setIfInBounds_toArray, List.set_cons_zero, List.set_cons_succ]
          refine wpAnyH_takeD (i := 9) (v := ?_) (some 65) rfl rfl (by kernel_rfl) (by kernel_rfl) (by kernel_rfl) (fun _ _ _ h => h) (Or.inl ⟨by rfl, ?_⟩) (by assumption) ?_
          rotate_left
          · intro w' hSw
            go_simp
            first | done | with_reducible rfl
          try simp only [Act.put, List.setIfInBounds_toArray, List.set_cons_zero, List.set_cons_succ]
          refine wpAnyH_takeD (i := 10) (v := ?_) (some 66) rfl rfl (by kernel_rfl) (by kernel_rfl) (by kernel_rfl) (fun _ _ _ h => h) (Or.inl ⟨by rfl, ?_⟩) (by assumption) ?_
          rotate_left
          · intro w' hSw
            go_simp
            first | done | with_reducible rfl
          try simp only [Act.put, List.setIfInBounds_toArray, List.set_cons_zero, List.set_cons_succ]
          refine wpAnyH_takeD (i := 11) (v := ?_) (some 67) rfl rfl (by kernel_rfl) (by kernel_rfl) (by kernel_rfl) (fun _ _ _ h => h) (Or.inl ⟨by rfl, ?_⟩) (by assumption) ?_
          rotate_left
          · intro w' hSw
            go_simp
            first | done | with_reducible rfl
          try simp only [Act.put, List.setIfInBounds_toArray, List.set_cons_zero, List.set_cons_succ]
          refine wpAnyH_takeD (i := 12) (v := ?_) (some 68) rfl rfl (by kernel_rfl) (by kernel_rfl) (by kernel_rfl) (fun _ _ _ h => h) (Or.inl ⟨by rfl, ?_⟩) (by assumption) ?_
          rotate_left
          · intro w' hSw
            have q0 := HQ.out w' hSw
            go_simp
            first | done | with_reducible rfl
          try simp only [Act.put, List.setIfInBounds_toArray, List.set_cons_zero, List.set_cons_succ]
          refine wpAnyH_ready (rs := [0, 13]) (by kernel_rfl) (by simp) ?_
          refine AllReadyH.cons rfl (fun K hK => ?_) (AllReadyH.cons rfl (fun K hK => ?_) AllReadyH.nil)
          · skip
            go_simp
            refine hK.out _ _ (hHeld.alloc _) (fun hHeld => ?_)
            clear hK K
            try change wpAnyH _ _ _ _ _ _ _ (Act.put _ (some 56) _) _
            try simp only [Act.put, List.setIfInBounds_toArray, List.set_cons_zero, List.set_cons_succ]
            refine wpAnyH_ready (rs := [4, 13]) (by kernel_rfl) (by simp) ?_
            refine AllReadyH.cons rfl (fun K hK => ?_) (AllReadyH.cons rfl (fun K hK => ?_) AllReadyH.nil)
            · skip
              have hN0 := newIA w4
              refine stepOf_appendR teI rfl (.tmp 56) (.tmp 59) rfl _ 0 [] rfl hN0.row (.slice A7 j c7) j ((zs.take j).map IV) rfl (HSA.out _ hN0.fr) (IV_one _) (by unfold maxLen; omega) (by omega) ?_
              intro A8 c8 w8 hr8 hf8 hm8
              have hN8' := hN0.step hr8 hf8 hm8
              simp only [Nat.zero_add, List.nil_append] at hN8' ⊢
              have HN8 := Lib.hid hN8'
              clear hN0 hr8 hf8 hm8 hN8'
              refine hK.out _ _ (HN8.out.fr) (fun hHeld => ?_)
              clear hK K
              try change wpAnyH _ _ _ _ _ _ _ (Act.put _ (some 60) _) _
              try simp only [Act.put, List.setIfInBounds_toArray, List.set_cons_zero, List.set_cons_succ]
              refine wpAnyH_ready (rs := [13]) (by kernel_rfl) (by simp) ?_
              refine AllReadyH.cons rfl (fun K hK => ?_) AllReadyH.nil
              go_simp
              refine hK.out _ _ (hHeld.trans ((Fr.refl _ _).alloc _) (fun _ _ h => h)) (fun hHeld => ?_)
              clear hK K
              try change wpAnyH _ _ _ _ _ _ _ (Act.put _ (some 69) _) _
              try simp only [Act.put, List.setIfInBounds_toArray, List.set_cons_zero, List.set_cons_succ]
              refine wpAnyH_ready (rs := [14]) (by kernel_rfl) (by simp) ?_
              refine AllReadyH.cons rfl (fun K hK => ?_) AllReadyH.nil
              have hN8 := HN8.out.fr0 (show Fr (fun _ => False) w8 (w8.alloc (.cells #[.int .i64 x] 3)) from (Fr.refl _ _).alloc _)
              refine stepOf_appendR teI rfl (.tmp 60) (.tmp 69) rfl (.slice A8 j c8) j ((zs.take j).map IV) rfl hN8.row _ 1 [.int .i64 x] rfl (sl1i (show Bk (w8.alloc (.cells #[.int .i64 x] 3)) w8.heap.size 3 #[.int .i64 x] from Bk.new _ _ _)) (fun u hu => by simp at hu; subst hu; rfl) (by unfold maxLen; omega) (by omega) ?_
              intro A9 c9 w9 hr9 hf9 hm9
              have HN9 := Lib.hid (hN8.step hr9 hf9 hm9)
              clear hN8 hr9 hf9 hm9
              refine hK.out _ _ (HN9.out.fr) (fun hHeld => ?_)
              clear hK K
              try change wpAnyH _ _ _ _ _ _ _ (Act.put _ (some 70) _) _
              try simp only [Act.put, List.setIfInBounds_toArray, List.set_cons_zero, List.set_cons_succ]
              refine wpAnyH_takeD (i := 15) (v := ?_) (some 6) rfl rfl (by kernel_rfl) (by kernel_rfl) (by kernel_rfl) (fun _ _ _ h => h) (Or.inl ⟨by rfl, ?_⟩) (by assumption) ?_
              rotate_left
              · intro w' hSw
                go_simp
                first | done | with_reducible rfl
              try simp only [Act.put, List.setIfInBounds_toArray, List.set_cons_zero, List.set_cons_succ]
              refine wpAnyH_done (by kernel_rfl) ?_ _
              have hs2 := HSL2.out
              clear HSL1 HSL2 HSA
              go_wp2_with (at_builtin; (refine wpList_appendR teI rfl (.tmp 71) (.tmp 74) rfl (.slice A9 (j + 1) c9) (j + 1) _ rfl HN9.out.row (.slice A3 (m - j) c3) (m - j) _ rfl (HSB.out _ HN9.out.fr) (IV_one _) (by unfold maxLen; omega) (by omega) ?_; intro A5 c5 w6 hr5 hf5 hm5; have HN5 := Lib.hid ((HN9.out.old HF4.out).step hr5 hf5 hm5); clear hr5 hf5 hm5))
              go_roundw
              case rel =>
                refine ⟨k + 1, m + 1, A5, c5, by first | rfl | (go_num; done) | (congr 1; omega), by congr 1; omega, by omega, ⟨by rw [HS2.out, insF_len, HZL.out], ?_⟩⟩
                rw [HS2.out, insF_map, HJ.out, show m + 1 = j + 1 + (m - j) by omega]
                exact ⟨HN5.out.row, HNR.out.fr.trans HN5.out.fr (fun _ _ h => h), fun k hk => Nat.le_trans HNR.out.fr.size (HN5.out.new k hk)⟩
              case measure => (simp [intOf]) <;> omega
            · skip
              go_simp
              refine hK.out _ _ (hHeld.trans ((Fr.refl _ _).alloc _) (fun _ _ h => h)) (fun hHeld => ?_)
              clear hK K
              try change wpAnyH _ _ _ _ _ _ _ (Act.put _ (some 69) _) _
              try simp only [Act.put, List.setIfInBounds_toArray, List.set_cons_zero, List.set_cons_succ]
              refine wpAnyH_ready (rs := [4]) (by kernel_rfl) (by simp) ?_
              refine AllReadyH.cons rfl (fun K hK => ?_) AllReadyH.nil
              have hN0 := newIB w4 (.cells #[.int .i64 x] 3)
              refine stepOf_appendR teI rfl (.tmp 56) (.tmp 59) rfl _ 0 [] rfl hN0.row (.slice A7 j c7) j ((zs.take j).map IV) rfl (HSA.out _ hN0.fr) (IV_one _) (by unfold maxLen; omega) (by omega) ?_
              intro A8 c8 w8 hr8 hf8 hm8
              have hN8' := hN0.step hr8 hf8 hm8
              simp only [Nat.zero_add, List.nil_append] at hN8' ⊢
              have HN8 := Lib.hid hN8'
              have HSE : Hid (Sl w8 1 (.slice (some ⟨w4.heap.size + 1, 0, none⟩) 1 1) 1 [.int .i64 x]) := Lib.hid (sl1i (Bk.fr (w := ((w4.alloc O0I).alloc (.cells #[.int .i64 x] 3)).drew) (by have := (Bk.new (w4.alloc O0I) 3 #[.int .i64 x]).drew; rw [show (w4.alloc O0I).heap.size = w4.heap.size + 1 by simp] at this; exact this) hf8 (fun e => by have e' : w4.heap.size = w4.heap.size + 1 := (by injection e); omega)))
              clear hN0 hr8 hf8 hm8 hN8'
              refine hK.out _ _ (HN8.out.fr) (fun hHeld => ?_)
              clear hK K
              try change wpAnyH _ _ _ _ _ _ _ (Act.put _ (some 60) _) _
              try simp only [Act.put, List.setIfInBounds_toArray, List.set_cons_zero, List.set_cons_succ]
              refine wpAnyH_ready (rs := [14]) (by kernel_rfl) (by simp) ?_
              refine AllReadyH.cons rfl (fun K hK => ?_) AllReadyH.nil
              have hN8 := HN8.out
              refine stepOf_appendR teI rfl (.tmp 60) (.tmp 69) rfl (.slice A8 j c8) j ((zs.take j).map IV) rfl hN8.row _ 1 [.int .i64 x] rfl HSE.out (fun u hu => by simp at hu; subst hu; rfl) (by unfold maxLen; omega) (by omega) ?_
              intro A9 c9 w9 hr9 hf9 hm9
              have HN9 := Lib.hid (hN8.step hr9 hf9 hm9)
              clear hN8 hr9 hf9 hm9
              refine hK.out _ _ (HN9.out.fr) (fun hHeld => ?_)
              clear hK K
              try change wpAnyH _ _ _ _ _ _ _ (Act.put _ (some 70) _) _
              try simp only [Act.put, List.setIfInBounds_toArray, List.set_cons_zero, List.set_cons_succ]
              refine wpAnyH_takeD (i := 15) (v := ?_) (some 6) rfl rfl (by kernel_rfl) (by kernel_rfl) (by kernel_rfl) (fun _ _ _ h => h) (Or.inl ⟨by rfl, ?_⟩) (by assumption) ?_
              rotate_left
              · intro w' hSw
                go_simp
                first | done | with_reducible rfl
              try simp only [Act.put, List.setIfInBounds_toArray, List.set_cons_zero, List.set_cons_succ]
              refine wpAnyH_done (by kernel_rfl) ?_ _
              have hs2 := HSL2.out
              clear HSL1 HSL2 HSA
              go_wp2_with (at_builtin; (refine wpList_appendR teI rfl (.tmp 71) (.tmp 74) rfl (.slice A9 (j + 1) c9) (j + 1) _ rfl HN9.out.row (.slice A3 (m - j) c3) (m - j) _ rfl (HSB.out _ HN9.out.fr) (IV_one _) (by unfold maxLen; omega) (by omega) ?_; intro A5 c5 w6 hr5 hf5 hm5; have HN5 := Lib.hid ((HN9.out.old HF4.out).step hr5 hf5 hm5); clear hr5 hf5 hm5))
              go_roundw
              case rel =>
                refine ⟨k + 1, m + 1, A5, c5, by first | rfl | (go_num; done) | (congr 1; omega), by congr 1; omega, by omega, ⟨by rw [HS2.out, insF_len, HZL.out], ?_⟩⟩
                rw [HS2.out, insF_map, HJ.out, show m + 1 = j + 1 + (m - j) by omega]
                exact ⟨HN5.out.row, HNR.out.fr.trans HN5.out.fr (fun _ _ h => h), fun k hk => Nat.le_trans HNR.out.fr.size (HN5.out.new k hk)⟩
              case measure => (simp [intOf]) <;> omega
          · skip
            go_simp
            refine hK.out _ _ (hHeld.trans ((Fr.refl _ _).alloc _) (fun _ _ h => h)) (fun hHeld => ?_)
            clear hK K
            try change wpAnyH _ _ _ _ _ _ _ (Act.put _ (some 69) _) _
            try simp only [Act.put, List.setIfInBounds_toArray, List.set_cons_zero, List.set_cons_succ]
            refine wpAnyH_ready (rs := [0]) (by kernel_rfl) (by simp) ?_
            refine AllReadyH.cons rfl (fun K hK => ?_) AllReadyH.nil
            go_simp
            refine hK.out _ _ (hHeld.alloc _) (fun hHeld => ?_)
            clear hK K
            try change wpAnyH _ _ _ _ _ _ _ (Act.put _ (some 56) _) _
            try simp only [Act.put, List.setIfInBounds_toArray, List.set_cons_zero, List.set_cons_succ]
            refine wpAnyH_ready (rs := [4]) (by kernel_rfl) (by simp) ?_
            refine AllReadyH.cons rfl (fun K hK => ?_) AllReadyH.nil
            have hN0 := newIC w4 (.cells #[.int .i64 x] 3)
            refine stepOf_appendR teI rfl (.tmp 56) (.tmp 59) rfl _ 0 [] rfl hN0.row (.slice A7 j c7) j ((zs.take j).map IV) rfl (HSA.out _ hN0.fr) (IV_one _) (by unfold maxLen; omega) (by omega) ?_
            intro A8 c8 w8 hr8 hf8 hm8
            have hN8' := hN0.step hr8 hf8 hm8
            simp only [Nat.zero_add, List.nil_append] at hN8' ⊢
            have HN8 := Lib.hid hN8'
            have HSE : Hid (Sl w8 1 (.slice (some ⟨w4.heap.size, 0, none⟩) 1 1) 1 [.int .i64 x]) := Lib.hid (sl1i (Bk.fr (w := ((w4.alloc (.cells #[.int .i64 x] 3)).alloc O0I).drew) ((((Bk.new w4 3 #[.int .i64 x]).alloc O0I)).drew) hf8 (fun e => by have e' : w4.heap.size + 1 = w4.heap.size := (by injection e); omega)))
            clear hN0 hr8 hf8 hm8 hN8'
            refine hK.out _ _ (HN8.out.fr) (fun hHeld => ?_)
            clear hK K
            try change wpAnyH _ _ _ _ _ _ _ (Act.put _ (some 60) _) _
            try simp only [Act.put, List.setIfInBounds_toArray, List.set_cons_zero, List.set_cons_succ]
            refine wpAnyH_ready (rs := [14]) (by kernel_rfl) (by simp) ?_
            refine AllReadyH.cons rfl (fun K hK => ?_) AllReadyH.nil
            have hN8 := HN8.out
            refine stepOf_appendR teI rfl (.tmp 60) (.tmp 69) rfl (.slice A8 j c8) j ((zs.take j).map IV) rfl hN8.row _ 1 [.int .i64 x] rfl HSE.out (fun u hu => by simp at hu; subst hu; rfl) (by unfold maxLen; omega) (by omega) ?_
            intro A9 c9 w9 hr9 hf9 hm9
            have HN9 := Lib.hid (hN8.step hr9 hf9 hm9)
            clear hN8 hr9 hf9 hm9
            refine hK.out _ _ (HN9.out.fr) (fun hHeld => ?_)
            clear hK K
            try change wpAnyH _ _ _ _ _ _ _ (Act.put _ (some 70) _) _
            try simp only [Act.put, List.setIfInBounds_toArray, List.set_cons_zero, List.set_cons_succ]
            refine wpAnyH_takeD (i := 15) (v := ?_) (some 6) rfl rfl (by kernel_rfl) (by kernel_rfl) (by kernel_rfl) (fun _ _ _ h => h) (Or.inl ⟨by rfl, ?_⟩) (by assumption) ?_
            rotate_left
            · intro w' hSw
              go_simp
              first | done | with_reducible rfl
            try simp only [Act.put, List.setIfInBounds_toArray, List.set_cons_zero, List.set_cons_succ]
            refine wpAnyH_done (by kernel_rfl) ?_ _
            have hs2 := HSL2.out
            clear HSL1 HSL2 HSA
            go_wp2_with (at_builtin; (refine wpList_appendR teI rfl (.tmp 71) (.tmp 74) rfl (.slice A9 (j + 1) c9) (j + 1) _ rfl HN9.out.row (.slice A3 (m - j) c3) (m - j) _ rfl (HSB.out _ HN9.out.fr) (IV_one _) (by unfold maxLen; omega) (by omega) ?_; intro A5 c5 w6 hr5 hf5 hm5; have HN5 := Lib.hid ((HN9.out.old HF4.out).step hr5 hf5 hm5); clear hr5 hf5 hm5))
            go_roundw
            case rel =>
              refine ⟨k + 1, m + 1, A5, c5, by first | rfl | (go_num; done) | (congr 1; omega), by congr 1; omega, by omega, ⟨by rw [HS2.out, insF_len, HZL.out], ?_⟩⟩
              rw [HS2.out, insF_map, HJ.out, show m + 1 = j + 1 + (m - j) by omega]
              exact ⟨HN5.out.row, HNR.out.fr.trans HN5.out.fr (fun _ _ h => h), fun k hk => Nat.le_trans HNR.out.fr.size (HN5.out.new k hk)⟩
            case measure => (simp [intOf]) <;> omega
    · obtain rfl : k = n := by omega
      have hlt' : ¬ (k : Int) < (k : Int) := by omega
      clear hlt
      go_wp2
      go_ret
      exact ⟨A1, c1, m, rfl, HK.out.1, HK.out.2⟩
end Go.Proofs.Ytkinbcmnfpkncaa
