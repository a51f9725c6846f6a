/- match at string: Len, Full, Peek, lay, Push, Pop, New. -/
import Derived.Test.YtkinbcmnfpkncaaRc
import Derived.Test.YtkinbcmnfpkncaaGt
import Derived.Test.YtkinbcmnfpkncaaNz
namespace Go.Proofs.Ytkinbcmnfpkncaa
open Go.RowKit Go.Maps

theorem tM_S : Try.prog.underlying 79 = some (.map 3 82) := Try.underlying79
theorem z_S (w : World) : (zeroValue 82).run Try.prog w = .ok (.slice none 0 0) w := by kernel_rfl
theorem te_S : TE Try.prog 82 84 2 24 (.agg #[.int .i64 0, (.string ⟨#[]⟩)]) := ⟨Try.underlying82, by kernel_rfl, rfl, by omega⟩

/-- What a look at a row's head answers. -/
def hd_S : List (Nat × ByteArray) → Array Value
  | [] => #[(.string ⟨#[]⟩), .bool false]
  | p :: _ => #[.string p.2, .bool true]

set_option maxRecDepth 100000 in
set_option maxHeartbeats 2000000 in
theorem len_S {w : World} {g br : Nat} {F : Nat → Prop} {t : MT ByteArray} {D : DV} (h : MtM 81 84 Value.string w g br F t D) {c : Int} (hc : I64 c) :
    Calls Try.prog 26 #[.pointer (some ⟨g, 0, none⟩), .int .i64 c] w fun e w' => e = .returned (.int .i64 ((t.row c).length : Nat)) ∧ w' = w := by
  have q2 : w.cell? ⟨g, 2, none⟩ = some (.map (some br)) := h.blk.cell 2
  obtain ⟨v, hv, hl⟩ := h.look tM_S z_S hc
  have hlk := hl w h.mr
  obtain ⟨A, k, rfl, -, -, -⟩ := hv.row.form
  clear h hv hl
  go_enter Try.func26, Try.ntmps26
  go_wp2
  go_ret
  exact ⟨rfl, rfl⟩

set_option maxRecDepth 100000 in
set_option maxHeartbeats 2000000 in
theorem full_S {w : World} {g br : Nat} {F : Nat → Prop} {t : MT ByteArray} {D : DV} (h : MtM 81 84 Value.string w g br F t D) {c : Int} (hc : I64 c) :
    Calls Try.prog 27 #[.pointer (some ⟨g, 0, none⟩), .int .i64 c] w fun e w' => e = .returned (.bool (t.full c)) ∧ Fr (fun _ => False) w w' := by
  have CL := Lib.hid (fun w' (hf : Fr (fun _ => False) w w') => len_S (h.fr hf (fun _ _ h => h)) hc)
  have HB := Lib.hid h.blk
  obtain ⟨f, hf⟩ : ∃ f, t.full c = f := ⟨_, rfl⟩
  have hge : decide (t.most ≤ ((t.row c).length : Int)) = f := hf
  rw [hf]
  clear h hc hf
  obtain ⟨mm, hmm⟩ : ∃ mm, t.most = mm := ⟨_, rfl⟩
  obtain ⟨ll, hll⟩ : ∃ ll : Int, (((t.row c).length : Nat) : Int) = ll := ⟨_, rfl⟩
  rw [hmm] at hge HB
  rw [hll] at hge CL
  clear hmm hll
  go_enter Try.func27, Try.ntmps27
  go_wp2_with fail
  refine wp_region_held_drew (S := fun w' => Fr (fun _ => False) w w') (by kernel_rfl) ((Fr.refl _ _).drew) (fun hHeld => ?_)
  refine wpAnyH_takeD (i := 0) (v := ?_) (some 5) rfl rfl (by kernel_rfl) (by kernel_rfl) (by kernel_rfl) (fun _ _ _ h => h) (Or.inl ⟨by rfl, ?_⟩) (by assumption) ?_
  rotate_left
  · intro w' hSw
    go_simp
    first | done | with_reducible rfl
  try simp only [Act.put, List.setIfInBounds_toArray, List.set_cons_zero, List.set_cons_succ]
  refine wpAnyH_takeD (i := 1) (v := ?_) (some 6) rfl rfl (by kernel_rfl) (by kernel_rfl) (by kernel_rfl) (fun _ _ _ h => h) (Or.inl ⟨by rfl, ?_⟩) (by assumption) ?_
  rotate_left
  · intro w' hSw
    go_simp
    first | done | with_reducible rfl
  try simp only [Act.put, List.setIfInBounds_toArray, List.set_cons_zero, List.set_cons_succ]
  refine wpAnyH_takeD (i := 3) (v := ?_) (some 8) rfl rfl (by kernel_rfl) (by kernel_rfl) (by kernel_rfl) (fun _ _ _ h => h) (Or.inl ⟨by rfl, ?_⟩) (by assumption) ?_
  rotate_left
  · intro w' hSw
    go_simp
    first | done | with_reducible rfl
  try simp only [Act.put, List.setIfInBounds_toArray, List.set_cons_zero, List.set_cons_succ]
  refine wpAnyH_takeD (i := 4) (v := ?_) (some 9) rfl rfl (by kernel_rfl) (by kernel_rfl) (by kernel_rfl) (fun _ _ _ h => h) (Or.inl ⟨by rfl, ?_⟩) (by assumption) ?_
  rotate_left
  · intro w' hSw
    go_simp
    first | done | with_reducible rfl
  try simp only [Act.put, List.setIfInBounds_toArray, List.set_cons_zero, List.set_cons_succ]
  refine wpAnyH_takeD (i := 5) (v := ?_) (some 10) rfl rfl (by kernel_rfl) (by kernel_rfl) (by kernel_rfl) (fun _ _ _ h => h) (Or.inl ⟨by rfl, ?_⟩) (by assumption) ?_
  rotate_left
  · intro w' hSw
    go_simp
    first | done | with_reducible rfl
  try simp only [Act.put, List.setIfInBounds_toArray, List.set_cons_zero, List.set_cons_succ]
  refine wpAnyH_takeD (i := 6) (v := ?_) (some 11) rfl rfl (by kernel_rfl) (by kernel_rfl) (by kernel_rfl) (fun _ _ _ h => h) (Or.inl ⟨by rfl, ?_⟩) (by assumption) ?_
  rotate_left
  · intro w' hSw
    have q0 := (HB.out.fr hSw (fun h => h)).cell 0
    go_simp
    first | done | with_reducible rfl
  try simp only [Act.put, List.setIfInBounds_toArray, List.set_cons_zero, List.set_cons_succ]
  refine wpAnyH_ready (rs := [2]) (by kernel_rfl) (by simp) ?_
  refine AllReadyH.cons rfl (fun K hK => ?_) AllReadyH.nil
  go_simp
  refine (CL.out _ hHeld).mono ?_; rintro e w1 ⟨rfl, rfl⟩
  try go_simp
  refine hK.out _ _ (hHeld) (fun hHeld => ?_)
  clear hK K
  try change wpAnyH _ _ _ _ _ _ _ (Act.put _ (some 7) _) _
  try simp only [Act.put, List.setIfInBounds_toArray, List.set_cons_zero, List.set_cons_succ]
  refine wpAnyH_takeD (i := 7) (v := ?_) (some 12) rfl rfl (by kernel_rfl) (by kernel_rfl) (by kernel_rfl) (fun _ _ _ h => h) (Or.inl ⟨by rfl, ?_⟩) (by assumption) ?_
  rotate_left
  · intro w' hSw
    go_simp
    first | done | with_reducible rfl
  try simp only [Act.put, List.setIfInBounds_toArray, List.set_cons_zero, List.set_cons_succ]
  refine wpAnyH_takeD (i := 8) (v := ?_) (some 4) rfl rfl (by kernel_rfl) (by kernel_rfl) (by kernel_rfl) (fun _ _ _ h => h) (Or.inl ⟨by rfl, ?_⟩) (by assumption) ?_
  rotate_left
  · intro w' hSw
    go_simp
    first | done | with_reducible rfl
  try simp only [Act.put, List.setIfInBounds_toArray, List.set_cons_zero, List.set_cons_succ]
  refine wpAnyH_done (by kernel_rfl) ?_ _
  have HH := Lib.hid hHeld
  clear hHeld
  go_wp2
  go_ret
  exact ⟨rfl, HH.out⟩

set_option maxRecDepth 100000 in
set_option maxHeartbeats 2000000 in
theorem peek_S {w : World} {g br : Nat} {F : Nat → Prop} {t : MT ByteArray} {D : DV} (h : MtM 81 84 Value.string w g br F t D) {c : Int} (hc : I64 c) :
    Calls Try.prog 25 #[.pointer (some ⟨g, 0, none⟩), .int .i64 c] w fun e w' => e = .returned (.tuple (hd_S (t.row c))) ∧ w' = w := by
  have q2 : w.cell? ⟨g, 2, none⟩ = some (.map (some br)) := h.blk.cell 2
  obtain ⟨v, hv, hl⟩ := h.look tM_S z_S hc
  have hlk := hl w h.mr
  obtain ⟨A, k, rfl, hk, -, hA⟩ := hv.row.form
  have hrow := hv.row
  clear h hv hl
  generalize t.row c = r at *
  cases r with
  | nil =>
    simp only [List.length_nil] at hlk hrow hA hk
    clear hrow hA hk
    go_enter Try.func25, Try.ntmps25
    go_wp2
    go_ret2
    exact ⟨rfl, rfl⟩
  | cons p r =>
    obtain ⟨b, off, rfl⟩ := hA (by simp)
    have q1 : w.cell? ⟨b, off + 1, none⟩ = some (.string p.2) := hrow.cell rfl
    have d0 : decide ((0 : Int) < (((p :: r).length : Nat) : Int)) = true := decide_eq_true (by simp only [List.length_cons]; omega)
    have d1 : ((((p :: r).length : Nat) : Int) == 0) = false := by rw [beq_eq_false_iff_ne]; simp only [List.length_cons]; omega
    have d2 : (0 : Int) < (((p :: r).length : Nat) : Int) := by simp only [List.length_cons]; omega
    generalize (p :: r).length = n at *
    clear hrow hA hk
    go_enter Try.func25, Try.ntmps25
    go_wp2
    go_ret2
    exact ⟨rfl, rfl⟩

set_option maxRecDepth 100000 in
set_option maxHeartbeats 4000000 in
/-- lay: a row that came of this list's own (its place, or a new one), not empty where the list had tasks. -/
theorem lay_S {w w1 : World} {g br : Nat} {F : Nat → Prop} {t : MT ByteArray} {D : DV} (h : MtM 81 84 Value.string w g br F t D) {c : Int} (hc : I64 c) (hp : t.pushed ≤ 1000000) {v v' : Value} (hv : RowOf 84 Value.string w g br F D c (t.row c) v) {r : List (Nat × ByteArray)} (h0 : t.row c = [] → r = [])
    (f1 : Fr (fun k => v.ownBlock = some k) w w1) (hrow : Row w1 84 2 v' r.length (pcs Value.string r)) (hm : Moved w v v') :
    Calls Try.prog 41 #[.pointer (some ⟨g, 0, none⟩), .int .i64 c, v'] w1 fun e w' => (∃ v, e = .returned v) ∧ MtTo 81 84 Value.string w g F w' (t.drop c r) ∧ Fr (fun x => x = br) w1 w' := by
  have hb1 := h.blk.fr f1 (fun e => (hv.own g e).2.1 rfl)
  have hm1 := h.mr.fr f1 (fun e => (hv.own br e).2.2 rfl)
  have q2 : w1.cell? ⟨g, 2, none⟩ = some (.map (some br)) := hb1.cell 2
  have hsz := h.sz
  obtain ⟨A, k, rfl, hk, -, hA⟩ := hrow.form
  cases r with
  | nil =>
    have HDE := Lib.hid (fun ty => hm1.delete kInt tM_S hc.key ty)
    have HEND := Lib.hid (fun w2 hmv f2 => h.gone (w2 := w2) hc hv f1 hmv f2)
    simp only [List.length_nil]
    clear h hv f1 hrow hm hb1 hm1 hA hk h0
    obtain ⟨w2, hrun, hmv, f2⟩ := HDE.out 0
    have hdel : ∀ ty, (Builtin.delete_ #[79, 3] ty #[.map (some br), .int .i64 c]).run Try.prog w1 = .ok (.tuple #[]) w2 := fun ty => by
      rw [← hrun]; rfl
    have HM := Lib.hid hmv
    have HF := Lib.hid f2
    clear hmv f2 hrun HDE
    go_enter Try.func41, Try.ntmps41
    go_wp2
    refine bodyPost_ret (results_none rfl _ _ _) rfl ?_
    exact ⟨⟨_, rfl⟩, HEND.out w2 HM.out HF.out, HF.out⟩
  | cons p r =>
    have hup := Lib.hid (hm1.update kInt tM_S (by omega) hc.key (val := .slice A (p :: r).length k))
    have d1 : ((((p :: r).length : Nat) : Int) == 0) = false := by rw [beq_eq_false_iff_ne]; simp only [List.length_cons]; omega
    have hrc : t.row c ≠ [] := fun e => by have := h0 e; cases this
    obtain ⟨u, hu, _⟩ := h.at_ c hc hrc
    have hz2 := size_put (k := .int .i64 c) (h.mr.tidy kInt) (.held (.slice A (p :: r).length k))
    rw [hu.1, if_pos rfl] at hz2
    have HEND := Lib.hid (fun w2 hmv f2 => h.relay (w2 := w2) (w3 := w2) (r := p :: r) (v' := .slice A (p :: r).length k) hc hv (by simp) f1 hrow hm hmv f2 (p := t.pushed) (by rw [hz2]; exact hsz) ((hb1.fr f2 h.gb)) (Fr.refl _ _))
    generalize (p :: r).length = n at *
    clear h hv f1 hrow hm hb1 hm1 hA hk h0 hz2 hu hrc
    obtain ⟨w2, hrun, hmv, f2⟩ := hup.out
    have HM := Lib.hid hmv
    have HF := Lib.hid f2
    clear hmv f2 hup
    go_enter Try.func41, Try.ntmps41
    go_wp2
    refine bodyPost_end (results_none rfl _ _ _) rfl ?_
    exact ⟨⟨_, rfl⟩, HEND.out w2 HM.out HF.out, HF.out⟩

set_option maxRecDepth 100000 in
set_option maxHeartbeats 4000000 in
theorem push_S {w : World} {g : Nat} {F : Nat → Prop} {t : MT ByteArray} (h : Mt 81 84 Value.string w g F t) (ok : t.ok) (hp : t.pushed ≤ 1000000) {c : Int} (hc : I64 c) {x : ByteArray} (hnf : t.full c = false) :
    Calls Try.prog 23 #[.pointer (some ⟨g, 0, none⟩), .int .i64 c, .string x] w fun e w' => e = .returned (.int .i64 0) ∧ MtTo 81 84 Value.string w g F w' (t.push c x) := by
  obtain ⟨br, D, h⟩ := h
  have CF := Lib.hid (full_S h hc)
  rw [hnf] at CF
  obtain ⟨v, hv, hl⟩ := h.look tM_S z_S hc
  have hsz := h.sz
  have hl63 : (t.row c).length ≤ 65536 := by have := ok.len c; have := ok.m2; omega
  obtain ⟨A, k, rfl, -, -, -⟩ := hv.row.form
  have HL63 := Lib.hid hl63
  have HP := Lib.hid hp
  have HV := Lib.hid hv
  have HL := Lib.hid hl
  have H := Lib.hid h
  have HNG : Hid (¬ (Value.slice A (t.row c).length k).ownBlock = some g) := Lib.hid (fun e => (hv.own g e).2.1 rfl)
  have HNB : Hid (¬ (Value.slice A (t.row c).length k).ownBlock = some br) := Lib.hid (fun e => (hv.own br e).2.2 rfl)
  have HUP : Hid (∀ w' v', MV w' 3 br D → ∃ w2, (Instr.mapUpdate 79 (.map (some br)) (.int .i64 c) v').run Try.prog w' = .ok () w2 ∧ MV w2 3 br (D.put (.int .i64 c) (.held v')) ∧ Fr (fun x => x = br) w' w2) := Lib.hid (fun w' v' hm => hm.update kInt tM_S (by omega) hc.key)
  have HEND : Hid (∀ w1 w2 w3 v', Fr (fun k' => (Value.slice A (t.row c).length k).ownBlock = some k') w w1 → Row w1 84 2 v' ((t.row c).length + 1) (pcs Value.string (t.row c) ++ [.int .i64 t.pushed, .string x]) → Moved w (.slice A (t.row c).length k) v' → MV w2 3 br (D.put (.int .i64 c) (.held v')) → Fr (fun x => x = br) w1 w2 → Bk w3 g 81 #[.int .i64 t.most, .int .i64 ((t.pushed + 1 : Nat) : Int), .map (some br)] → Fr (fun x => x = g) w2 w3 → MtTo 81 84 Value.string w g F w3 (t.push c x)) := Lib.hid (fun w1 w2 w3 v' f1 hr hm hmv f2 hb f3 => by
    have e1 : pcs Value.string (t.row c) ++ [.int .i64 (t.pushed : Int), .string x] = pcs Value.string (t.row c ++ [(t.pushed, x)]) := by rw [pcs_append]; rfl
    have e2 : (t.row c).length + 1 = (t.row c ++ [(t.pushed, x)]).length := by simp
    rw [e1, e2] at hr
    refine h.relay hc hv (by simp) f1 hr hm hmv f2 ?_ hb f3
    have := size_put (k := .int .i64 c) (h.mr.tidy kInt) (.held v')
    split at this <;> omega)
  clear h ok hp hnf hsz hl63 hv hl
  generalize t.row c = r at *
  go_enter Try.func23, Try.ntmps23
  go_wp2_with fail
  refine CF.out.mono ?_; rintro e w0 ⟨rfl, f0⟩
  have HF0 := Lib.hid f0
  have HS0 : Hid (Bk w0 g 81 #[.int .i64 t.most, .int .i64 t.pushed, .map (some br)] ∧ MV w0 3 br D ∧ Row w0 84 2 (.slice A r.length k) r.length (pcs Value.string r)) := Lib.hid ⟨H.out.blk.fr f0 (fun h => h), H.out.mr.fr f0 (fun h => h), HV.out.row.fr0 f0⟩
  clear f0 CF
  have hs0 : (0 : Int) ≤ (t.pushed : Int) := by omega
  go_wp2_with fail
  refine wp_region_Z [19] (fun w' => Fr (fun x => (Value.slice A r.length k).ownBlock = some x) w0 w') (by kernel_rfl) ((Fr.refl _ _).drew) (fun hHeld => ?_)
  refine anyZ_pure (i := 0) (v := ?_) (some 10) rfl rfl (by kernel_rfl) (by kernel_rfl) (by kernel_rfl) (by kernel_rfl) (fun _ _ _ h => h) (Or.inl ⟨by rfl, ?_⟩) (fun _ => hHeld) ?_
  rotate_left
  · intro w' _
    go_simp
    first | done | with_reducible rfl
  try simp only [Act.put, List.setIfInBounds_toArray, List.set_cons_zero, List.set_cons_succ]
  refine anyZ_pure (i := 1) (v := ?_) (some 11) rfl rfl (by kernel_rfl) (by kernel_rfl) (by kernel_rfl) (by kernel_rfl) (fun _ _ _ h => h) (Or.inl ⟨by rfl, ?_⟩) (fun _ => hHeld) ?_
  rotate_left
  · intro w' _
    go_simp
    first | done | with_reducible rfl
  try simp only [Act.put, List.setIfInBounds_toArray, List.set_cons_zero, List.set_cons_succ]
  refine anyZ_pure (i := 2) (v := ?_) (some 12) rfl rfl (by kernel_rfl) (by kernel_rfl) (by kernel_rfl) (by kernel_rfl) (fun _ _ _ h => h) (Or.inl ⟨by rfl, ?_⟩) (fun _ => hHeld) ?_
  rotate_left
  · intro w' _
    go_simp
    first | done | with_reducible rfl
  try simp only [Act.put, List.setIfInBounds_toArray, List.set_cons_zero, List.set_cons_succ]
  refine anyZ_read (i := 3) (v := ?_) (some 13) [19] rfl rfl (by kernel_rfl) (by kernel_rfl) (by kernel_rfl) (by kernel_rfl) (by kernel_rfl) (by kernel_rfl) (fun _ _ _ h => h) (Or.inl ⟨by rfl, ?_⟩) hHeld ?_
  rotate_left
  · intro w' hSw
    have q2 := (HS0.out.1.fr hSw HNG.out).cell 2
    go_simp
    first | done | with_reducible rfl
  try simp only [Act.put, List.setIfInBounds_toArray, List.set_cons_zero, List.set_cons_succ]
  refine anyZ_pure (i := 4) (v := ?_) (some 14) rfl rfl (by kernel_rfl) (by kernel_rfl) (by kernel_rfl) (by kernel_rfl) (fun _ _ _ h => h) (Or.inl ⟨by rfl, ?_⟩) (fun _ => hHeld) ?_
  rotate_left
  · intro w' _
    go_simp
    first | done | with_reducible rfl
  try simp only [Act.put, List.setIfInBounds_toArray, List.set_cons_zero, List.set_cons_succ]
  refine anyZ_pure (i := 5) (v := ?_) (some 15) rfl rfl (by kernel_rfl) (by kernel_rfl) (by kernel_rfl) (by kernel_rfl) (fun _ _ _ h => h) (Or.inl ⟨by rfl, ?_⟩) (fun _ => hHeld) ?_
  rotate_left
  · intro w' _
    go_simp
    first | done | with_reducible rfl
  try simp only [Act.put, List.setIfInBounds_toArray, List.set_cons_zero, List.set_cons_succ]
  refine anyZ_pure (i := 6) (v := ?_) (some 16) rfl rfl (by kernel_rfl) (by kernel_rfl) (by kernel_rfl) (by kernel_rfl) (fun _ _ _ h => h) (Or.inl ⟨by rfl, ?_⟩) (fun _ => hHeld) ?_
  rotate_left
  · intro w' _
    go_simp
    first | done | with_reducible rfl
  try simp only [Act.put, List.setIfInBounds_toArray, List.set_cons_zero, List.set_cons_succ]
  refine anyZ_pure (i := 7) (v := ?_) (some 17) rfl rfl (by kernel_rfl) (by kernel_rfl) (by kernel_rfl) (by kernel_rfl) (fun _ _ _ h => h) (Or.inl ⟨by rfl, ?_⟩) (fun _ => hHeld) ?_
  rotate_left
  · intro w' _
    go_simp
    first | done | with_reducible rfl
  try simp only [Act.put, List.setIfInBounds_toArray, List.set_cons_zero, List.set_cons_succ]
  refine anyZ_read (i := 8) (v := ?_) (some 18) [10, 18, 19] rfl rfl (by kernel_rfl) (by kernel_rfl) (by kernel_rfl) (by kernel_rfl) (by kernel_rfl) (by kernel_rfl) (fun _ _ _ h => h) (Or.inl ⟨by rfl, ?_⟩) hHeld ?_
  rotate_left
  · intro w' hSw
    have q2 := (HS0.out.1.fr hSw HNG.out).cell 2
    go_simp
    first | done | with_reducible rfl
  try simp only [Act.put, List.setIfInBounds_toArray, List.set_cons_zero, List.set_cons_succ]
  refine anyZ_pure (i := 9) (v := ?_) (some 19) rfl rfl (by kernel_rfl) (by kernel_rfl) (by kernel_rfl) (by kernel_rfl) (fun _ _ _ h => h) (Or.inl ⟨by rfl, ?_⟩) (fun _ => hHeld) ?_
  rotate_left
  · intro w' _
    go_simp
    first | done | with_reducible rfl
  try simp only [Act.put, List.setIfInBounds_toArray, List.set_cons_zero, List.set_cons_succ]
  refine anyZ_read (i := 10) (v := ?_) (some 20) [18, 19] rfl rfl (by kernel_rfl) (by kernel_rfl) (by kernel_rfl) (by kernel_rfl) (by kernel_rfl) (by kernel_rfl) (fun _ _ _ h => h) (Or.inl ⟨by rfl, ?_⟩) hHeld ?_
  rotate_left
  · intro w' hSw
    have q1 := HL.out w' (HS0.out.2.1.fr hSw HNB.out)
    go_simp
    first | done | with_reducible rfl
  try simp only [Act.put, List.setIfInBounds_toArray, List.set_cons_zero, List.set_cons_succ]
  refine anyZ_pure (i := 11) (v := ?_) (some 21) rfl rfl (by kernel_rfl) (by kernel_rfl) (by kernel_rfl) (by kernel_rfl) (fun _ _ _ h => h) (Or.inl ⟨by rfl, ?_⟩) (fun _ => hHeld) ?_
  rotate_left
  · intro w' _
    go_simp
    first | done | with_reducible rfl
  try simp only [Act.put, List.setIfInBounds_toArray, List.set_cons_zero, List.set_cons_succ]
  refine anyZ_pure (i := 12) (v := ?_) (some 22) rfl rfl (by kernel_rfl) (by kernel_rfl) (by kernel_rfl) (by kernel_rfl) (fun _ _ _ h => h) (Or.inl ⟨by rfl, ?_⟩) (fun _ => hHeld) ?_
  rotate_left
  · intro w' _
    go_simp
    first | done | with_reducible rfl
  try simp only [Act.put, List.setIfInBounds_toArray, List.set_cons_zero, List.set_cons_succ]
  refine anyZ_pure (i := 13) (v := ?_) (some 23) rfl rfl (by kernel_rfl) (by kernel_rfl) (by kernel_rfl) (by kernel_rfl) (fun _ _ _ h => h) (Or.inl ⟨by rfl, ?_⟩) (fun _ => hHeld) ?_
  rotate_left
  · intro w' _
    go_simp
    first | done | with_reducible rfl
  try simp only [Act.put, List.setIfInBounds_toArray, List.set_cons_zero, List.set_cons_succ]
  refine anyZ_read (i := 14) (v := ?_) (some 24) [16, 17, 18, 19] rfl rfl (by kernel_rfl) (by kernel_rfl) (by kernel_rfl) (by kernel_rfl) (by kernel_rfl) (by kernel_rfl) (fun _ _ _ h => h) (Or.inl ⟨by rfl, ?_⟩) hHeld ?_
  rotate_left
  · intro w' hSw
    have q1 := (HS0.out.1.fr hSw HNG.out).cell 1
    go_simp
    first | done | with_reducible rfl
  try simp only [Act.put, List.setIfInBounds_toArray, List.set_cons_zero, List.set_cons_succ]
  refine anyZ_pure (i := 15) (v := ?_) (some 25) rfl rfl (by kernel_rfl) (by kernel_rfl) (by kernel_rfl) (by kernel_rfl) (fun _ _ _ h => h) (Or.inl ⟨by rfl, ?_⟩) (fun _ => hHeld) ?_
  rotate_left
  · intro w' _
    go_simp
    first | done | with_reducible rfl
  try simp only [Act.put, List.setIfInBounds_toArray, List.set_cons_zero, List.set_cons_succ]
  refine anyZ_pure (i := 16) (v := ?_) (some 26) rfl rfl (by kernel_rfl) (by kernel_rfl) (by kernel_rfl) (by kernel_rfl) (fun _ _ _ h => h) (Or.inl ⟨by rfl, ?_⟩) (fun _ => hHeld) ?_
  rotate_left
  · intro w' _
    go_simp
    first | done | with_reducible rfl
  try simp only [Act.put, List.setIfInBounds_toArray, List.set_cons_zero, List.set_cons_succ]
  refine anyZ_ready (rs := [17]) (by kernel_rfl) (by simp) ?_
  refine AllZ.step rfl (fun K hK => ?_) AllZ.nil
  go_simp
  refine hK.out _ _ (hHeld.alloc _) (fun hHeld => ?_)
  clear hK K
  try change anyZ _ _ _ _ _ _ _ _ (Act.put _ (some 27) _) _
  try simp only [Act.put, List.setIfInBounds_toArray, List.set_cons_zero, List.set_cons_succ]
  refine anyZ_ready (rs := [18]) (by kernel_rfl) (by simp) ?_
  refine AllZ.step rfl (fun K hK => ?_) AllZ.nil
  have hrow := HS0.out.2.2
  refine stepOf_appendR te_S rfl (.tmp 20) (.tmp 27) rfl (.slice A r.length k) r.length (pcs Value.string r) rfl (hrow.fr0 (by first | exact ((Fr.refl _ _).alloc _).drew | exact ((Fr.refl _ _).drew).alloc _)) _ 1 [.int .i64 t.pushed, .string x] rfl (Sl.at rfl rfl (fun j u hj => by rw [Nat.zero_add]; first | (rw [((Bk.new w0 _ _).drew).cell]; simpa [IV] using hj) | (rw [(Bk.new w0.drew _ _).cell]; simpa [IV] using hj) | (rw [(Bk.new w0 _ _).cell]; simpa [IV] using hj))) (fun u hu => by simp at hu; rcases hu with rfl | rfl <;> rfl) (by have := HL63.out; unfold maxLen; omega) (by have := HL63.out; omega) ?_
  intro A3 c3 w3 hr3 hf3 hm3
  have f3 := hHeld.trans hf3 (fun _ _ h => h)
  have HR3 := Lib.hid hr3
  have F3 := Lib.hid f3
  have HM3 : Hid (Moved w0 (.slice A r.length k) (.slice A3 (r.length + 1) c3)) := Lib.hid (hm3.imp id (fun ⟨k, e, hk⟩ => ⟨k, e, Nat.le_trans hHeld.size hk⟩))
  clear hr3 hf3 hm3 hrow f3
  refine hK.out _ _ (F3.out) (fun hHeld => ?_)
  clear hK K
  try change anyZ _ _ _ _ _ _ _ _ (Act.put _ (some 28) _) _
  try simp only [Act.put, List.setIfInBounds_toArray, List.set_cons_zero, List.set_cons_succ]
  refine anyZ_ready (rs := [19]) (by kernel_rfl) (by simp) ?_
  refine AllZ.last rfl (by kernel_rfl) (fun K hK => ?_) AllZ.nil
  obtain ⟨w5, hrun, hmv, f5⟩ := HUP.out w3 (.slice A3 (r.length + 1) c3) (HS0.out.2.1.fr F3.out HNB.out)
  go_simp
  have HMV := Lib.hid hmv
  have F5 := Lib.hid f5
  clear hmv f5 hrun hHeld
  refine hK.out _ _ ?_
  clear hK K
  try change anyZ _ _ _ _ _ _ _ _ (Act.put _ none _) _
  try simp only [Act.put, List.setIfInBounds_toArray, List.set_cons_zero, List.set_cons_succ]
  refine anyZ_done (by kernel_rfl) ?_ _
  have hb5 := (HS0.out.1.fr F3.out HNG.out).fr F5.out H.out.gb
  have q1 : w5.cell? ⟨g, 1, none⟩ = some (.int .i64 (t.pushed : Int)) := hb5.cell 1
  have z1 := hb5.frozen 1
  have hw1 : IntKind.wrap .i64 ((t.pushed : Int) + 1) = (t.pushed : Int) + 1 := by have := HP.out; simp only [IntKind.wrap_i64]; omega
  have hb6 : Bk (w5.setCell ⟨g, 1, none⟩ (.int .i64 ((t.pushed : Int) + 1))) g 81 #[.int .i64 t.most, .int .i64 ((t.pushed + 1 : Nat) : Int), .map (some br)] := by have := hb5.set 1 (.int .i64 ((t.pushed : Int) + 1)); simpa using this
  have f6 : Fr (fun x => x = g) w5 (w5.setCell ⟨g, 1, none⟩ (.int .i64 ((t.pushed : Int) + 1))) := Fr.setCell (S := fun x => x = g) (p := ⟨g, 1, none⟩) (Fr.refl _ _) (fun _ => rfl) _
  have HFIN := Lib.hid (HEND.out w3 w5 _ _ ((HF0.out.mono (fun _ _ h => h.elim)).trans F3.out (fun _ _ h => h)) HR3.out (HM3.out.imp id (fun ⟨k, e, hk⟩ => ⟨k, e, Nat.le_trans HF0.out.size hk⟩)) HMV.out F5.out hb6 f6)
  clear hb5 hb6 f6 HEND HUP
  go_wp2
  go_ret
  exact ⟨rfl, HFIN.out⟩

end Go.Proofs.Ytkinbcmnfpkncaa
