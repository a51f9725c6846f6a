/- match: looks: both tell the same. -/
import Derived.Test.YtkinbcmnfpkncaaSf
namespace Go.Proofs.Ytkinbcmnfpkncaa
open Go.RowKit Go.Maps Go.Shelf

attribute [local go_sem] Oper.semAt_some

theorem resB {fn : Func} {p : Tmp} (h : fn.results = #[.cell p 4]) (tmps : Array Value) (w : World) (b : Nat) (x : Bool) (hp : tmps.getD p undef = .pointer (some ⟨b, 0, none⟩)) (hb : w.cell? ⟨b, 0, none⟩ = some (.bool x)) :
    (results fn tmps).run Try.prog w = .ok (.bool x) w := by
  have h2 : (loadVar 4 ⟨b, 0, none⟩).run Try.prog w = .ok (.bool x) w := by go_simp
  have hp2 : tmps[p]?.getD undef = .pointer (some ⟨b, 0, none⟩) := by simpa using hp
  simp [results, h, asAddr, hp2, h2]

/-- Where nothing panics. -/
def postNP (Q : Exit → Go.Act → World → Prop) : Exit → Go.Act → World → Prop
  | .normal, a, w => Q .normal a w
  | .ret, a, w => Q .ret a w
  | _, _, _ => False
theorem noPanic {F : Fence} {n : Nat} {Q : Exit → Go.Act → World → Prop} {c : Code} {a : Go.Act} {w : World} (h : c.wpIn F n Try.prog (postNP Q) a w) : c.wpIn F n Try.prog Q a w :=
  wpIn_mono h (fun e a w q => by cases e <;> first | exact q | exact q.elim)

theorem range_gives2 {α : Type} {n : Nat} {g : Operand} {ps : Array Tmp} {assign body : Code} {Q : Exit → Go.Act → World → Prop} {a : Go.Act} {w : World} (h1 : 1 ≤ n) {gf : Nat} {lb : Array Value} (hg : a.eval g = .func (.func gf) #[] lb)
    (eg : ∀ args w, (callFunc gf args).run Try.prog w = .ok (.enter gf args) w) {encs : α → Array Value} {Kp : World → World → Prop} {S : List α → Prop} {Nx : List α → α → Prop} {w0 : World} (hseq : Gives (n - 1) gf lb encs Kp S Nx w0) (hb0 : Below w0.heap.size w0 w)
    (hKr : ∀ A, Kp A A) (hKt : ∀ {A B C : World}, Kp A B → Kp B C → Kp A C) (hKb : ∀ (W : World) (l : Nat) (o o' : Obj), w.heap.size ≤ l → W.heap[l]? = some o → o.isCells = false → Kp W (W.putObj l o')) (hps : ∀ x, (encs x).size = ps.size)
    (I : List α → World → Prop) (hI : OwnFrom w.heap.size I) (h0 : I [] w) (fa : Go.Act → α → Go.Act)
    (hassign : ∀ (l : Nat) (x : α) (W : World) (K : Go.Act → World → Prop), K (fa { tmps := (ps.zip (encs x)).foldl (fun t (p, v) => t.setIfInBounds p v) a.tmps, defers := [] } x) W → assign.wpIn (Fence.wide.inRound l) (n - 1 - 1) Try.prog (Exit.then K (fun _ _ _ => False)) { tmps := (ps.zip (encs x)).foldl (fun t (p, v) => t.setIfInBounds p v) a.tmps, defers := [] } W)
    (hbody : ∀ (l : Nat) (pre : List α) (x : α) (W : World), I pre W → Nx pre x → body.wpIn (Fence.wide.inRound l) (n - 1 - 1) Try.prog (goesOn w.heap.size Kp I (pre ++ [x]) W) (fa { tmps := (ps.zip (encs x)).foldl (fun t (p, v) => t.setIfInBounds p v) a.tmps, defers := [] } x) W)
    (hdone : ∀ (D : Nat) (xs : List α) (W : World), w.heap.size ≤ D → S xs → I xs W → W.heap[D]? = some (.deferred (some [])) → Q .normal { a with defers := { target := .collected D, args := #[] } :: a.defers } W) :
    (Code.rangeFunc g ps assign body).wpIn Fence.wide n Try.prog Q a w :=
  range_gives h1 hg eg hseq hb0 hKt hKb hps I hI h0 (fun x a' _ => a' = fa { tmps := (ps.zip (encs x)).foldl (fun t (p, v) => t.setIfInBounds p v) a.tmps, defers := [] } x) (fun _ _ _ _ _ h _ _ => h)
    (fun l pre x W K hi hK => hassign l x W K (hK _ W (KeepsFrom.refl _ _) (hKr W) hi rfl))
    (fun l pre x a' W hi he hn => by rw [he]; exact hbody l pre x W hi hn) hdone

set_option maxRecDepth 100000 in
set_option maxHeartbeats 8000000 in
theorem looks_any {w0 w : World} {gm gr : Nat} {t : MT Int} {most : Int} {L : List (Int × Int)} (h : PB w0 w gm gr t most L) (hs : Same t most L) (ok : t.ok) (hp : t.pushed ≤ 1000000) {c : Int} (hc : I64 c) :
    Calls Try.prog 18 #[.pointer (some ⟨gm, 0, none⟩), .pointer (some ⟨gr, 0, none⟩), .int .i64 c] w fun e w' => e = .returned (.bool true) ∧ Fr (fun _ => False) w w' := by
  obtain ⟨F1, F2, ⟨br, D, hm⟩, ⟨v, hr⟩, -, -, -, -⟩ := h
  obtain ⟨pv, pb, hpv⟩ : ∃ pv pb, hd_I (t.row c) = #[.int .i64 pv, .bool pb] := by
    cases t.row c with
    | nil => exact ⟨_, _, rfl⟩
    | cons a r => exact ⟨_, _, rfl⟩
  have CP : Hid (∀ w', Fr (fun _ => False) w w' → Calls Try.prog 29 #[.pointer (some ⟨gm, 0, none⟩), .int .i64 c] w' fun e w'' => e = .returned (.tuple #[.int .i64 pv, .bool pb]) ∧ w'' = w') := Lib.hid (fun w' hf => by rw [← hpv]; exact peek_I (hm.fr hf (fun _ _ h => h)) hc)
  have CRP : Hid (∀ w', Fr (fun _ => False) w w' → Calls Try.prog 35 #[.pointer (some ⟨gr, 0, none⟩), .int .i64 c] w' fun e w'' => e = .returned (.tuple #[.int .i64 pv, .bool pb]) ∧ w'' = w') := Lib.hid (fun w' hf => by rw [← hpv, hs.hd hc]; exact rpeek_any (hr.fr0 hf) c)
  have CN := Lib.hid (fun w' (hf : Fr (fun _ => False) w w') => names_I (hm.fr hf (fun _ _ h => h)) hp)
  have CRN := Lib.hid (fun w' (hf : Fr (fun _ => False) w w') => rnames_any (hr.fr0 hf))
  obtain ⟨n1, hn1⟩ : ∃ n1, cntL L c = n1 := ⟨_, rfl⟩
  obtain ⟨f, hfu⟩ : ∃ f, decide (most ≤ (n1 : Int)) = f := ⟨_, rfl⟩
  have CL : Hid (∀ w', Fr (fun _ => False) w w' → Calls Try.prog 19 #[.pointer (some ⟨gm, 0, none⟩), .int .i64 c] w' fun e w'' => e = .returned (.int .i64 (n1 : Nat)) ∧ w'' = w') := Lib.hid (fun w' hf => by rw [← hn1, ← hs.len hc]; exact len_I (hm.fr hf (fun _ _ h => h)) hc)
  have CRL : Hid (∀ w', Fr (fun _ => False) w w' → Calls Try.prog 16 #[.pointer (some ⟨gr, 0, none⟩), .int .i64 c] w' fun e w'' => e = .returned (.int .i64 (n1 : Nat)) ∧ w'' = w') := Lib.hid (fun w' hf => by rw [← hn1]; exact rlen_any (hr.fr0 hf) c)
  have CF : Hid (∀ w', Fr (fun _ => False) w w' → Calls Try.prog 28 #[.pointer (some ⟨gm, 0, none⟩), .int .i64 c] w' fun e w'' => e = .returned (.bool f) ∧ Fr (fun _ => False) w' w'') := Lib.hid (fun w' hf => by
    have e : t.full c = f := by rw [← hfu, ← hn1, ← hs.len hc, ← hs.ms]; rfl
    rw [← e]; exact full_I (hm.fr hf (fun _ _ h => h)) hc)
  have CRA := Lib.hid (fun w' (hf : Fr (fun _ => False) w w') => rall_any (hr.fr0 hf))
  have CA := Lib.hid (fun w' (hf : Fr (fun _ => False) w w') => all_I (hm.fr hf (fun _ _ h => h)) ok hp)
  have HRM : Hid (∀ w', Fr (fun _ => False) w w' → w'.cell? ⟨gr, 0, none⟩ = some (.int .i64 most)) := Lib.hid (fun w' hf => (hr.fr0 hf).blk.cell 0)
  have HS := Lib.hid hs
  have HP := Lib.hid hp
  have HLEN : Hid ((allL L (nmL L L.length)).length ≤ 1000000) := Lib.hid (Nat.le_trans (allL_len L _ ((nmL_rise L L.length).imp (fun h e => by omega))) hr.ll)
  have HRL : Hid (∀ x, (t.row x).length ≤ 1048576) := Lib.hid (fun x => by have := ok.len x; have := ok.m2; omega)
  obtain ⟨W1, hW1⟩ : ∃ W1, w.alloc (.cells #[.bool false] 4) = W1 := ⟨_, rfl⟩
  obtain ⟨b6, hb6⟩ : ∃ b6, w.heap.size = b6 := ⟨_, rfl⟩
  have HF1 : Hid (Fr (fun _ => False) w W1) := Lib.hid (by rw [← hW1]; exact (Fr.refl _ _).alloc _)
  have HB6 : Hid (Bk W1 b6 4 #[.bool false]) := Lib.hid (by rw [← hW1, ← hb6]; exact Bk.new _ _ _)
  have HSZ := Lib.hid hb6
  clear hm hr hs ok hp hc hpv hn1
  refine (callsIn_wide (n := 9)).1 ?_
  refine callsIn_of_wp_marks Try.func18 rfl trivial ?_ rfl
  refine noPanic ?_
  refine wpIn_wide.2 ?_
  simp only [Try.ntmps18, List.size_toArray, List.length_cons, List.length_nil, Nat.reduceAdd, Nat.reduceSub, Array.replicate_succ, Array.replicate_zero, List.push_toArray, List.append_toArray, List.nil_append, List.cons_append]
  go_wp2_with fail
  clear hW1 hb6
  refine (CP.out _ HF1.out).mono ?_; rintro e w2 ⟨rfl, rfl⟩
  go_wp2_with fail
  refine (CRP.out _ HF1.out).mono ?_; rintro e w2 ⟨rfl, rfl⟩
  go_wp2_with fail
  refine (CN.out _ HF1.out).mono ?_; rintro e w3 ⟨vn, ns, rfl, hri, hnew, hf3, hns⟩
  obtain ⟨nl, hnl⟩ : ∃ nl, ns.length = nl := ⟨_, rfl⟩
  obtain ⟨A3, c3, rfl, -, -, hA3⟩ := Row.form hri
  have HNS := Lib.hid hns
  have HNL := Lib.hid hnl
  have HZL : Hid (nl ≤ 1000000) := Lib.hid (by rw [← hnl]; exact Nat.le_trans hns.2.2 HP.out)
  have HF3 : Hid (Fr (fun _ => False) w w3) := Lib.hid (HF1.out.trans hf3 (fun _ _ h => h))
  have HF13 := Lib.hid hf3
  have HN3 : Hid (∀ i (hi : i < ns.length), ∃ b o, A3 = some ⟨b, o, none⟩ ∧ ∀ w', Fr (fun _ => False) w3 w' → w'.cell? ⟨b, o + i, none⟩ = some (.int .i64 (ns[i]'hi))) := Lib.hid (fun i hi => by
    obtain ⟨b, o, rfl⟩ := hA3 (by omega)
    exact ⟨b, o, rfl, fun w' hf => Row.cell (Row.fr0 hri hf) (by rw [List.getElem?_map, List.getElem?_eq_getElem hi]; rfl)⟩)
  rw [hnl]
  clear hri hnew hf3 hns hA3 CP CRP CN hnl
  go_wp2_with fail
  refine (CRN.out _ HF3.out).mono ?_; rintro e w4 ⟨A4, c4, m4, rfl, hm4, hnw⟩
  rw [HS.out.names HNS.out] at hm4 hnw
  obtain rfl : nl = m4 := by rw [← hm4]; exact HNL.out.symm
  obtain ⟨A4', c4', e, -, -, hA4⟩ := Row.form hnw.row
  injection e with e1 _ _
  subst e1
  have HF34 : Hid (Fr (fun _ => False) w3 w4) := Lib.hid hnw.fr
  have HF4 : Hid (Fr (fun _ => False) w w4) := Lib.hid (HF3.out.trans hnw.fr (fun _ _ h => h))
  have HN4 : Hid (∀ i (hi : i < ns.length), ∃ b o, A4 = some ⟨b, o, none⟩ ∧ ∀ w', Fr (fun _ => False) w4 w' → w'.cell? ⟨b, o + i, none⟩ = some (.int .i64 (ns[i]'hi))) := Lib.hid (fun i hi => by
    obtain ⟨b, o, rfl⟩ := hA4 (by omega)
    exact ⟨b, o, rfl, fun w' hf => Row.cell (Row.fr0 hnw.row hf) (by rw [List.getElem?_map, List.getElem?_eq_getElem hi]; rfl)⟩)
  clear hm4 hnw hA4 CRN
  go_wp2_with fail
  refine wp_region_held_drew (S := fun w' => Fr (fun _ => False) w4 w') (by kernel_rfl) ((Fr.refl _ _).drew) (fun hHeld => ?_)
  refine wpAnyH_takeD (i := 0) (v := ?_) (some 34) rfl rfl (by kernel_rfl) (by kernel_rfl) (by kernel_rfl) (fun _ _ _ h => h) (Or.inl ⟨by rfl, ?_⟩) (by assumption) ?_
  rotate_left
  · intro w' hSw
    go_simp
    first | done | with_reducible rfl
  try simp only [Act.put, List.setIfInBounds_toArray, List.set_cons_zero, List.set_cons_succ]
  refine wpAnyH_takeD (i := 1) (v := ?_) (some 35) rfl rfl (by kernel_rfl) (by kernel_rfl) (by kernel_rfl) (fun _ _ _ h => h) (Or.inl ⟨by rfl, ?_⟩) (by assumption) ?_
  rotate_left
  · intro w' hSw
    go_simp
    first | done | with_reducible rfl
  try simp only [Act.put, List.setIfInBounds_toArray, List.set_cons_zero, List.set_cons_succ]
  refine wpAnyH_takeD (i := 2) (v := ?_) (some 36) rfl rfl (by kernel_rfl) (by kernel_rfl) (by kernel_rfl) (fun _ _ _ h => h) (Or.inl ⟨by rfl, ?_⟩) (by assumption) ?_
  rotate_left
  · intro w' hSw
    go_simp
    first | done | with_reducible rfl
  try simp only [Act.put, List.setIfInBounds_toArray, List.set_cons_zero, List.set_cons_succ]
  refine wpAnyH_takeD (i := 3) (v := ?_) (some 37) rfl rfl (by kernel_rfl) (by kernel_rfl) (by kernel_rfl) (fun _ _ _ h => h) (Or.inl ⟨by rfl, ?_⟩) (by assumption) ?_
  rotate_left
  · intro w' hSw
    go_simp
    first | done | with_reducible rfl
  try simp only [Act.put, List.setIfInBounds_toArray, List.set_cons_zero, List.set_cons_succ]
  refine wpAnyH_takeD (i := 4) (v := ?_) (some 38) rfl rfl (by kernel_rfl) (by kernel_rfl) (by kernel_rfl) (fun _ _ _ h => h) (Or.inl ⟨by rfl, ?_⟩) (by assumption) ?_
  rotate_left
  · intro w' hSw
    go_simp
    first | done | with_reducible rfl
  try simp only [Act.put, List.setIfInBounds_toArray, List.set_cons_zero, List.set_cons_succ]
  refine wpAnyH_takeD (i := 5) (v := ?_) (some 39) rfl rfl (by kernel_rfl) (by kernel_rfl) (by kernel_rfl) (fun _ _ _ h => h) (Or.inl ⟨by rfl, ?_⟩) (by assumption) ?_
  rotate_left
  · intro w' hSw
    go_simp
    first | done | with_reducible rfl
  try simp only [Act.put, List.setIfInBounds_toArray, List.set_cons_zero, List.set_cons_succ]
  refine wpAnyH_takeD (i := 6) (v := ?_) (some 40) rfl rfl (by kernel_rfl) (by kernel_rfl) (by kernel_rfl) (fun _ _ _ h => h) (Or.inl ⟨by rfl, ?_⟩) (by assumption) ?_
  rotate_left
  · intro w' hSw
    go_simp
    first | done | with_reducible rfl
  try simp only [Act.put, List.setIfInBounds_toArray, List.set_cons_zero, List.set_cons_succ]
  refine wpAnyH_takeD (i := 7) (v := ?_) (some 41) rfl rfl (by kernel_rfl) (by kernel_rfl) (by kernel_rfl) (fun _ _ _ h => h) (Or.inl ⟨by rfl, ?_⟩) (by assumption) ?_
  rotate_left
  · intro w' hSw
    go_simp
    first | done | with_reducible rfl
  try simp only [Act.put, List.setIfInBounds_toArray, List.set_cons_zero, List.set_cons_succ]
  refine wpAnyH_takeD (i := 8) (v := ?_) (some 42) rfl rfl (by kernel_rfl) (by kernel_rfl) (by kernel_rfl) (fun _ _ _ h => h) (Or.inl ⟨by rfl, ?_⟩) (by assumption) ?_
  rotate_left
  · intro w' hSw
    go_simp
    first | done | with_reducible rfl
  try simp only [Act.put, List.setIfInBounds_toArray, List.set_cons_zero, List.set_cons_succ]
  refine wpAnyH_takeD (i := 9) (v := ?_) (some 43) rfl rfl (by kernel_rfl) (by kernel_rfl) (by kernel_rfl) (fun _ _ _ h => h) (Or.inl ⟨by rfl, ?_⟩) (by assumption) ?_
  rotate_left
  · intro w' hSw
    go_simp
    first | done | with_reducible rfl
  try simp only [Act.put, List.setIfInBounds_toArray, List.set_cons_zero, List.set_cons_succ]
  refine wpAnyH_takeD (i := 10) (v := ?_) (some 44) rfl rfl (by kernel_rfl) (by kernel_rfl) (by kernel_rfl) (fun _ _ _ h => h) (Or.inl ⟨by rfl, ?_⟩) (by assumption) ?_
  rotate_left
  · intro w' hSw
    go_simp
    first | done | with_reducible rfl
  try simp only [Act.put, List.setIfInBounds_toArray, List.set_cons_zero, List.set_cons_succ]
  refine wpAnyH_takeD (i := 12) (v := ?_) (some 46) rfl rfl (by kernel_rfl) (by kernel_rfl) (by kernel_rfl) (fun _ _ _ h => h) (Or.inl ⟨by rfl, ?_⟩) (by assumption) ?_
  rotate_left
  · intro w' hSw
    go_simp
    first | done | with_reducible rfl
  try simp only [Act.put, List.setIfInBounds_toArray, List.set_cons_zero, List.set_cons_succ]
  refine wpAnyH_takeD (i := 13) (v := ?_) (some 47) rfl rfl (by kernel_rfl) (by kernel_rfl) (by kernel_rfl) (fun _ _ _ h => h) (Or.inl ⟨by rfl, ?_⟩) (by assumption) ?_
  rotate_left
  · intro w' hSw
    go_simp
    first | done | with_reducible rfl
  try simp only [Act.put, List.setIfInBounds_toArray, List.set_cons_zero, List.set_cons_succ]
  refine wpAnyH_ready (rs := [11]) (by kernel_rfl) (by simp) ?_
  refine AllReadyH.cons rfl (fun K hK => ?_) AllReadyH.nil
  go_simp
  refine (CL.out _ (HF4.out.trans hHeld (fun _ _ h => h))).mono ?_; rintro e wx ⟨rfl, rfl⟩
  try go_simp
  refine hK.out _ _ (hHeld) (fun hHeld => ?_)
  clear hK K
  try change wpAnyH _ _ _ _ _ _ _ (Act.put _ (some 45) _) _
  try simp only [Act.put, List.setIfInBounds_toArray, List.set_cons_zero, List.set_cons_succ]
  refine wpAnyH_ready (rs := [14]) (by kernel_rfl) (by simp) ?_
  refine AllReadyH.cons rfl (fun K hK => ?_) AllReadyH.nil
  go_simp
  refine (CRL.out _ (HF4.out.trans hHeld (fun _ _ h => h))).mono ?_; rintro e wx ⟨rfl, rfl⟩
  try go_simp
  refine hK.out _ _ (hHeld) (fun hHeld => ?_)
  clear hK K
  try change wpAnyH _ _ _ _ _ _ _ (Act.put _ (some 48) _) _
  try simp only [Act.put, List.setIfInBounds_toArray, List.set_cons_zero, List.set_cons_succ]
  refine wpAnyH_takeD (i := 15) (v := ?_) (some 49) rfl rfl (by kernel_rfl) (by kernel_rfl) (by kernel_rfl) (fun _ _ _ h => h) (Or.inl ⟨by rfl, ?_⟩) (by assumption) ?_
  rotate_left
  · intro w' hSw
    go_simp
    first | done | with_reducible rfl
  try simp only [Act.put, List.setIfInBounds_toArray, List.set_cons_zero, List.set_cons_succ]
  refine wpAnyH_takeD (i := 16) (v := ?_) (some 50) rfl rfl (by kernel_rfl) (by kernel_rfl) (by kernel_rfl) (fun _ _ _ h => h) (Or.inl ⟨by rfl, ?_⟩) (by assumption) ?_
  rotate_left
  · intro w' hSw
    go_simp
    first | done | with_reducible rfl
  try simp only [Act.put, List.setIfInBounds_toArray, List.set_cons_zero, List.set_cons_succ]
  refine wpAnyH_takeD (i := 17) (v := ?_) (some 51) rfl rfl (by kernel_rfl) (by kernel_rfl) (by kernel_rfl) (fun _ _ _ h => h) (Or.inl ⟨by rfl, ?_⟩) (by assumption) ?_
  rotate_left
  · intro w' hSw
    go_simp
    first | done | with_reducible rfl
  try simp only [Act.put, List.setIfInBounds_toArray, List.set_cons_zero, List.set_cons_succ]
  refine wpAnyH_takeD (i := 18) (v := ?_) (some 52) rfl rfl (by kernel_rfl) (by kernel_rfl) (by kernel_rfl) (fun _ _ _ h => h) (Or.inl ⟨by rfl, ?_⟩) (by assumption) ?_
  rotate_left
  · intro w' hSw
    go_simp
    first | done | with_reducible rfl
  try simp only [Act.put, List.setIfInBounds_toArray, List.set_cons_zero, List.set_cons_succ]
  refine wpAnyH_takeD (i := 19) (v := ?_) (some 53) rfl rfl (by kernel_rfl) (by kernel_rfl) (by kernel_rfl) (fun _ _ _ h => h) (Or.inl ⟨by rfl, ?_⟩) (by assumption) ?_
  rotate_left
  · intro w' hSw
    go_simp
    first | done | with_reducible rfl
  try simp only [Act.put, List.setIfInBounds_toArray, List.set_cons_zero, List.set_cons_succ]
  refine wpAnyH_takeD (i := 21) (v := ?_) (some 55) rfl rfl (by kernel_rfl) (by kernel_rfl) (by kernel_rfl) (fun _ _ _ h => h) (Or.inl ⟨by rfl, ?_⟩) (by assumption) ?_
  rotate_left
  · intro w' hSw
    go_simp
    first | done | with_reducible rfl
  try simp only [Act.put, List.setIfInBounds_toArray, List.set_cons_zero, List.set_cons_succ]
  refine wpAnyH_takeD (i := 22) (v := ?_) (some 56) rfl rfl (by kernel_rfl) (by kernel_rfl) (by kernel_rfl) (fun _ _ _ h => h) (Or.inl ⟨by rfl, ?_⟩) (by assumption) ?_
  rotate_left
  · intro w' hSw
    go_simp
    first | done | with_reducible rfl
  try simp only [Act.put, List.setIfInBounds_toArray, List.set_cons_zero, List.set_cons_succ]
  refine wpAnyH_takeD (i := 24) (v := ?_) (some 58) rfl rfl (by kernel_rfl) (by kernel_rfl) (by kernel_rfl) (fun _ _ _ h => h) (Or.inl ⟨by rfl, ?_⟩) (by assumption) ?_
  rotate_left
  · intro w' hSw
    go_simp
    first | done | with_reducible rfl
  try simp only [Act.put, List.setIfInBounds_toArray, List.set_cons_zero, List.set_cons_succ]
  refine wpAnyH_takeD (i := 25) (v := ?_) (some 59) rfl rfl (by kernel_rfl) (by kernel_rfl) (by kernel_rfl) (fun _ _ _ h => h) (Or.inl ⟨by rfl, ?_⟩) (by assumption) ?_
  rotate_left
  · intro w' hSw
    go_simp
    first | done | with_reducible rfl
  try simp only [Act.put, List.setIfInBounds_toArray, List.set_cons_zero, List.set_cons_succ]
  refine wpAnyH_takeD (i := 26) (v := ?_) (some 60) rfl rfl (by kernel_rfl) (by kernel_rfl) (by kernel_rfl) (fun _ _ _ h => h) (Or.inl ⟨by rfl, ?_⟩) (by assumption) ?_
  rotate_left
  · intro w' hSw
    go_simp
    first | done | with_reducible rfl
  try simp only [Act.put, List.setIfInBounds_toArray, List.set_cons_zero, List.set_cons_succ]
  refine wpAnyH_takeD (i := 27) (v := ?_) (some 61) rfl rfl (by kernel_rfl) (by kernel_rfl) (by kernel_rfl) (fun _ _ _ h => h) (Or.inl ⟨by rfl, ?_⟩) (by assumption) ?_
  rotate_left
  · intro w' hSw
    have cm := HRM.out w' (HF4.out.trans hSw (fun _ _ h => h))
    go_simp
    first | done | with_reducible rfl
  try simp only [Act.put, List.setIfInBounds_toArray, List.set_cons_zero, List.set_cons_succ]
  refine wpAnyH_ready (rs := [20]) (by kernel_rfl) (by simp) ?_
  refine AllReadyH.cons rfl (fun K hK => ?_) AllReadyH.nil
  go_simp
  refine (CF.out _ (HF4.out.trans hHeld (fun _ _ h => h))).mono ?_; rintro e wx ⟨rfl, hfx⟩
  try go_simp
  refine hK.out _ _ (hHeld.trans hfx (fun _ _ h => h)) (fun hHeld => ?_)
  clear hK K
  try change wpAnyH _ _ _ _ _ _ _ (Act.put _ (some 54) _) _
  try simp only [Act.put, List.setIfInBounds_toArray, List.set_cons_zero, List.set_cons_succ]
  refine wpAnyH_ready (rs := [23]) (by kernel_rfl) (by simp) ?_
  refine AllReadyH.cons rfl (fun K hK => ?_) AllReadyH.nil
  go_simp
  refine (CRL.out _ (HF4.out.trans hHeld (fun _ _ h => h))).mono ?_; rintro e wx ⟨rfl, rfl⟩
  try go_simp
  refine hK.out _ _ (hHeld) (fun hHeld => ?_)
  clear hK K
  try change wpAnyH _ _ _ _ _ _ _ (Act.put _ (some 57) _) _
  try simp only [Act.put, List.setIfInBounds_toArray, List.set_cons_zero, List.set_cons_succ]
  refine wpAnyH_takeD (i := 28) (v := ?_) (some 62) rfl rfl (by kernel_rfl) (by kernel_rfl) (by kernel_rfl) (fun _ _ _ h => h) (Or.inl ⟨by rfl, ?_⟩) (by assumption) ?_
  rotate_left
  · intro w' hSw
    go_simp
    first | done | with_reducible rfl
  try simp only [Act.put, List.setIfInBounds_toArray, List.set_cons_zero, List.set_cons_succ]
  refine wpAnyH_takeD (i := 29) (v := ?_) (some 63) rfl rfl (by kernel_rfl) (by kernel_rfl) (by kernel_rfl) (fun _ _ _ h => h) (Or.inl ⟨by rfl, ?_⟩) (by assumption) ?_
  rotate_left
  · intro w' hSw
    go_simp
    first | done | with_reducible rfl
  try simp only [Act.put, List.setIfInBounds_toArray, List.set_cons_zero, List.set_cons_succ]
  refine wpAnyH_takeD (i := 30) (v := ?_) (some 64) rfl rfl (by kernel_rfl) (by kernel_rfl) (by kernel_rfl) (fun _ _ _ h => h) (Or.inl ⟨by rfl, ?_⟩) (by assumption) ?_
  rotate_left
  · intro w' hSw
    go_simp
    first | done | with_reducible rfl
  try simp only [Act.put, List.setIfInBounds_toArray, List.set_cons_zero, List.set_cons_succ]
  refine wpAnyH_takeD (i := 31) (v := ?_) (some 65) rfl rfl (by kernel_rfl) (by kernel_rfl) (by kernel_rfl) (fun _ _ _ h => h) (Or.inl ⟨by rfl, ?_⟩) (by assumption) ?_
  rotate_left
  · intro w' hSw
    go_simp
    first | done | with_reducible rfl
  try simp only [Act.put, List.setIfInBounds_toArray, List.set_cons_zero, List.set_cons_succ]
  refine wpAnyH_takeD (i := 32) (v := ?_) (some 66) rfl rfl (by kernel_rfl) (by kernel_rfl) (by kernel_rfl) (fun _ _ _ h => h) (Or.inl ⟨by rfl, ?_⟩) (by assumption) ?_
  rotate_left
  · intro w' hSw
    go_simp
    first | done | with_reducible rfl
  try simp only [Act.put, List.setIfInBounds_toArray, List.set_cons_zero, List.set_cons_succ]
  refine wpAnyH_takeD (i := 33) (v := ?_) (some 67) rfl rfl (by kernel_rfl) (by kernel_rfl) (by kernel_rfl) (fun _ _ _ h => h) (Or.inl ⟨by rfl, ?_⟩) (by assumption) ?_
  rotate_left
  · intro w' hSw
    go_simp
    first | done | with_reducible rfl
  try simp only [Act.put, List.setIfInBounds_toArray, List.set_cons_zero, List.set_cons_succ]
  refine wpAnyH_takeD (i := 34) (v := ?_) (some 68) rfl rfl (by kernel_rfl) (by kernel_rfl) (by kernel_rfl) (fun _ _ _ h => h) (Or.inl ⟨by rfl, ?_⟩) (by assumption) ?_
  rotate_left
  · intro w' hSw
    go_simp
    first | done | with_reducible rfl
  try simp only [Act.put, List.setIfInBounds_toArray, List.set_cons_zero, List.set_cons_succ]
  refine wpAnyH_takeD (i := 35) (v := ?_) (some 69) rfl rfl (by kernel_rfl) (by kernel_rfl) (by kernel_rfl) (fun _ _ _ h => h) (Or.inl ⟨by rfl, ?_⟩) (by assumption) ?_
  rotate_left
  · intro w' hSw
    go_simp
    first | done | with_reducible rfl
  try simp only [Act.put, List.setIfInBounds_toArray, List.set_cons_zero, List.set_cons_succ]
  refine wpAnyH_takeD (i := 36) (v := ?_) (some 70) rfl rfl (by kernel_rfl) (by kernel_rfl) (by kernel_rfl) (fun _ _ _ h => h) (Or.inl ⟨by rfl, ?_⟩) (by assumption) ?_
  rotate_left
  · intro w' hSw
    go_simp
    first | done | with_reducible rfl
  try simp only [Act.put, List.setIfInBounds_toArray, List.set_cons_zero, List.set_cons_succ]
  refine wpAnyH_takeD (i := 37) (v := ?_) (some 71) rfl rfl (by kernel_rfl) (by kernel_rfl) (by kernel_rfl) (fun _ _ _ h => h) (Or.inl ⟨by rfl, ?_⟩) (by assumption) ?_
  rotate_left
  · intro w' hSw
    go_simp
    first | done | with_reducible rfl
  try simp only [Act.put, List.setIfInBounds_toArray, List.set_cons_zero, List.set_cons_succ]
  refine wpAnyH_done (by kernel_rfl) ?_ _
  have HF5 := Lib.hid hHeld
  clear CL CRL CF HRM hHeld
  go_wp2_with fail
  go_loopw [13] (fun u wr => ∃ j : Nat, u = .int .i64 (j : Int) ∧ j ≤ nl ∧ Hid (Fr (fun _ => False) w4 wr)) (fun u _ => nl - (intOf u).toNat)
  case atStart => exact ⟨0, rfl, Nat.zero_le _, HF5⟩
  case round =>
    clear HF5
    obtain ⟨j, rfl, hj, HFW⟩ := hrel
    by_cases hlt : j < nl
    · have di : decide ((j : Int) < (nl : Int)) = true := decide_eq_true (by omega)
      have di' : decide (j < nl) = true := decide_eq_true hlt
      have j0 : (0 : Int) ≤ (j : Int) := by omega
      have j1 : (j : Int) < (nl : Int) := by omega
      have hjl : j < ns.length := by rw [HNL.out]; exact hlt
      have hwj := wrap_succ (k := j) (by have := HZL.out; omega)
      have HLT := Lib.hid hlt
      obtain ⟨x, hx⟩ : ∃ x, ns[j] = x := ⟨_, rfl⟩
      obtain ⟨b3, o3, rfl, hc3⟩ := HN3.out j hjl
      obtain ⟨b4, o4, rfl, hc4⟩ := HN4.out j hjl
      rw [hx] at hc3 hc4
      have HC3 : Hid (∀ w', Fr (fun _ => False) wr w' → w'.cell? ⟨b3, o3 + j, none⟩ = some (.int .i64 x)) := Lib.hid (fun w' hf => hc3 w' ((HF34.out.trans HFW.out (fun _ _ h => h)).trans hf (fun _ _ h => h)))
      have HC4 : Hid (∀ w', Fr (fun _ => False) wr w' → w'.cell? ⟨b4, o4 + j, none⟩ = some (.int .i64 x)) := Lib.hid (fun w' hf => hc4 w' (HFW.out.trans hf (fun _ _ h => h)))
      clear hj hlt hjl hx hc3 hc4
      go_wp2_with fail
      refine wp_region_held_drew (S := fun w' => Fr (fun _ => False) wr w') (by kernel_rfl) ((Fr.refl _ _).drew) (fun hHeld => ?_)
      refine wpAnyH_takeD (i := 0) (v := ?_) (some 78) rfl rfl (by kernel_rfl) (by kernel_rfl) (by kernel_rfl) (fun _ _ _ h => h) (Or.inl ⟨by rfl, ?_⟩) (by assumption) ?_
      rotate_left
      · intro w' hSw
        go_simp
        first | done | with_reducible rfl
      try simp only [Act.put, List.setIfInBounds_toArray, List.set_cons_zero, List.set_cons_succ]
      refine wpAnyH_takeD (i := 1) (v := ?_) (some 79) rfl rfl (by kernel_rfl) (by kernel_rfl) (by kernel_rfl) (fun _ _ _ h => h) (Or.inl ⟨by rfl, ?_⟩) (by assumption) ?_
      rotate_left
      · intro w' hSw
        go_simp
        first | done | with_reducible rfl
      try simp only [Act.put, List.setIfInBounds_toArray, List.set_cons_zero, List.set_cons_succ]
      refine wpAnyH_takeD (i := 2) (v := ?_) (some 80) rfl rfl (by kernel_rfl) (by kernel_rfl) (by kernel_rfl) (fun _ _ _ h => h) (Or.inl ⟨by rfl, ?_⟩) (by assumption) ?_
      rotate_left
      · intro w' hSw
        go_simp
        first | done | with_reducible rfl
      try simp only [Act.put, List.setIfInBounds_toArray, List.set_cons_zero, List.set_cons_succ]
      refine wpAnyH_takeD (i := 3) (v := ?_) (some 81) rfl rfl (by kernel_rfl) (by kernel_rfl) (by kernel_rfl) (fun _ _ _ h => h) (Or.inl ⟨by rfl, ?_⟩) (by assumption) ?_
      rotate_left
      · intro w' hSw
        have c3 := HC3.out w' hSw
        go_simp
        first | done | with_reducible rfl
      try simp only [Act.put, List.setIfInBounds_toArray, List.set_cons_zero, List.set_cons_succ]
      refine wpAnyH_takeD (i := 4) (v := ?_) (some 82) rfl rfl (by kernel_rfl) (by kernel_rfl) (by kernel_rfl) (fun _ _ _ h => h) (Or.inl ⟨by rfl, ?_⟩) (by assumption) ?_
      rotate_left
      · intro w' hSw
        go_simp
        first | done | with_reducible rfl
      try simp only [Act.put, List.setIfInBounds_toArray, List.set_cons_zero, List.set_cons_succ]
      refine wpAnyH_takeD (i := 5) (v := ?_) (some 83) rfl rfl (by kernel_rfl) (by kernel_rfl) (by kernel_rfl) (fun _ _ _ h => h) (Or.inl ⟨by rfl, ?_⟩) (by assumption) ?_
      rotate_left
      · intro w' hSw
        go_simp
        first | done | with_reducible rfl
      try simp only [Act.put, List.setIfInBounds_toArray, List.set_cons_zero, List.set_cons_succ]
      refine wpAnyH_takeD (i := 6) (v := ?_) (some 84) rfl rfl (by kernel_rfl) (by kernel_rfl) (by kernel_rfl) (fun _ _ _ h => h) (Or.inl ⟨by rfl, ?_⟩) (by assumption) ?_
      rotate_left
      · intro w' hSw
        go_simp
        first | done | with_reducible rfl
      try simp only [Act.put, List.setIfInBounds_toArray, List.set_cons_zero, List.set_cons_succ]
      refine wpAnyH_takeD (i := 7) (v := ?_) (some 85) rfl rfl (by kernel_rfl) (by kernel_rfl) (by kernel_rfl) (fun _ _ _ h => h) (Or.inl ⟨by rfl, ?_⟩) (by assumption) ?_
      rotate_left
      · intro w' hSw
        have c4 := HC4.out w' hSw
        go_simp
        first | done | with_reducible rfl
      try simp only [Act.put, List.setIfInBounds_toArray, List.set_cons_zero, List.set_cons_succ]
      refine wpAnyH_takeD (i := 8) (v := ?_) (some 86) rfl rfl (by kernel_rfl) (by kernel_rfl) (by kernel_rfl) (fun _ _ _ h => h) (Or.inl ⟨by rfl, ?_⟩) (by assumption) ?_
      rotate_left
      · intro w' hSw
        go_simp
        first | done | with_reducible rfl
      try simp only [Act.put, List.setIfInBounds_toArray, List.set_cons_zero, List.set_cons_succ]
      refine wpAnyH_done (by kernel_rfl) ?_ _
      have HFW2 := Lib.hid (HFW.out.trans hHeld (fun _ _ h => h))
      clear hHeld HC3 HC4
      go_wp2
      go_roundw
      case rel => exact ⟨j + 1, by first | rfl | (push_cast; rfl) | (go_num; done), HLT.out, HFW2⟩
      case measure =>
        show nl - ((j : Int) + 1).toNat < nl - ((j : Int)).toNat
        exact meas_up HLT.out
    · have di : decide ((j : Int) < (nl : Int)) = false := decide_eq_false (by omega)
      have di' : decide (j < nl) = false := decide_eq_false hlt
      have HFA : Hid (Fr (fun _ => False) w wr) := Lib.hid (HF4.out.trans HFW.out (fun _ _ h => h))
      have HF1W := Lib.hid (((HF13.out.trans HF34.out (fun _ _ h => h)).trans HFW.out (fun _ _ h => h)))
      clear hj hlt HN3 HN4 HFW
      go_wp2_with fail
      refine (CRA.out _ HFA.out).mono ?_; rintro e w6 ⟨A6, c6, m6, rfl, hm6, hnq⟩
      have HQ := Lib.hid hnq
      have HM6 := Lib.hid hm6
      obtain ⟨W7, hW7⟩ : ∃ W7, w6.alloc (.cells #[.slice A6 m6 c6] 56) = W7 := ⟨_, rfl⟩
      obtain ⟨b14, hb14⟩ : ∃ b14, w6.heap.size = b14 := ⟨_, rfl⟩
      have s7 : W7.heap.size = b14 + 1 := by rw [← hW7, ← hb14]; simp
      obtain ⟨Wa, hWa⟩ : ∃ Wa, W7.alloc (.cells #[.int .i64 0] 3) = Wa := ⟨_, rfl⟩
      obtain ⟨W8, hW8⟩ : ∃ W8, Wa.setCell ⟨b14 + 1, 0, none⟩ (.int .i64 0) = W8 := ⟨_, rfl⟩
      have sa : Wa.heap.size = b14 + 1 + 1 := by rw [← hWa]; simp [s7]
      have ba : Bk Wa (b14 + 1) 3 #[.int .i64 0] := by rw [← hWa, ← s7]; exact Bk.new _ _ _
      have ca : Wa.cell? ⟨b14 + 1, 0, none⟩ = some (.int .i64 0) := ba.cell 0
      have za : Wa.frozen? ⟨b14 + 1, 0, none⟩ = false := ba.frozen 0
      have s8 : W8.heap.size = b14 + 1 + 1 := by rw [← hW8, ← sa]; simp [World.setCell]
      have f67 : Fr (fun _ => False) w6 W7 := by rw [← hW7]; exact (Fr.refl _ _).alloc _
      have f78 : Fr (fun _ => False) W7 W8 := by
        rw [← hW8, ← hWa]
        exact Fr.setCell (p := ⟨b14 + 1, 0, none⟩) ((Fr.refl _ _).alloc _) (fun e => by have e' : b14 + 1 < W7.heap.size := e; omega) _
      have HB14 : Hid (Bk W8 b14 56 #[.slice A6 m6 c6]) := Lib.hid (Bk.fr (by rw [← hW7, ← hb14]; exact Bk.new _ _ _) f78 (fun h => h))
      have HB15 : Hid (Bk W8 (b14 + 1) 3 #[.int .i64 0]) := Lib.hid (by rw [← hW8]; have := ba.set 0 (.int .i64 0); simpa using this)
      have HF8 : Hid (Fr (fun _ => False) w W8) := Lib.hid (((HFA.out.trans hnq.fr (fun _ _ h => h)).trans f67 (fun _ _ h => h)).trans f78 (fun _ _ h => h))
      have HB68 : Hid (Bk W8 b6 4 #[.bool false]) := Lib.hid (HB6.out.fr (((HF1W.out.trans hnq.fr (fun _ _ h => h)).trans f67 (fun _ _ h => h)).trans f78 (fun _ _ h => h)) (fun h => h))
      have HQ8 : Hid (RT W8 (.slice A6 m6 c6) (allL L (nmL L L.length))) := Lib.hid ((Row.fr0 hnq.row f67).fr0 f78)
      have HQB : Hid (∀ k, (Value.slice A6 m6 c6).ownBlock = some k → k < b14) := Lib.hid (fun k hk => by have := Row.lt hnq.row hk; omega)
      have HS8 := Lib.hid s8
      have HSB : Hid (w.heap.size < b14) := Lib.hid (by have h1 := HB6.out.lt; have h2 := HF1W.out.size; have h3 := hnq.fr.size; have h4 := HSZ.out; omega)
      clear f67 f78 hnq hm6 CRA ba
      go_wp2_with fail
      clear hW7 hWa hW8 hb14 s7 sa ca za
      refine (CA.out _ HF8.out).mono ?_; rintro e w9 ⟨ka, kb, A9, c9, q9, cq9, ns9, rfl, haf, hns9, hf9⟩
      have HG := Lib.hid (all_gives haf hf9.size HRL.out (Nat.le_trans hns9.2.2 HP.out))
      have HALL : Hid (allM t ns9 = allL L (nmL L L.length)) := Lib.hid (HS.out.all hns9)
      have HML : Hid (m6 ≤ 1000000) := Lib.hid (by rw [← HM6.out]; exact HLEN.out)
      have HF9 := Lib.hid hf9
      have HB15' : Hid (Bk w9 (b14 + 1) 3 #[.int .i64 0]) := Lib.hid (HB15.out.fr hf9 (fun h => h))
      have HSZ9 : Hid (b14 + 1 + 1 ≤ w9.heap.size) := Lib.hid (by rw [← HS8.out]; exact hf9.size)
      have HOW : OwnFrom w9.heap.size (fun (pre : List (Int × Int)) W => Fr (fun z => z = b14 + 1) w9 W ∧ Bk W (b14 + 1) 3 #[.int .i64 (pre.length : Int)]) := fun s X Y row hs hg hr =>
        ⟨hs.1.trans (Fr.of_grown hg) (fun z hz e => by have := (hr z e).1; omega), Bk.grown hs.2 hg (fun r e => (hr r e).2)⟩
      clear haf hns9 hf9 CA s8
      unfold AllV
      go_wp2_with fail
      refine (wpIn_wide (n := 9)).1 ?_
      refine range_gives2 (n := 9) (by omega) (gf := 47) (lb := #[.pointer (some ⟨ka, 0, none⟩), .pointer (some ⟨kb, 0, none⟩)]) rfl (enters_of Try.func47 (by kernel_rfl) rfl)
        HG.out (Below.refl _ _) (fun X => Kc.refl _ X) Kc.t (fun X l' o o' _ h ho => Kc.b _ X l' o o' h ho) (fun _ => rfl)
        (fun (pre : List (Int × Int)) W => Fr (fun z => z = b14 + 1) w9 W ∧ Bk W (b14 + 1) 3 #[.int .i64 (pre.length : Int)]) HOW ⟨Fr.refl _ _, HB15'.out⟩
        (fun a x => (a.put (some 16) (.int .i64 x.1)).put (some 17) (.int .i64 x.2)) ?assign ?body ?done
      case assign =>
        intro l2 x X K hK
        gi_wp2
        refine cast (congrArg (fun a => K a X) ?_) hK
        simp [Go.Act.put]
      case body =>
        rintro l2 pre x X ⟨hfX, b15⟩ hnx
        rw [HALL.out] at hnx
        obtain ⟨hlt, hxe⟩ := List.getElem?_eq_some_iff.1 hnx
        obtain ⟨i, hi⟩ : ∃ i, pre.length = i := ⟨_, rfl⟩
        obtain ⟨b, off, rfl, hcell⟩ := HQ8.out.task hlt hxe
        have hfX8 : Fr (fun z => z = b14 + 1) W8 X := (HF9.out.mono (fun _ _ h => h.elim)).trans hfX (fun _ _ h => h)
        obtain ⟨c0, c1⟩ := hcell X (hfX8.mono (fun z _ e hz => by have := HQB.out z hz; omega))
        have c14 := (HB14.out.fr hfX8 (by omega)).cell 0
        have c15 := b15.cell 0
        have z15 := b15.frozen 0
        have him : i < m6 := by rw [← HM6.out, ← hi]; exact hlt
        simp only [hi] at c0 c1 c15 b15
        have hwi := wrap_succ (k := i) (by have := HML.out; omega)
        have dm : decide ((m6 : Int) ≤ (i : Int)) = false := decide_eq_false (by omega)
        have dm' : decide (m6 ≤ i) = false := decide_eq_false (by omega)
        have i0 : (0 : Int) ≤ (i : Int) := by omega
        have i1 : (i : Int) < (m6 : Int) := by omega
        simp only [List.getElem?_toArray, List.getElem?_cons_zero, List.getElem?_cons_succ] at c14 c15
        have HFX := Lib.hid hfX
        have HBX := Lib.hid b15
        have HI := Lib.hid hi
        obtain ⟨x1, x2⟩ := x
        simp only at c0 c1
        clear hnx hlt hxe hcell hfX8 hfX b15 HOW him hi
        gi_wp2
        refine ⟨(KeepsOthers.setCell _ _ _).from _, Kc.fr (S := fun z => z = b14 + 1) (Fr.setCell (S := fun z => z = b14 + 1) (p := ⟨b14 + 1, 0, none⟩) (Fr.refl _ _) (fun _ => rfl) _) (fun z e => by have := HS8.out; omega), Fr.setCell (S := fun z => z = b14 + 1) (p := ⟨b14 + 1, 0, none⟩) HFX.out (fun _ => rfl) _, ?_⟩
        have := HBX.out.set 0 (.int .i64 ((i : Int) + 1))
        rw [List.length_append, HI.out]
        simpa using this
      case done =>
        rintro Dd xs X hD rfl ⟨hfX, b15⟩ hK
        rw [HALL.out, HM6.out] at b15
        have hfX8 : Fr (fun z => z = b14 + 1) W8 X := (HF9.out.mono (fun _ _ h => h.elim)).trans hfX (fun _ _ h => h)
        have c14 := (HB14.out.fr hfX8 (by omega)).cell 0
        have c15 := b15.cell 0
        have hb6l : b6 < b14 := by have h1 := HSZ.out; have := HSB.out; omega
        have b6X := HB68.out.fr hfX8 (fun e => by omega)
        have c6' := b6X.cell 0
        have z6 := b6X.frozen 0
        simp only [List.getElem?_toArray, List.getElem?_cons_zero, List.getElem?_cons_succ] at c14 c15 c6'
        have hK2 : (X.setCell ⟨b6, 0, none⟩ (.bool true)).heap[Dd]? = some (.deferred (some [])) := by
          rw [← hK]
          exact Below.heap_setCell _ _ _ _ (by show ¬ Dd = b6; have := HSZ9.out; omega)
        have HK2 := Lib.hid hK2
        have HFX : Hid (Fr (fun _ => False) w (X.setCell ⟨b6, 0, none⟩ (.bool true))) := Lib.hid (Fr.setCell (p := ⟨b6, 0, none⟩) (HF8.out.trans hfX8 (fun z hz e => by have := HSB.out; omega)) (fun e => by have e' : b6 < w.heap.size := e; have := HSZ.out; omega) _)
        have HB6X : Hid ((X.setCell ⟨b6, 0, none⟩ (.bool true)).cell? ⟨b6, 0, none⟩ = some (.bool true)) := Lib.hid (by have := (b6X.set 0 (.bool true)).cell 0; simpa using this)
        clear hK hK2 b15 b6X hfX hfX8 HOW
        go_wp2
        refine ⟨by simp, .inl ⟨_, _, rfl, run_takeDeferred HK2.out, ?_⟩⟩
        refine ⟨_, resB rfl _ _ b6 true rfl ?_, rfl, ?_⟩
        · exact cell_kept HB6X.out (grownBy_putObj' _ Dd _) (fun r e => by cases e; exact ⟨_, HK2.out, rfl⟩)
        · exact HFX.out.trans (Fr.of_grown (grownBy_putObj' _ Dd _)) (fun z hz e => by injection e with e; have h1 := HSZ9.out; have h2 := HF8.out.size; have h3 := HS8.out; omega)
end Go.Proofs.Ytkinbcmnfpkncaa
