/- The net's small calls: has, waits, pair, joins, Open, New, Heal; what hands a packet on. -/
import Derived.Test.YtmlckocgahfnkaaNc
import Derived.Deep.RegionHeld3
namespace Go.Proofs.Ytmlckocgahfnkaa
open Go.RowKit

/-- An operation is taken first; the slot that it writes is named (else the frame grows by a layer a take). -/
theorem wpAnyH_takeD {P : Program} {ops : Array Oper} {Q : Exit → Go.Act → World → Prop} {md : Region.Mode} {S : World → Prop} {i : Nat} {oi : Oper} {v : Value} {fuel : Nat} {listed : Array Bool} {a : Go.Act} {w : World} (d : Option Tmp) (hi : ops[i]? = some oi) (hd : oi.dst = d)
    (hs : Region.noSelect ops = true) (hf : Region.free md ops listed i = true) (hr : (Region.ready md ops listed).contains i = true)
    (hQ : ∀ c a w, Q (.panic c) (a.put oi.dst v) w → Q (.panic c) a w) (hy : YieldsIf P ops S oi v a) (hS : S w)
    (h : wpAnyH P md ops Q S fuel (listed.setIfInBounds i true) (a.put d v) w) : wpAnyH P md ops Q S (fuel + 1) listed a w := by
  subst hd
  exact wpAnyH_take hi hs hf hr hQ hy hS h

theorem Try.info8n : (Try.prog.info? 5).map (fun i => (i.zero, i.size, i.bytes)) = some (some (.int .u8 0), 1, 1) := by kernel_rfl
theorem Try.t8n : T8 Try.prog 33 5 := by
  obtain ⟨i0, hi, hz0, hz1, hz2⟩ := info_parts Try.info8n
  exact ⟨Try.underlying33, i0, hi, hz0, hz1, hz2⟩

theorem Bk.fr_set {w : World} {g : Nat} (p : Nat) (u : Value) : Fr (fun k => k = g) w (w.setCell ⟨g, p, none⟩ u) :=
  Fr.setCell (S := fun k => k = g) (p := ⟨g, p, none⟩) (Fr.refl _ _) (fun _ => rfl) _
theorem Fr.set {w w' : World} {g : Nat} (h : Fr (fun k => k = g) w w') (p : Nat) (u : Value) : Fr (fun k => k = g) w (w'.setCell ⟨g, p, none⟩ u) :=
  Fr.setCell (S := fun k => k = g) (p := ⟨g, p, none⟩) h (fun _ => rfl) _
theorem has_any (g N : Nat) (a : Int) (w : World) (h : w.cell? ⟨g, 0, none⟩ = some (.int .i64 (N : Int))) :
    Calls Try.prog 28 #[.pointer (some ⟨g, 0, none⟩), .int .i64 a] w fun e w' => e = .returned (.bool (decide (0 ≤ a) && decide (a < N))) ∧ w = w' := by
  by_cases h0 : 0 ≤ a
  · go_enter Try.func28, Try.ntmps28
    go_wp2
    go_ret
    exact ⟨by simp [h0], rfl⟩
  · have d0 : decide (0 ≤ a) = false := by simpa using h0
    go_enter Try.func28, Try.ntmps28
    go_wp2
    go_ret
    exact ⟨by simp [h0], rfl⟩

theorem waits_any (g n c : Nat) (A : Option Addr) (a : Int) (w : World) (h : w.cell? ⟨g, 3, none⟩ = some (.slice A n c)) :
    Calls Try.prog 36 #[.pointer (some ⟨g, 0, none⟩), .int .i64 a] w fun e w' => e = .returned (.bool (decide (0 ≤ a) && decide (a < n))) ∧ w = w' := by
  by_cases h0 : 0 ≤ a
  · go_enter Try.func36, Try.ntmps36
    go_wp2
    go_ret
    exact ⟨by simp [h0], rfl⟩
  · have d0 : decide (0 ≤ a) = false := by simpa using h0
    go_enter Try.func36, Try.ntmps36
    go_wp2
    go_ret
    exact ⟨by simp [h0], rfl⟩

theorem pair_any (a b : Int) (w : World) :
    Calls Try.prog 31 #[.int .i64 a, .int .i64 b] w fun e w' => e = .returned (keyV (pr a b)) ∧ Fr (fun _ => False) w w' := by
  obtain ⟨m, hm⟩ : ∃ m, min a b = m := ⟨_, rfl⟩
  obtain ⟨x, hx⟩ : ∃ x, max a b = x := ⟨_, rfl⟩
  have HP : Hid (pr a b = (m, x)) := Lib.hid (by unfold pr; rw [hm, hx])
  have HM := Lib.hid hm
  have HX := Lib.hid hx
  clear hm hx
  go_enter Try.func31, Try.ntmps31
  go_wp2
  all_goals
    have e1 := HM.out
    have e2 := HX.out
    rw [HP.out]
    unfold keyV
    try (have e3 : a = m := by omega)
    try (have e4 : b = m := by omega)
    try (have e5 : a = x := by omega)
    try (have e6 : b = x := by omega)
    try (have e7 : m = x := by omega)
    refine bodyPost_ret (v := .agg #[.int .i64 m, .int .i64 x]) (by simp [results, Try.results31, go_sem, *]) rfl ⟨rfl, (Fr.refl _ _).alloc _⟩

set_option maxRecDepth 100000 in
set_option maxHeartbeats 1000000 in
theorem clone_any (A : Option Addr) (n c : Nat) (xs : List UInt8) (w : World) (hr : Rd8 w A xs) (hn : xs.length = n) (hb : n ≤ 140737488355328) :
    Calls Try.prog 43 #[.slice A n c] w fun e w' => ∃ A' c', e = .returned (.slice A' n c') ∧ Own8 w' 5 (.slice A' n c') xs ∧ Fresh w w' (.slice A' n c') := by
  rcases A with _ | ad
  · have h0 : xs = [] := by
      rcases Nat.eq_zero_or_pos xs.length with h0 | h0
      · exact List.eq_nil_of_length_eq_zero h0
      · obtain ⟨ad, h, _⟩ := hr h0; cases h
    subst h0
    simp at hn
    subst hn
    have hq := fun W => Lib.run_eql_slice_nil (P := Try.prog) W 33 5 none 0 c 0 0 Try.underlying33
    go_enter Try.func43, Try.ntmps43
    go_wp2
    go_ret
    exact ⟨none, 0, rfl, Own8.nil _ _, Fresh.nil _ _ (Fr.refl _ _)⟩
  · have hq := fun W => Lib.run_eql_slice_nil (P := Try.prog) W 33 5 (some ad) n c 0 0 Try.underlying33
    go_enter Try.func43, Try.ntmps43
    have hf0 : Fr (fun _ => False) w (w.alloc (.cells #[] 5)) := (Fr.refl _ _).alloc _
    go_wp2_with (at_builtin; (refine wpList_append8s _ rfl (.tmp 5) (.tmp 6) Try.t8n rfl _ [] rfl (Own8.fresh w _ #[] 0 rfl (by decide)) (some ad) n c xs rfl hn (hr.fr hf0 (fun _ _ _ h => h)) (by simp; omega) ?_; intro A1 c1 w1 ho1 hf1 hm1))
    go_ret
    simp only [List.length_nil, Nat.zero_add, List.nil_append, hn] at ho1 hm1 ⊢
    exact ⟨A1, c1, rfl, ho1, (Fresh.new w _ 0 0).step hf1 hm1⟩


set_option maxRecDepth 100000 in
set_option maxHeartbeats 2000000 in
theorem joins_any (g mb : Nat) (ks : List (Int × Int)) (a b : Int) (w : World) (hm : CM w mb ks) (h : w.cell? ⟨g, 2, none⟩ = some (.map (some mb))) :
    Calls Try.prog 29 #[.pointer (some ⟨g, 0, none⟩), .int .i64 a, .int .i64 b] w fun e w' => e = .returned (.bool (!hasP ks (pr a b))) ∧ Fr (fun _ => False) w w' := by
  have C := Lib.hid (fun w => pair_any a b w)
  have hb := hm.lt
  have hg : g < w.heap.size := World.block_lt_of_cell? w _ h
  have HL := Lib.hid (fun w' (hf : Fr (fun _ => False) w w') => run_lookupP (hm.fr hf (fun h => h)) (pr a b))
  have HC := Lib.hid (fun w' (hf : Fr (fun _ => False) w w') => (hf.cell (p := ⟨g, 2, none⟩) hg (fun h => h)).trans h)
  clear hm h
  generalize hasP ks (pr a b) = q at *
  generalize keyV (pr a b) = kv at *
  go_enter Try.func29, Try.ntmps29
  go_wp2_with fail
  refine wp_region_held_drew (S := fun w' => Fr (fun _ => False) w w') (by kernel_rfl) ((Fr.refl _ _).drew) (fun hHeld => ?_)
  refine wpAnyH_takeD (i := 0) (v := ?_) (some 10) rfl rfl (by kernel_rfl) (by kernel_rfl) (by kernel_rfl) (fun _ _ _ h => h) (Or.inl ⟨by rfl, ?_⟩) (by assumption) ?_
  rotate_left
  · intro w' hSw
    go_simp
    first | done | with_reducible rfl
  try simp only [Go.Act.put, List.setIfInBounds_toArray, List.set_cons_zero, List.set_cons_succ]
  refine wpAnyH_takeD (i := 1) (v := ?_) (some 11) rfl rfl (by kernel_rfl) (by kernel_rfl) (by kernel_rfl) (fun _ _ _ h => h) (Or.inl ⟨by rfl, ?_⟩) (by assumption) ?_
  rotate_left
  · intro w' hSw
    go_simp
    first | done | with_reducible rfl
  try simp only [Go.Act.put, List.setIfInBounds_toArray, List.set_cons_zero, List.set_cons_succ]
  refine wpAnyH_takeD (i := 2) (v := ?_) (some 12) rfl rfl (by kernel_rfl) (by kernel_rfl) (by kernel_rfl) (fun _ _ _ h => h) (Or.inl ⟨by rfl, ?_⟩) (by assumption) ?_
  rotate_left
  · intro w' hSw
    go_simp
    first | done | with_reducible rfl
  try simp only [Go.Act.put, List.setIfInBounds_toArray, List.set_cons_zero, List.set_cons_succ]
  refine wpAnyH_takeD (i := 3) (v := ?_) (some 13) rfl rfl (by kernel_rfl) (by kernel_rfl) (by kernel_rfl) (fun _ _ _ h => h) (Or.inl ⟨by rfl, ?_⟩) (by assumption) ?_
  rotate_left
  · intro w' hSw
    have q1 := HC.out w' hSw
    go_simp
    first | done | with_reducible rfl
  try simp only [Go.Act.put, List.setIfInBounds_toArray, List.set_cons_zero, List.set_cons_succ]
  refine wpAnyH_takeD (i := 4) (v := ?_) (some 14) rfl rfl (by kernel_rfl) (by kernel_rfl) (by kernel_rfl) (fun _ _ _ h => h) (Or.inl ⟨by rfl, ?_⟩) (by assumption) ?_
  rotate_left
  · intro w' hSw
    go_simp
    first | done | with_reducible rfl
  try simp only [Go.Act.put, List.setIfInBounds_toArray, List.set_cons_zero, List.set_cons_succ]
  refine wpAnyH_takeD (i := 5) (v := ?_) (some 15) rfl rfl (by kernel_rfl) (by kernel_rfl) (by kernel_rfl) (fun _ _ _ h => h) (Or.inl ⟨by rfl, ?_⟩) (by assumption) ?_
  rotate_left
  · intro w' hSw
    go_simp
    first | done | with_reducible rfl
  try simp only [Go.Act.put, List.setIfInBounds_toArray, List.set_cons_zero, List.set_cons_succ]
  refine wpAnyH_ready (rs := [6, 11]) (by kernel_rfl) (by simp) ?_
  refine AllReadyH.cons rfl (fun K hK => ?_) (AllReadyH.cons rfl (fun K hK => ?_) AllReadyH.nil)
  · skip
    go_simp
    refine (C.out _).mono ?_; rintro e w1 ⟨rfl, f1⟩
    try go_simp
    refine hK.out _ _ (hHeld.trans f1 (fun _ _ h => h)) (fun hHeld => ?_)
    clear hK K
    try change wpAnyH _ _ _ _ _ _ _ (Go.Act.put _ (some 16) _) _
    try simp only [Go.Act.put, List.setIfInBounds_toArray, List.set_cons_zero, List.set_cons_succ]
    refine wpAnyH_takeD (i := 7) (v := ?_) (some 17) rfl rfl (by kernel_rfl) (by kernel_rfl) (by kernel_rfl) (fun _ _ _ h => h) (Or.inl ⟨by rfl, ?_⟩) (by assumption) ?_
    rotate_left
    · intro w' hSw
      have q1 := HL.out w' hSw
      go_simp
      first | done | with_reducible rfl
    try simp only [Go.Act.put, List.setIfInBounds_toArray, List.set_cons_zero, List.set_cons_succ]
    refine wpAnyH_takeD (i := 8) (v := ?_) (some 9) rfl rfl (by kernel_rfl) (by kernel_rfl) (by kernel_rfl) (fun _ _ _ h => h) (Or.inl ⟨by rfl, ?_⟩) (by assumption) ?_
    rotate_left
    · intro w' hSw
      go_simp
      first | done | with_reducible rfl
    try simp only [Go.Act.put, List.setIfInBounds_toArray, List.set_cons_zero, List.set_cons_succ]
    refine wpAnyH_takeD (i := 9) (v := ?_) (some 18) rfl rfl (by kernel_rfl) (by kernel_rfl) (by kernel_rfl) (fun _ _ _ h => h) (Or.inl ⟨by rfl, ?_⟩) (by assumption) ?_
    rotate_left
    · intro w' hSw
      go_simp
      first | done | with_reducible rfl
    try simp only [Go.Act.put, List.setIfInBounds_toArray, List.set_cons_zero, List.set_cons_succ]
    refine wpAnyH_takeD (i := 10) (v := ?_) (some 19) rfl rfl (by kernel_rfl) (by kernel_rfl) (by kernel_rfl) (fun _ _ _ h => h) (Or.inl ⟨by rfl, ?_⟩) (by assumption) ?_
    rotate_left
    · intro w' hSw
      go_simp
      first | done | with_reducible rfl
    try simp only [Go.Act.put, List.setIfInBounds_toArray, List.set_cons_zero, List.set_cons_succ]
    refine wpAnyH_ready (rs := [11]) (by kernel_rfl) (by simp) ?_
    refine AllReadyH.cons rfl (fun K hK => ?_) AllReadyH.nil
    go_simp
    refine hK.out _ _ (hHeld.alloc _) (fun hHeld => ?_)
    clear hK K
    try change wpAnyH _ _ _ _ _ _ _ (Go.Act.put _ (some 7) _) _
    try simp only [Go.Act.put, List.setIfInBounds_toArray, List.set_cons_zero, List.set_cons_succ]
    refine wpAnyH_ready (rs := [12]) (by kernel_rfl) (by simp) ?_
    refine AllReadyH.cons rfl (fun K hK => ?_) AllReadyH.nil
    go_simp
    refine hK.out _ _ (hHeld) (fun hHeld => ?_)
    clear hK K
    try change wpAnyH _ _ _ _ _ _ _ (Go.Act.put _ none _) _
    try simp only [Go.Act.put, List.setIfInBounds_toArray, List.set_cons_zero, List.set_cons_succ]
    refine wpAnyH_takeD (i := 13) (v := ?_) (some 8) rfl rfl (by kernel_rfl) (by kernel_rfl) (by kernel_rfl) (fun _ _ _ h => h) (Or.inl ⟨by rfl, ?_⟩) (by assumption) ?_
    rotate_left
    · intro w' hSw
      go_simp
      first | done | with_reducible rfl
    try simp only [Go.Act.put, List.setIfInBounds_toArray, List.set_cons_zero, List.set_cons_succ]
    refine wpAnyH_done (by kernel_rfl) ?_ _
    have HH := Lib.hid hHeld
    clear hHeld
    go_wp2
    go_ret
    exact ⟨by simp, HH.out⟩
  · skip
    go_simp
    refine hK.out _ _ (hHeld.alloc _) (fun hHeld => ?_)
    clear hK K
    try change wpAnyH _ _ _ _ _ _ _ (Go.Act.put _ (some 7) _) _
    try simp only [Go.Act.put, List.setIfInBounds_toArray, List.set_cons_zero, List.set_cons_succ]
    refine wpAnyH_ready (rs := [6]) (by kernel_rfl) (by simp) ?_
    refine AllReadyH.cons rfl (fun K hK => ?_) AllReadyH.nil
    go_simp
    refine (C.out _).mono ?_; rintro e w1 ⟨rfl, f1⟩
    try go_simp
    refine hK.out _ _ (hHeld.trans f1 (fun _ _ h => h)) (fun hHeld => ?_)
    clear hK K
    try change wpAnyH _ _ _ _ _ _ _ (Go.Act.put _ (some 16) _) _
    try simp only [Go.Act.put, List.setIfInBounds_toArray, List.set_cons_zero, List.set_cons_succ]
    refine wpAnyH_takeD (i := 7) (v := ?_) (some 17) rfl rfl (by kernel_rfl) (by kernel_rfl) (by kernel_rfl) (fun _ _ _ h => h) (Or.inl ⟨by rfl, ?_⟩) (by assumption) ?_
    rotate_left
    · intro w' hSw
      have q1 := HL.out w' hSw
      go_simp
      first | done | with_reducible rfl
    try simp only [Go.Act.put, List.setIfInBounds_toArray, List.set_cons_zero, List.set_cons_succ]
    refine wpAnyH_takeD (i := 8) (v := ?_) (some 9) rfl rfl (by kernel_rfl) (by kernel_rfl) (by kernel_rfl) (fun _ _ _ h => h) (Or.inl ⟨by rfl, ?_⟩) (by assumption) ?_
    rotate_left
    · intro w' hSw
      go_simp
      first | done | with_reducible rfl
    try simp only [Go.Act.put, List.setIfInBounds_toArray, List.set_cons_zero, List.set_cons_succ]
    refine wpAnyH_takeD (i := 9) (v := ?_) (some 18) rfl rfl (by kernel_rfl) (by kernel_rfl) (by kernel_rfl) (fun _ _ _ h => h) (Or.inl ⟨by rfl, ?_⟩) (by assumption) ?_
    rotate_left
    · intro w' hSw
      go_simp
      first | done | with_reducible rfl
    try simp only [Go.Act.put, List.setIfInBounds_toArray, List.set_cons_zero, List.set_cons_succ]
    refine wpAnyH_takeD (i := 10) (v := ?_) (some 19) rfl rfl (by kernel_rfl) (by kernel_rfl) (by kernel_rfl) (fun _ _ _ h => h) (Or.inl ⟨by rfl, ?_⟩) (by assumption) ?_
    rotate_left
    · intro w' hSw
      go_simp
      first | done | with_reducible rfl
    try simp only [Go.Act.put, List.setIfInBounds_toArray, List.set_cons_zero, List.set_cons_succ]
    refine wpAnyH_ready (rs := [12]) (by kernel_rfl) (by simp) ?_
    refine AllReadyH.cons rfl (fun K hK => ?_) AllReadyH.nil
    go_simp
    refine hK.out _ _ (hHeld) (fun hHeld => ?_)
    clear hK K
    try change wpAnyH _ _ _ _ _ _ _ (Go.Act.put _ none _) _
    try simp only [Go.Act.put, List.setIfInBounds_toArray, List.set_cons_zero, List.set_cons_succ]
    refine wpAnyH_takeD (i := 13) (v := ?_) (some 8) rfl rfl (by kernel_rfl) (by kernel_rfl) (by kernel_rfl) (fun _ _ _ h => h) (Or.inl ⟨by rfl, ?_⟩) (by assumption) ?_
    rotate_left
    · intro w' hSw
      go_simp
      first | done | with_reducible rfl
    try simp only [Go.Act.put, List.setIfInBounds_toArray, List.set_cons_zero, List.set_cons_succ]
    refine wpAnyH_done (by kernel_rfl) ?_ _
    have HH := Lib.hid hHeld
    clear hHeld
    go_wp2
    go_ret
    exact ⟨by simp, HH.out⟩

set_option maxRecDepth 100000 in
set_option maxHeartbeats 2000000 in
/-- What hands a packet on: with bytes of their own. -/
theorem hand_any (p : PL) (w : World) (h : Hand w p) :
    Calls Try.prog 44 #[.pointer (some ⟨p.b1, 0, none⟩), .pointer (some ⟨p.b2, 0, none⟩), .pointer (some ⟨p.b3, 0, none⟩), .pointer (some ⟨p.b4, 0, none⟩)] w fun e w' =>
      ∃ A c, e = .returned (.agg #[.int .i64 p.pk.fr, .int .i64 p.pk.to, .int .i64 (p.pk.n : Int), .slice A p.pk.bs.length c]) ∧ Own8 w' 5 (.slice A p.pk.bs.length c) p.pk.bs ∧ Fresh w w' (.slice A p.pk.bs.length c) := by
  have C := Lib.hid (fun w' (hf : Fr (fun _ => False) w w') => clone_any p.A p.pk.bs.length p.c p.pk.bs w' (h.own.fr hf (fun _ _ h => h)).rd rfl (by have := h.len; omega))
  have HC := Lib.hid (fun w' (hf : Fr (fun _ => False) w w') => show w'.cell? ⟨p.b1, 0, none⟩ = some (.int .i64 p.pk.fr) ∧ w'.cell? ⟨p.b2, 0, none⟩ = some (.int .i64 p.pk.to) ∧ w'.cell? ⟨p.b3, 0, none⟩ = some (.int .i64 (p.pk.n : Int)) ∧ w'.cell? ⟨p.b4, 0, none⟩ = some (.slice p.A p.pk.bs.length p.c) from
    ⟨(h.h1.fr hf (fun h => h)).cell 0, (h.h2.fr hf (fun h => h)).cell 0, (h.h3.fr hf (fun h => h)).cell 0, (h.h4.fr hf (fun h => h)).cell 0⟩)
  clear h
  obtain ⟨⟨fr, to, n, bs⟩, b1, b2, b3, b4, A0, c0⟩ := p
  simp only at *
  generalize (n : Int) = nn at *
  go_enter Try.func44, Try.ntmps44
  go_wp2_with fail
  have fw : Fr (fun _ => False) w (w.alloc (.cells #[.int .i64 0, .int .i64 0, .int .i64 0, .slice none 0 0] 48)) := (Fr.refl _ _).alloc _
  refine wp_region_held_drew (S := fun w' => Fr (fun _ => False) w w') (by kernel_rfl) (fw.drew) (fun hHeld => ?_)
  refine wpAnyH_takeD (i := 0) (v := ?_) (some 5) rfl rfl (by kernel_rfl) (by kernel_rfl) (by kernel_rfl) (fun _ _ _ h => h) (Or.inl ⟨by rfl, ?_⟩) (by assumption) ?_
  rotate_left
  · intro w' hSw
    obtain ⟨q1, q2, q3, q4⟩ := HC.out w' hSw
    go_simp
    first | done | with_reducible rfl
  try simp only [Go.Act.put, List.setIfInBounds_toArray, List.set_cons_zero, List.set_cons_succ]
  refine wpAnyH_takeD (i := 1) (v := ?_) (some 6) rfl rfl (by kernel_rfl) (by kernel_rfl) (by kernel_rfl) (fun _ _ _ h => h) (Or.inl ⟨by rfl, ?_⟩) (by assumption) ?_
  rotate_left
  · intro w' hSw
    obtain ⟨q1, q2, q3, q4⟩ := HC.out w' hSw
    go_simp
    first | done | with_reducible rfl
  try simp only [Go.Act.put, List.setIfInBounds_toArray, List.set_cons_zero, List.set_cons_succ]
  refine wpAnyH_takeD (i := 2) (v := ?_) (some 7) rfl rfl (by kernel_rfl) (by kernel_rfl) (by kernel_rfl) (fun _ _ _ h => h) (Or.inl ⟨by rfl, ?_⟩) (by assumption) ?_
  rotate_left
  · intro w' hSw
    obtain ⟨q1, q2, q3, q4⟩ := HC.out w' hSw
    go_simp
    first | done | with_reducible rfl
  try simp only [Go.Act.put, List.setIfInBounds_toArray, List.set_cons_zero, List.set_cons_succ]
  refine wpAnyH_takeD (i := 3) (v := ?_) (some 8) rfl rfl (by kernel_rfl) (by kernel_rfl) (by kernel_rfl) (fun _ _ _ h => h) (Or.inl ⟨by rfl, ?_⟩) (by assumption) ?_
  rotate_left
  · intro w' hSw
    obtain ⟨q1, q2, q3, q4⟩ := HC.out w' hSw
    go_simp
    first | done | with_reducible rfl
  try simp only [Go.Act.put, List.setIfInBounds_toArray, List.set_cons_zero, List.set_cons_succ]
  refine wpAnyH_ready (rs := [4]) (by kernel_rfl) (by simp) ?_
  refine AllReadyH.cons rfl (fun K hK => ?_) AllReadyH.nil
  go_simp
  refine (C.out _ hHeld).mono ?_; rintro e w1 ⟨A, c, rfl, ho, hfr⟩
  have hbk := (Bk.new w _ _).drew.fr hfr.1 (fun h => h)
  have HBK := Lib.hid hbk
  have HO := Lib.hid ho
  have HF := Lib.hid hfr
  have k0 : w1.cell? ⟨w.heap.size, 0, none⟩ = some (.int .i64 0) := hbk.cell 0
  have k1 : w1.cell? ⟨w.heap.size, 1, none⟩ = some (.int .i64 0) := hbk.cell 1
  have k2 : w1.cell? ⟨w.heap.size, 2, none⟩ = some (.int .i64 0) := hbk.cell 2
  have k3 : w1.cell? ⟨w.heap.size, 3, none⟩ = some (.slice none 0 0) := hbk.cell 3
  have f0 := hbk.frozen 0
  have f1 := hbk.frozen 1
  have f2 := hbk.frozen 2
  have f3 := hbk.frozen 3
  clear hbk ho hfr
  try go_simp
  refine hK.out _ _ (hHeld.trans HF.out.1 (fun _ _ h => h)) (fun hHeld => ?_)
  clear hK K
  try change wpAnyH _ _ _ _ _ _ _ (Go.Act.put _ (some 9) _) _
  try simp only [Go.Act.put, List.setIfInBounds_toArray, List.set_cons_zero, List.set_cons_succ]
  refine wpAnyH_takeD (i := 5) (v := ?_) (some 10) rfl rfl (by kernel_rfl) (by kernel_rfl) (by kernel_rfl) (fun _ _ _ h => h) (Or.inl ⟨by rfl, ?_⟩) (by assumption) ?_
  rotate_left
  · intro w' hSw
    go_simp
    first | done | with_reducible rfl
  try simp only [Go.Act.put, List.setIfInBounds_toArray, List.set_cons_zero, List.set_cons_succ]
  refine wpAnyH_ready (rs := [6]) (by kernel_rfl) (by simp) ?_
  refine AllReadyH.cons rfl (fun K hK => ?_) AllReadyH.nil
  go_simp
  refine hK.out _ _ ((((hHeld.setCell (fun h => absurd h (Nat.lt_irrefl _)) _).setCell (fun h => absurd h (Nat.lt_irrefl _)) _).setCell (fun h => absurd h (Nat.lt_irrefl _)) _).setCell (fun h => absurd h (Nat.lt_irrefl _)) _) (fun hHeld => ?_)
  clear hK K
  try change wpAnyH _ _ _ _ _ _ _ (Go.Act.put _ none _) _
  try simp only [Go.Act.put, List.setIfInBounds_toArray, List.set_cons_zero, List.set_cons_succ]
  refine wpAnyH_done (by kernel_rfl) ?_ _
  have HH := Lib.hid hHeld
  clear hHeld
  go_wp2
  have hb := (((HBK.out.set 0 (.int .i64 fr)).set 1 (.int .i64 to)).set 2 (.int .i64 nn)).set 3 (.slice A bs.length c)
  have f4 := (((Bk.fr_set (g := w.heap.size) (w := w1) 0 (.int .i64 fr)).set 1 (.int .i64 to)).set 2 (.int .i64 nn)).set 3 (.slice A bs.length c)
  have m0 := hb.cell 0
  have m1 := hb.cell 1
  have m2 := hb.cell 2
  have m3 := hb.cell 3
  simp at m0 m1 m2 m3
  refine bodyPost_ret (v := .agg #[.int .i64 fr, .int .i64 to, .int .i64 nn, .slice A bs.length c]) (by simp [results, Try.results44, go_sem, m0, m1, m2, m3]) rfl ⟨A, c, rfl, HO.out.fr f4 (fun k hk e => ?_), HH.out, fun k hk => ?_⟩
  · have := HF.out.2 k hk
    simp at this; omega
  · have := HF.out.2 k hk
    simp at this; omega

theorem open_any (g : Nat) (s : NS) (m : NL) (a b : Int) (w : World) (h : NetM w g s m) :
    Calls Try.prog 14 #[.pointer (some ⟨g, 0, none⟩), .int .i64 a, .int .i64 b] w fun e w' => e = .returned (.bool (s.is a && s.is b && s.joins a b)) ∧ Fr (fun _ => False) w w' := by
  have CA := Lib.hid (has_any g s.N a w (h.blk.cell 0))
  have CB := Lib.hid (has_any g s.N b w (h.blk.cell 0))
  have CJ := Lib.hid (joins_any g m.mb s.keys a b w h.map (h.blk.cell 2))
  unfold NS.joins NS.is
  clear h
  generalize (decide (0 ≤ a) && decide (a < (s.N : Int))) = qa at *
  generalize (decide (0 ≤ b) && decide (b < (s.N : Int))) = qb at *
  generalize hasP s.keys (pr a b) = q at *
  cases qa with
  | false =>
    go_enter Try.func14, Try.ntmps14
    go_wp2_with (go_at_call 28; refine CA.out.mono ?_; rintro e w1 ⟨rfl, rfl⟩)
    go_ret
    exact ⟨rfl, Fr.refl _ _⟩
  | true =>
    cases qb with
    | false =>
      go_enter Try.func14, Try.ntmps14
      go_wp2_with fail
      refine CA.out.mono ?_; rintro e w1 ⟨rfl, rfl⟩
      go_wp2_with fail
      refine CB.out.mono ?_; rintro e w1 ⟨rfl, rfl⟩
      go_wp2
      go_ret
      exact ⟨rfl, Fr.refl _ _⟩
    | true =>
      go_enter Try.func14, Try.ntmps14
      go_wp2_with fail
      refine CA.out.mono ?_; rintro e w1 ⟨rfl, rfl⟩
      go_wp2_with fail
      refine CB.out.mono ?_; rintro e w1 ⟨rfl, rfl⟩
      go_wp2_with fail
      refine CJ.out.mono ?_; rintro e w1 ⟨rfl, hf⟩
      go_wp2
      go_ret
      exact ⟨by simp, hf⟩

theorem new_bad (N : Int) (w : World) (h : N < 1 ∨ 9 < N) :
    Calls Try.prog 9 #[.int .i64 N] w fun e w' => e = .returned (.tuple #[.pointer none, .int .i64 1]) ∧ w = w' := by
  by_cases h1 : N < 1
  · clear h
    go_enter Try.func9, Try.ntmps9
    go_wp2
    go_ret2
    exact ⟨rfl, rfl⟩
  · have d1 : decide (N < 1) = false := by simpa using h1
    have h2 : 9 < N := by omega
    clear h
    go_enter Try.func9, Try.ntmps9
    go_wp2
    go_ret2
    exact ⟨rfl, rfl⟩
theorem new_any (N : Nat) (w : World) (h0 : 1 ≤ N) (h1 : N ≤ 9) :
    Calls Try.prog 9 #[.int .i64 (N : Int)] w fun e w' => ∃ g F, e = .returned (.tuple #[.pointer (some ⟨g, 0, none⟩), .int .i64 0]) ∧ Nt w' g (NS.new N) F ∧ (∀ k, F k → w.heap.size ≤ k) ∧ Fr (fun _ => False) w w' := by
  have d1 : decide ((N : Int) < 1) = false := by simp; omega
  have d2 : decide ((9 : Int) < (N : Int)) = false := by simp; omega
  have hmm := @run_makeMap Try.prog
  go_enter Try.func9, Try.ntmps9
  go_wp2
  go_ret2
  have hz : (w.alloc (.map #[] 0)).heap.size = w.heap.size + 1 := by simp
  have hbk := Bk.new (w.alloc (.map #[] 0)) 59 #[.int .i64 (N : Int), .int .i64 0, .map (some w.heap.size), .slice none 0 0]
  rw [hz] at hbk
  have hfa : Fr (fun _ => False) (w.alloc (.map #[] 0)) ((w.alloc (.map #[] 0)).alloc (.cells #[.int .i64 (N : Int), .int .i64 0, .map (some w.heap.size), .slice none 0 0] 59)) := (Fr.refl _ _).alloc _
  have hf : Fr (fun _ => False) w ((w.alloc (.map #[] 0)).alloc (.cells #[.int .i64 (N : Int), .int .i64 0, .map (some w.heap.size), .slice none 0 0] 59)) := ((Fr.refl _ _).alloc _).alloc _
  have D : NetM _ (w.heap.size + 1) (NS.new N) ⟨w.heap.size, .slice none 0 0, []⟩ :=
    ⟨fun p hp => by simp [NS.new] at hp, h1, hbk, (CM.made w).fr hfa (fun h => h), Row.nil _ _ _, rfl, fun p hp => by simp at hp⟩
  refine ⟨w.heap.size + 1, NB (w.heap.size + 1) ⟨w.heap.size, .slice none 0 0, []⟩, by rfl, ⟨_, D, fun _ h => h, fun _ h => D.lt h⟩, fun k hk => ?_, hf⟩
  rcases hk with (h | h | h) | ⟨p, hp, _⟩
  · omega
  · simp only at h; omega
  · simp [Value.ownBlock] at h
  · simp at hp

theorem heal_any (g : Nat) (s : NS) (m : NL) (w : World) (h : NetM w g s m) :
    Calls Try.prog 26 #[.pointer (some ⟨g, 0, none⟩)] w fun e w' => e = .returned (.tuple #[]) ∧ NetM w' g s.heal m ∧ Fr (NW g m) w w' := by
  have c2 : w.cell? ⟨g, 2, none⟩ = some (.map (some m.mb)) := h.blk.cell 2
  have H := Lib.hid h
  obtain ⟨w1, hrun, hm1, hf1⟩ := run_clearP h.map 0
  have HM1 := Lib.hid hm1
  have HF1 := Lib.hid hf1
  clear h hm1 hf1
  go_enter Try.func26, Try.ntmps26
  go_wp2
  go_end0
  have hm1 := HM1.out
  have hf1 := HF1.out
  have h := H.out
  refine ⟨rfl, ⟨h.ok, h.n9, h.blk.fr hf1 h.mapg, hm1, h.row.fr hf1 (fun k e e2 => h.rowm (by rw [e, e2])), h.l, fun p hp => (h.each p hp).fr hf1 (fun k hk e => h.apart hp (.inr (.inl e)) hk)⟩, hf1.mono (fun _ _ e => .inr (.inl e))⟩

/-- A packet that is laid: what hands it on leans on new blocks alone. -/
theorem wrap_any (fr to : Int) (n : Nat) (A : Option Addr) (l c : Nat) (bs : List UInt8) (w : World) (hr : Rd8 w A bs) (hl : bs.length = l) (hb : l ≤ 1048576) :
    Calls Try.prog 34 #[.int .i64 fr, .int .i64 to, .int .i64 (n : Int), .slice A l c] w fun e w' => ∃ p : PL, e = .returned (.agg #[.int .i64 p.pk.fr, .int .i64 p.pk.to, .int .i64 (p.pk.n : Int), p.fn]) ∧ p.pk = ⟨fr, to, n, bs⟩ ∧ Hand w' p ∧ (∀ k, HB p k → w.heap.size ≤ k) ∧ Fr (fun _ => False) w w' := by
  have C := Lib.hid (fun w' (hf : Fr (fun _ => False) w w') => clone_any A l c bs w' (hr.fr hf (fun _ _ _ h => h)) hl (by omega))
  have hmf : ∀ (fn : Fn) (first cap : Array Value) (w : World), (Instr.makeFunc fn first cap).run Try.prog w = .ok (.func fn first cap) w := fun _ _ _ _ => rfl
  clear hr
  have hn0 : (0 : Int) ≤ (n : Int) := by omega
  go_enter Try.func34, Try.ntmps34
  go_wp2_with fail
  have fW : Fr (fun _ => False) w ((((w.alloc (.cells #[.int .i64 fr] 3)).alloc (.cells #[.int .i64 to] 3)).alloc (.cells #[.int .i64 (n : Int)] 3)).alloc (.cells #[.int .i64 0, .int .i64 0, .int .i64 0, .nilFunc] 67)) := ((((Fr.refl _ _).alloc _).alloc _).alloc _).alloc _
  have e1 : (w.alloc (.cells #[.int .i64 fr] 3)).heap.size = w.heap.size + 1 := by simp
  have e2 : ((w.alloc (.cells #[.int .i64 fr] 3)).alloc (.cells #[.int .i64 to] 3)).heap.size = w.heap.size + 1 + 1 := by simp
  have e3 : (((w.alloc (.cells #[.int .i64 fr] 3)).alloc (.cells #[.int .i64 to] 3)).alloc (.cells #[.int .i64 (n : Int)] 3)).heap.size = w.heap.size + 1 + 1 + 1 := by simp
  have k1 := (((Bk.new w 3 #[.int .i64 fr]).alloc (.cells #[.int .i64 to] 3)).alloc (.cells #[.int .i64 (n : Int)] 3)).alloc (.cells #[.int .i64 0, .int .i64 0, .int .i64 0, .nilFunc] 67)
  have k2 := ((Bk.new (w.alloc (.cells #[.int .i64 fr] 3)) 3 #[.int .i64 to]).alloc (.cells #[.int .i64 (n : Int)] 3)).alloc (.cells #[.int .i64 0, .int .i64 0, .int .i64 0, .nilFunc] 67)
  have k3 := (Bk.new ((w.alloc (.cells #[.int .i64 fr] 3)).alloc (.cells #[.int .i64 to] 3)) 3 #[.int .i64 (n : Int)]).alloc (.cells #[.int .i64 0, .int .i64 0, .int .i64 0, .nilFunc] 67)
  have k4 := Bk.new (((w.alloc (.cells #[.int .i64 fr] 3)).alloc (.cells #[.int .i64 to] 3)).alloc (.cells #[.int .i64 (n : Int)] 3)) 67 #[.int .i64 0, .int .i64 0, .int .i64 0, .nilFunc]
  have eW : ((((w.alloc (.cells #[.int .i64 fr] 3)).alloc (.cells #[.int .i64 to] 3)).alloc (.cells #[.int .i64 (n : Int)] 3)).alloc (.cells #[.int .i64 0, .int .i64 0, .int .i64 0, .nilFunc] 67)).heap.size = w.heap.size + 1 + 1 + 1 + 1 := by simp
  rw [e1] at k2
  rw [e2] at k3
  rw [e3] at k4
  clear e1 e2 e3
  generalize ((((w.alloc (.cells #[.int .i64 fr] 3)).alloc (.cells #[.int .i64 to] 3)).alloc (.cells #[.int .i64 (n : Int)] 3)).alloc (.cells #[.int .i64 0, .int .i64 0, .int .i64 0, .nilFunc] 67)) = W at *
  refine (C.out W fW).mono ?_; rintro e w1 ⟨A1, c1, rfl, ho, hfr⟩
  have f1 := fW.trans hfr.1 (fun _ _ h => h)
  have g1 := k1.fr hfr.1 (fun h => h)
  have g2 := k2.fr hfr.1 (fun h => h)
  have g3 := k3.fr hfr.1 (fun h => h)
  have g4 := k4.fr hfr.1 (fun h => h)
  have hs1 := hfr.1.size
  have KK := Lib.hid (And.intro g1 (And.intro g2 (And.intro g3 g4)))
  have HO := Lib.hid ho
  have HFR := Lib.hid (fun k hk => by have := hfr.2 k hk; rw [eW] at this; exact this : ∀ k, (Value.slice A1 l c1).ownBlock = some k → w.heap.size + 1 + 1 + 1 + 1 ≤ k)
  have F1 := Lib.hid f1
  have HS := Lib.hid (show w.heap.size + 1 + 1 + 1 + 1 ≤ w1.heap.size by omega)
  have a1 := g1.alloc (.cells #[.slice A1 l c1] 33)
  have a2 := g2.alloc (.cells #[.slice A1 l c1] 33)
  have a3 := g3.alloc (.cells #[.slice A1 l c1] 33)
  have a4 := g4.alloc (.cells #[.slice A1 l c1] 33)
  have m1 : (w1.alloc (.cells #[.slice A1 l c1] 33)).cell? ⟨w.heap.size, 0, none⟩ = some (.int .i64 fr) := a1.cell 0
  have m2 : (w1.alloc (.cells #[.slice A1 l c1] 33)).cell? ⟨w.heap.size + 1, 0, none⟩ = some (.int .i64 to) := a2.cell 0
  have m3 : (w1.alloc (.cells #[.slice A1 l c1] 33)).cell? ⟨w.heap.size + 1 + 1, 0, none⟩ = some (.int .i64 (n : Int)) := a3.cell 0
  have r0 : (w1.alloc (.cells #[.slice A1 l c1] 33)).cell? ⟨w.heap.size + 1 + 1 + 1, 0, none⟩ = some (.int .i64 0) := a4.cell 0
  have r1 : (w1.alloc (.cells #[.slice A1 l c1] 33)).cell? ⟨w.heap.size + 1 + 1 + 1, 1, none⟩ = some (.int .i64 0) := a4.cell 1
  have r2 : (w1.alloc (.cells #[.slice A1 l c1] 33)).cell? ⟨w.heap.size + 1 + 1 + 1, 2, none⟩ = some (.int .i64 0) := a4.cell 2
  have r3 : (w1.alloc (.cells #[.slice A1 l c1] 33)).cell? ⟨w.heap.size + 1 + 1 + 1, 3, none⟩ = some .nilFunc := a4.cell 3
  have q0 := a4.frozen 0
  have q1 := a4.frozen 1
  have q2 := a4.frozen 2
  have q3 := a4.frozen 3
  have A4 := Lib.hid (And.intro a1 (And.intro a2 (And.intro a3 a4)))
  clear a1 a2 a3 a4
  clear g1 g2 g3 g4 k1 k2 k3 k4 eW hs1 ho hfr f1 fW C
  go_wp2
  obtain ⟨a1, a2, a3, a4⟩ := A4.out
  have hb := (((a4.set 0 (.int .i64 fr)).set 1 (.int .i64 to)).set 2 (.int .i64 (n : Int))).set 3 (.func (.func 44) #[] #[.pointer (some ⟨w.heap.size, 0, none⟩), .pointer (some ⟨w.heap.size + 1, 0, none⟩), .pointer (some ⟨w.heap.size + 1 + 1, 0, none⟩), .pointer (some ⟨w1.heap.size, 0, none⟩)])
  have fa : Fr (fun _ => False) w1 (w1.alloc (.cells #[.slice A1 l c1] 33)) := (Fr.refl _ _).alloc _
  have f4 := ((((Bk.fr_set (g := w.heap.size + 1 + 1 + 1) (w := w1.alloc (.cells #[.slice A1 l c1] 33)) 0 (.int .i64 fr)).set 1 (.int .i64 to)).set 2 (.int .i64 (n : Int))).set 3 (.func (.func 44) #[] #[.pointer (some ⟨w.heap.size, 0, none⟩), .pointer (some ⟨w.heap.size + 1, 0, none⟩), .pointer (some ⟨w.heap.size + 1 + 1, 0, none⟩), .pointer (some ⟨w1.heap.size, 0, none⟩)]))
  have hs := HS.out
  have m0 := hb.cell 0
  have m1 := hb.cell 1
  have m2 := hb.cell 2
  have m3 := hb.cell 3
  simp at m0 m1 m2 m3
  have fin : Fr (fun _ => False) w _ := (F1.out.trans fa (fun _ _ h => h)).trans f4 (fun x hx e => by omega)
  refine bodyPost_ret (v := .agg #[.int .i64 fr, .int .i64 to, .int .i64 (n : Int), .func (.func 44) #[] #[.pointer (some ⟨w.heap.size, 0, none⟩), .pointer (some ⟨w.heap.size + 1, 0, none⟩), .pointer (some ⟨w.heap.size + 1 + 1, 0, none⟩), .pointer (some ⟨w1.heap.size, 0, none⟩)]]) (by simp [results, Try.results34, go_sem, m0, m1, m2, m3]) rfl
    ⟨⟨⟨fr, to, n, bs⟩, w.heap.size, w.heap.size + 1, w.heap.size + 1 + 1, w1.heap.size, A1, c1⟩, rfl, rfl, ⟨a1.fr f4 (by omega), a2.fr f4 (by omega), a3.fr f4 (by omega), ?_, ?_, by show bs.length ≤ 1048576; omega⟩, fun k hk => ?_, fin⟩
  · have := (Bk.new w1 33 #[.slice A1 l c1]).fr f4 (by omega)
    simpa [hl] using this
  · have := (HO.out.fr fa (fun _ _ h => h)).fr f4 (fun k hk e => by have := HFR.out k hk; omega)
    simpa [hl] using this
  · rcases hk with e | e | e | e | e
    · simp only at e; omega
    · simp only at e; omega
    · simp only at e; omega
    · simp only at e; omega
    · have := HFR.out k (by simpa [hl] using e); omega
end Go.Proofs.Ytmlckocgahfnkaa
