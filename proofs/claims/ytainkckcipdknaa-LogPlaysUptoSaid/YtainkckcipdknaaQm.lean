/- The reference's rows of entries: of, copied, rises, New. -/
import Derived.Test.YtainkckcipdknaaQl
namespace Go.Proofs.Ytainkckcipdknaa
open Go.RowKit

/-- append(s, x...) met alone in a region that draws. -/
theorem stepOf_append8s {P : Program} {ops : Array Oper} {o : Oper} {a : Go.Act} {w : World} {K' : Go.Act → World → Prop} {Q : Exit → Go.Act → World → Prop} (hgd : o.guard = none) (s x : Operand) {t e : TypeId} (hT : T8 P t e)
    (ho : o.op = .call { callee := .builtin .append, args := #[s, x], argTypes := #[t, t] })
    (v : Value) (bs : List UInt8) (hs : a.eval s = v) (hown : Own8 w e v bs) (A : Option Addr) (m c : Nat) (xs : List UInt8) (hx : a.eval x = .slice A m c) (hm : xs.length = m) (hr : Rd8 w A xs) (hlen : bs.length + xs.length ≤ 140737488355328)
    (h : ∀ A' c' w', Own8 w' e (.slice A' (bs.length + xs.length) c') (bs ++ xs) → Fr (fun k => v.ownBlock = some k) w w' → Moved w v (.slice A' (bs.length + xs.length) c') → K' (a.put o.dst (.slice A' (bs.length + xs.length) c')) w') :
    if Region.wanted o (yielded ops a.tmps) = true then Oper.wp P o a w K' Q else K' (a.put o.dst undef) w := by
  rw [if_pos (by simp [Region.wanted, hgd])]
  subst hm
  obtain ⟨A', c', w', hr, h2, h3, h4, _⟩ := run_append8 (P := P) w hT o.type hown A c xs hr hlen
  unfold Oper.wp execOp
  simp only [ho, resolve, invoke, builtin, Sem.run_bind, Sem.run_pure, Result.andThen_ok, List.map_toArray, List.map_cons, List.map_nil, hs, hx, hr]
  exact h A' c' w' h2 h3 h4


/-- One entry in a block of its own. -/
theorem sl_one (w : World) (T : TypeId) (x y : Value) : Sl (w.alloc (.cells #[x, y] T)) 2 (.slice (some ⟨w.heap.size, 0, none⟩) 1 1) 1 [x, y] := by
  have hb := Bk.new w T #[x, y]
  refine Sl.at rfl rfl (fun j u hu => ?_)
  rw [Nat.zero_add, hb.cell]
  simpa using hu
/-- A row under way, new since w; its bytes are anyone's. -/
structure Rw (w wr : World) (T : TypeId) (v : Value) (qs : List EL) : Prop where
  row : Row wr T 2 v qs.length (elc qs)
  fr : Fr (fun _ => False) w wr
  new : ∀ k, v.ownBlock = some k → w.heap.size ≤ k
theorem Rw.nil (w : World) (T : TypeId) : Rw w w T (.slice none 0 0) [] := ⟨Row.nil _ _ _, Fr.refl _ _, fun k e => by simp [Value.ownBlock] at e⟩
theorem Rw.fr0 {w wr w' : World} {T : TypeId} {v : Value} {qs : List EL} (h : Rw w wr T v qs) (hf : Fr (fun _ => False) wr w') : Rw w w' T v qs := ⟨h.row.fr0 hf, h.fr.trans hf (fun _ _ h => h), h.new⟩
theorem Rw.put {w w2 w3 : World} {T : TypeId} {v v3 : Value} {qs : List EL} {q : EL} {m : Nat} {cs : List Value} (h : Rw w w2 T v qs) (hc : cs = q.cells) (hr : Row w3 T 2 v3 m (elc qs ++ cs)) (hm : m = qs.length + 1) (hf : Fr (fun k => v.ownBlock = some k) w2 w3) (hmv : Moved w2 v v3) : Rw w w3 T v3 (qs ++ [q]) := by
  refine ⟨?_, ?_, fun k e => ?_⟩
  · rw [elc_app, List.length_append, List.length_singleton, ← hm]
    have e2 : elc [q] = q.cells := by simp [elc]
    rw [e2, ← hc]; exact hr
  · exact h.fr.trans hf (fun x hx e => by have := h.new x e; omega)
  · rcases hmv with h9 | ⟨y, h9, hy⟩
    · exact h.new k (h9 ▸ e)
    · rw [h9] at e
      injection e with e
      have := h.fr.size
      omega
/-- Bytes of their own beside it. -/
theorem Rw.own_put {w w2 w3 : World} {T : TypeId} (hT : T ≠ 5) {v : Value} {qs : List EL} (h : Rw w w2 T v qs) (hf : Fr (fun k => v.ownBlock = some k) w2 w3) {q : EL} (ho : OwE w2 q) : OwE w3 q := by
  refine ho.fr hf (fun k e1 e2 => ?_)
  obtain ⟨cur, hb⟩ := h.row.bk e2
  exact ho.own.ne hb (fun e => hT e.symm) e1
theorem take_succ_map {ps : List EL} {es : List En} (hes : ps.map EL.e = es) {k : Nat} (hk : k < ps.length) {qs : List EL} (hq : qs.map EL.e = es.take k) {q : EL} (he : q.e = (ps.getD k default).e) : (qs ++ [q]).map EL.e = es.take (k + 1) := by
  have hl : k < es.length := by rw [← hes, List.length_map]; exact hk
  rw [List.map_append, hq, take_succ_getD hl, List.map_cons, List.map_nil, he, ← getD_map EL.e hk, hes]

set_option maxRecDepth 100000 in
set_option maxHeartbeats 4000000 in
theorem of_any (A : Option Addr) (n c : Nat) (ps : List EL) (G : Nat → Prop) (w : World) (h : Es w A n ps G) (hn : n ≤ 4999999999999) :
    Calls Try.prog 12 #[.slice A n c] w fun e w' => ∃ A' c', e = .returned (.slice A' n c') ∧ Rw w w' 68 (.slice A' n c') ps := by
  have H := Lib.hid h
  have HL := Lib.hid h.len
  have hnI : (n : Int) ≤ 4999999999999 := by omega
  clear h hn
  go_enter Try.func12, Try.ntmps12
  go_wp2_with fail
  go_loopw [4, 3] (fun u v wr => ∃ (k : Nat) (A3 : Option Addr) (c3 : Nat), u = .int .i64 (k : Int) ∧ v = .slice A3 k c3 ∧ k ≤ n ∧ Rw w wr 68 (.slice A3 k c3) (ps.take k)) (fun u _ _ => n - (intOf u).toNat)
  case atStart => exact ⟨0, none, 0, rfl, rfl, Nat.zero_le _, by rw [List.take_zero]; exact Rw.nil _ _⟩
  case round =>
    obtain ⟨k, A3, c3, rfl, rfl, hk, hrw⟩ := hrel
    have hRW := Lib.hid hrw
    clear hrw
    have hk0 : (0 : Int) ≤ (k : Int) := by omega
    by_cases hlt : k < n
    · have hlt' : (k : Int) < n := by omega
      have HTK : Hid ((ps.take k).length = k) := Lib.hid (by rw [List.length_take, HL.out]; omega)
      obtain ⟨b, off, rfl, _⟩ := H.out.at hlt
      obtain ⟨p, hp⟩ : ∃ p, ps.getD k default = p := ⟨_, rfl⟩
      have HSU : Hid (ps.take k ++ [p] = ps.take (k + 1)) := Lib.hid (by rw [take_succ_getD (by rw [HL.out]; exact hlt), hp])
      have HA : Hid (∀ w', Fr (fun _ => False) wr w' → w'.cell? ⟨b, off + k * 2, none⟩ = some (.int .i64 p.e.t) ∧ w'.cell? ⟨b, off + k * 2 + 1, none⟩ = some (.slice p.A p.e.d.length p.c)) := Lib.hid (fun w' hf => by
        obtain ⟨q0, q1, _⟩ := (H.out.fr0 (hRW.out.fr.trans hf (fun _ _ h => h))).at' hlt
        rw [hp] at q0 q1
        exact ⟨q0, q1⟩)
      clear hp
      go_wp2_with fail
      refine wp_region_Z [13] (fun w' => Fr (fun _ => False) wr w') (by kernel_rfl) ((Fr.refl _ _).drew) (fun hHeld => ?_)
      refine anyZ_pure (i := 0) (v := ?_) (some 11) rfl rfl (by kernel_rfl) (by kernel_rfl) (by kernel_rfl) (by kernel_rfl) (fun _ _ _ h => h) (Or.inl ⟨by rfl, ?_⟩) (fun _ => hHeld) ?_
      rotate_left
      · intro w' _
        go_simp
        first | done | with_reducible rfl
      try simp only [Go.Act.put, List.setIfInBounds_toArray, List.set_cons_zero, List.set_cons_succ]
      refine anyZ_pure (i := 1) (v := ?_) (some 12) rfl rfl (by kernel_rfl) (by kernel_rfl) (by kernel_rfl) (by kernel_rfl) (fun _ _ _ h => h) (Or.inl ⟨by rfl, ?_⟩) (fun _ => hHeld) ?_
      rotate_left
      · intro w' _
        go_simp
        first | done | with_reducible rfl
      try simp only [Go.Act.put, List.setIfInBounds_toArray, List.set_cons_zero, List.set_cons_succ]
      refine anyZ_pure (i := 2) (v := ?_) (some 13) rfl rfl (by kernel_rfl) (by kernel_rfl) (by kernel_rfl) (by kernel_rfl) (fun _ _ _ h => h) (Or.inl ⟨by rfl, ?_⟩) (fun _ => hHeld) ?_
      rotate_left
      · intro w' _
        go_simp
        first | done | with_reducible rfl
      try simp only [Go.Act.put, List.setIfInBounds_toArray, List.set_cons_zero, List.set_cons_succ]
      refine anyZ_pure (i := 3) (v := ?_) (some 14) rfl rfl (by kernel_rfl) (by kernel_rfl) (by kernel_rfl) (by kernel_rfl) (fun _ _ _ h => h) (Or.inl ⟨by rfl, ?_⟩) (fun _ => hHeld) ?_
      rotate_left
      · intro w' _
        go_simp
        first | done | with_reducible rfl
      try simp only [Go.Act.put, List.setIfInBounds_toArray, List.set_cons_zero, List.set_cons_succ]
      refine anyZ_pure (i := 4) (v := ?_) (some 15) rfl rfl (by kernel_rfl) (by kernel_rfl) (by kernel_rfl) (by kernel_rfl) (fun _ _ _ h => h) (Or.inl ⟨by rfl, ?_⟩) (fun _ => hHeld) ?_
      rotate_left
      · intro w' _
        go_simp
        first | done | with_reducible rfl
      try simp only [Go.Act.put, List.setIfInBounds_toArray, List.set_cons_zero, List.set_cons_succ]
      refine anyZ_read (i := 5) (v := ?_) (some 16) [11, 12, 13, 14] rfl rfl (by kernel_rfl) (by kernel_rfl) (by kernel_rfl) (by kernel_rfl) (by kernel_rfl) (by kernel_rfl) (fun _ _ _ h => h) (Or.inl ⟨by rfl, ?_⟩) hHeld ?_
      rotate_left
      · intro w' hSw
        obtain ⟨q0, q1⟩ := HA.out w' hSw
        go_simp
        first | done | with_reducible rfl
      try simp only [Go.Act.put, List.setIfInBounds_toArray, List.set_cons_zero, List.set_cons_succ]
      refine anyZ_pure (i := 6) (v := ?_) (some 17) rfl rfl (by kernel_rfl) (by kernel_rfl) (by kernel_rfl) (by kernel_rfl) (fun _ _ _ h => h) (Or.inl ⟨by rfl, ?_⟩) (fun _ => hHeld) ?_
      rotate_left
      · intro w' _
        go_simp
        first | done | with_reducible rfl
      try simp only [Go.Act.put, List.setIfInBounds_toArray, List.set_cons_zero, List.set_cons_succ]
      refine anyZ_pure (i := 7) (v := ?_) (some 18) rfl rfl (by kernel_rfl) (by kernel_rfl) (by kernel_rfl) (by kernel_rfl) (fun _ _ _ h => h) (Or.inl ⟨by rfl, ?_⟩) (fun _ => hHeld) ?_
      rotate_left
      · intro w' _
        go_simp
        first | done | with_reducible rfl
      try simp only [Go.Act.put, List.setIfInBounds_toArray, List.set_cons_zero, List.set_cons_succ]
      refine anyZ_pure (i := 8) (v := ?_) (some 19) rfl rfl (by kernel_rfl) (by kernel_rfl) (by kernel_rfl) (by kernel_rfl) (fun _ _ _ h => h) (Or.inl ⟨by rfl, ?_⟩) (fun _ => hHeld) ?_
      rotate_left
      · intro w' _
        go_simp
        first | done | with_reducible rfl
      try simp only [Go.Act.put, List.setIfInBounds_toArray, List.set_cons_zero, List.set_cons_succ]
      refine anyZ_pure (i := 9) (v := ?_) (some 20) rfl rfl (by kernel_rfl) (by kernel_rfl) (by kernel_rfl) (by kernel_rfl) (fun _ _ _ h => h) (Or.inl ⟨by rfl, ?_⟩) (fun _ => hHeld) ?_
      rotate_left
      · intro w' _
        go_simp
        first | done | with_reducible rfl
      try simp only [Go.Act.put, List.setIfInBounds_toArray, List.set_cons_zero, List.set_cons_succ]
      refine anyZ_read (i := 10) (v := ?_) (some 21) [11, 12, 13, 14] rfl rfl (by kernel_rfl) (by kernel_rfl) (by kernel_rfl) (by kernel_rfl) (by kernel_rfl) (by kernel_rfl) (fun _ _ _ h => h) (Or.inl ⟨by rfl, ?_⟩) hHeld ?_
      rotate_left
      · intro w' hSw
        obtain ⟨q0, q1⟩ := HA.out w' hSw
        go_simp
        first | done | with_reducible rfl
      try simp only [Go.Act.put, List.setIfInBounds_toArray, List.set_cons_zero, List.set_cons_succ]
      refine anyZ_pure (i := 11) (v := ?_) (some 22) rfl rfl (by kernel_rfl) (by kernel_rfl) (by kernel_rfl) (by kernel_rfl) (fun _ _ _ h => h) (Or.inl ⟨by rfl, ?_⟩) (fun _ => hHeld) ?_
      rotate_left
      · intro w' _
        go_simp
        first | done | with_reducible rfl
      try simp only [Go.Act.put, List.setIfInBounds_toArray, List.set_cons_zero, List.set_cons_succ]
      refine anyZ_ready (rs := [12]) (by kernel_rfl) (by simp) ?_
      refine AllZ.step rfl (fun K hK => ?_) AllZ.nil
      have hHeld0 := hHeld
      go_simp
      have hRw := hRW.out.fr0 (hHeld.alloc (.cells #[.int .i64 p.e.t, .slice p.A p.e.d.length p.c] 68))
      refine hK.out _ _ (hHeld.alloc _) (fun hHeld => ?_)
      clear hK K
      try change anyZ _ _ _ _ _ _ _ _ (Go.Act.put _ (some 23) _) _
      try simp only [Go.Act.put, List.setIfInBounds_toArray, List.set_cons_zero, List.set_cons_succ]
      refine anyZ_ready (rs := [13]) (by kernel_rfl) (by simp) ?_
      refine AllZ.last rfl (by kernel_rfl) (fun K hK => ?_) AllZ.nil
      refine stepOf_appendW Try.teR rfl (.tmp 11) (.tmp 23) rfl (.slice A3 k c3) k (elc (ps.take k)) rfl (by have h9 := hRw.row; rw [HTK.out] at h9; exact h9) _ 1 [.int .i64 p.e.t, .slice p.A p.e.d.length p.c] rfl (sl_one _ _ _ _) (by intro u hu; simp at hu; rcases hu with rfl | rfl <;> rfl) (by unfold maxLen; omega) (by omega) ?_
      intro A4 c4 w4 hr4 hf4 hm4
      have HN4 := Lib.hid (hRw.put (q := p) rfl hr4 (by rw [HTK.out]) hf4 hm4)
      clear hr4 hf4 hm4 hRw
      refine hK.out _ _ ?_
      clear hK K
      try change anyZ _ _ _ _ _ _ _ _ (Go.Act.put _ (some 24) _) _
      try simp only [Go.Act.put, List.setIfInBounds_toArray, List.set_cons_zero, List.set_cons_succ]
      refine anyZ_pure (i := 14) (v := ?_) (some 3) rfl rfl (by kernel_rfl) (by kernel_rfl) (by kernel_rfl) (by kernel_rfl) (fun _ _ _ h => h) (Or.inl ⟨by rfl, ?_⟩) (notYet (by kernel_rfl)) ?_
      rotate_left
      · intro w' _
        go_simp
        first | done | with_reducible rfl
      try simp only [Go.Act.put, List.setIfInBounds_toArray, List.set_cons_zero, List.set_cons_succ]
      refine anyZ_done (by kernel_rfl) ?_ _
      clear hHeld hHeld0
      go_wp2_with fail
      refine ⟨⟨k + 1, A4, c4, by simp, rfl, by omega, ?_⟩, ?_⟩
      · have h9 := HN4.out
        rw [HSU.out] at h9
        exact h9
      · first | omega | (show _ < _; simp [intOf]; omega)
    · obtain rfl : k = n := by omega
      go_wp2
      go_ret
      have h9 := hRW.out
      rw [List.take_of_length_le (by rw [HL.out]; exact Nat.le_refl _)] at h9
      exact ⟨A3, c3, rfl, h9⟩

set_option maxRecDepth 100000 in
set_option maxHeartbeats 4000000 in
theorem copied_any (A : Option Addr) (n c : Nat) (ps : List EL) (G : Nat → Prop) (w : World) (h : Es w A n ps G) (hn : n ≤ 4999999999999) :
    Calls Try.prog 31 #[.slice A n c] w fun e w' => ∃ A' c' qs, e = .returned (.slice A' n c') ∧ NewE w w' 68 (.slice A' n c') qs ∧ qs.map EL.e = ps.map EL.e := by
  have H := Lib.hid h
  have HL := Lib.hid h.len
  have hnI : (n : Int) ≤ 4999999999999 := by omega
  obtain ⟨es, hes⟩ : ∃ es, ps.map EL.e = es := ⟨_, rfl⟩
  have HES := Lib.hid hes
  have HEL : Hid (es.length = n) := Lib.hid (by rw [← hes, List.length_map, h.len])
  rw [hes]
  clear h hn hes
  go_enter Try.func31, Try.ntmps31
  go_wp2_with fail
  go_loopw [4, 3] (fun u v wr => ∃ (k : Nat) (A3 : Option Addr) (c3 : Nat) (qs : List EL), u = .int .i64 (k : Int) ∧ v = .slice A3 k c3 ∧ k ≤ n ∧ Rw w wr 68 (.slice A3 k c3) qs ∧ qs.map EL.e = es.take k ∧ ∀ q ∈ qs, OwE wr q ∧ ∀ x, q.bv.ownBlock = some x → w.heap.size ≤ x) (fun u _ _ => n - (intOf u).toNat)
  case atStart => exact ⟨0, none, 0, [], rfl, rfl, Nat.zero_le _, Rw.nil _ _, rfl, fun q hq => by cases hq⟩
  case round =>
    obtain ⟨k, A3, c3, qs, rfl, rfl, hk, hrw, hqe, hall⟩ := hrel
    have hRW := Lib.hid hrw
    have HQE := Lib.hid hqe
    have hALL := Lib.hid hall
    have HQL : Hid (qs.length = k) := Lib.hid (by have := congrArg List.length hqe; rw [List.length_map, List.length_take, HEL.out] at this; omega)
    clear hrw hqe hall
    have hk0 : (0 : Int) ≤ (k : Int) := by omega
    by_cases hlt : k < n
    · have hlt' : (k : Int) < n := by omega
      obtain ⟨b, off, rfl, _⟩ := H.out.at hlt
      obtain ⟨p, hp⟩ : ∃ p, ps.getD k default = p := ⟨_, rfl⟩
      have HP := Lib.hid hp
      have HOK : Hid p.ok := Lib.hid (by rw [← hp]; exact (H.out.at' hlt).2.2.ok)
      have HA : Hid (∀ w', Fr (fun _ => False) wr w' → w'.cell? ⟨b, off + k * 2, none⟩ = some (.int .i64 p.e.t) ∧ w'.cell? ⟨b, off + k * 2 + 1, none⟩ = some (.slice p.A p.e.d.length p.c) ∧ Rd8 w' p.A p.e.d) := Lib.hid (fun w' hf => by
        obtain ⟨q0, q1, q2⟩ := (H.out.fr0 (hRW.out.fr.trans hf (fun _ _ h => h))).at' hlt
        rw [hp] at q0 q1 q2
        exact ⟨q0, q1, q2.rd⟩)
      clear hp
      go_wp2_with fail
      refine wp_region_Z [15] (fun w' => Fr (fun _ => False) wr w') (by kernel_rfl) ((Fr.refl _ _).drew) (fun hHeld => ?_)
      refine anyZ_pure (i := 0) (v := ?_) (some 11) rfl rfl (by kernel_rfl) (by kernel_rfl) (by kernel_rfl) (by kernel_rfl) (fun _ _ _ h => h) (Or.inl ⟨by rfl, ?_⟩) (fun _ => hHeld) ?_
      rotate_left
      · intro w' _
        go_simp
        first | done | with_reducible rfl
      try simp only [Go.Act.put, List.setIfInBounds_toArray, List.set_cons_zero, List.set_cons_succ]
      refine anyZ_pure (i := 1) (v := ?_) (some 12) rfl rfl (by kernel_rfl) (by kernel_rfl) (by kernel_rfl) (by kernel_rfl) (fun _ _ _ h => h) (Or.inl ⟨by rfl, ?_⟩) (fun _ => hHeld) ?_
      rotate_left
      · intro w' _
        go_simp
        first | done | with_reducible rfl
      try simp only [Go.Act.put, List.setIfInBounds_toArray, List.set_cons_zero, List.set_cons_succ]
      refine anyZ_pure (i := 2) (v := ?_) (some 13) rfl rfl (by kernel_rfl) (by kernel_rfl) (by kernel_rfl) (by kernel_rfl) (fun _ _ _ h => h) (Or.inl ⟨by rfl, ?_⟩) (fun _ => hHeld) ?_
      rotate_left
      · intro w' _
        go_simp
        first | done | with_reducible rfl
      try simp only [Go.Act.put, List.setIfInBounds_toArray, List.set_cons_zero, List.set_cons_succ]
      refine anyZ_pure (i := 3) (v := ?_) (some 14) rfl rfl (by kernel_rfl) (by kernel_rfl) (by kernel_rfl) (by kernel_rfl) (fun _ _ _ h => h) (Or.inl ⟨by rfl, ?_⟩) (fun _ => hHeld) ?_
      rotate_left
      · intro w' _
        go_simp
        first | done | with_reducible rfl
      try simp only [Go.Act.put, List.setIfInBounds_toArray, List.set_cons_zero, List.set_cons_succ]
      refine anyZ_pure (i := 4) (v := ?_) (some 15) rfl rfl (by kernel_rfl) (by kernel_rfl) (by kernel_rfl) (by kernel_rfl) (fun _ _ _ h => h) (Or.inl ⟨by rfl, ?_⟩) (fun _ => hHeld) ?_
      rotate_left
      · intro w' _
        go_simp
        first | done | with_reducible rfl
      try simp only [Go.Act.put, List.setIfInBounds_toArray, List.set_cons_zero, List.set_cons_succ]
      refine anyZ_read (i := 5) (v := ?_) (some 16) [13, 14, 15, 16] rfl rfl (by kernel_rfl) (by kernel_rfl) (by kernel_rfl) (by kernel_rfl) (by kernel_rfl) (by kernel_rfl) (fun _ _ _ h => h) (Or.inl ⟨by rfl, ?_⟩) hHeld ?_
      rotate_left
      · intro w' hSw
        obtain ⟨q0, q1, _⟩ := HA.out w' hSw
        go_simp
        first | done | with_reducible rfl
      try simp only [Go.Act.put, List.setIfInBounds_toArray, List.set_cons_zero, List.set_cons_succ]
      refine anyZ_pure (i := 7) (v := ?_) (some 18) rfl rfl (by kernel_rfl) (by kernel_rfl) (by kernel_rfl) (by kernel_rfl) (fun _ _ _ h => h) (Or.inl ⟨by rfl, ?_⟩) (fun _ => hHeld) ?_
      rotate_left
      · intro w' _
        go_simp
        first | done | with_reducible rfl
      try simp only [Go.Act.put, List.setIfInBounds_toArray, List.set_cons_zero, List.set_cons_succ]
      refine anyZ_pure (i := 8) (v := ?_) (some 19) rfl rfl (by kernel_rfl) (by kernel_rfl) (by kernel_rfl) (by kernel_rfl) (fun _ _ _ h => h) (Or.inl ⟨by rfl, ?_⟩) (fun _ => hHeld) ?_
      rotate_left
      · intro w' _
        go_simp
        first | done | with_reducible rfl
      try simp only [Go.Act.put, List.setIfInBounds_toArray, List.set_cons_zero, List.set_cons_succ]
      refine anyZ_pure (i := 9) (v := ?_) (some 20) rfl rfl (by kernel_rfl) (by kernel_rfl) (by kernel_rfl) (by kernel_rfl) (fun _ _ _ h => h) (Or.inl ⟨by rfl, ?_⟩) (fun _ => hHeld) ?_
      rotate_left
      · intro w' _
        go_simp
        first | done | with_reducible rfl
      try simp only [Go.Act.put, List.setIfInBounds_toArray, List.set_cons_zero, List.set_cons_succ]
      refine anyZ_pure (i := 10) (v := ?_) (some 21) rfl rfl (by kernel_rfl) (by kernel_rfl) (by kernel_rfl) (by kernel_rfl) (fun _ _ _ h => h) (Or.inl ⟨by rfl, ?_⟩) (fun _ => hHeld) ?_
      rotate_left
      · intro w' _
        go_simp
        first | done | with_reducible rfl
      try simp only [Go.Act.put, List.setIfInBounds_toArray, List.set_cons_zero, List.set_cons_succ]
      refine anyZ_read (i := 11) (v := ?_) (some 22) [12, 13, 14, 15, 16] rfl rfl (by kernel_rfl) (by kernel_rfl) (by kernel_rfl) (by kernel_rfl) (by kernel_rfl) (by kernel_rfl) (fun _ _ _ h => h) (Or.inl ⟨by rfl, ?_⟩) hHeld ?_
      rotate_left
      · intro w' hSw
        obtain ⟨q0, q1, _⟩ := HA.out w' hSw
        go_simp
        first | done | with_reducible rfl
      try simp only [Go.Act.put, List.setIfInBounds_toArray, List.set_cons_zero, List.set_cons_succ]
      refine anyZ_ready (rs := [6]) (by kernel_rfl) (by simp) ?_
      refine AllZ.step rfl (fun K hK => ?_) AllZ.nil
      go_simp
      have ho0 : Own8 (wr.alloc (.cells #[] 5)).drew 5 (.slice (some ⟨wr.heap.size, 0, none⟩) 0 0) [] := Own8.fresh wr 5 #[] 0 rfl (by decide)
      refine hK.out _ _ (hHeld.alloc _) (fun hHeld => ?_)
      clear hK K
      try change anyZ _ _ _ _ _ _ _ _ (Go.Act.put _ (some 17) _) _
      try simp only [Go.Act.put, List.setIfInBounds_toArray, List.set_cons_zero, List.set_cons_succ]
      refine anyZ_ready (rs := [12]) (by kernel_rfl) (by simp) ?_
      refine AllZ.step rfl (fun K hK => ?_) AllZ.nil
      refine stepOf_append8s rfl (.tmp 17) (.tmp 22) Try.t8n rfl (.slice (some ⟨wr.heap.size, 0, none⟩) 0 0) [] rfl ho0 p.A p.e.d.length p.c p.e.d rfl rfl (HA.out _ hHeld).2.2 (by simp; have := HOK.out.2.2; omega) ?_
      intro A1 c1 w1 ho1 hf1 hm1
      have hwn : ∀ k, (Value.slice (some ⟨wr.heap.size, 0, none⟩) 0 0).ownBlock = some k → wr.heap.size ≤ k := fun k hk => Nat.le_of_eq (by injection hk)
      have hfr1 : Fresh wr w1 (.slice A1 (([] : List UInt8).length + p.e.d.length) c1) := Fresh.step (v1 := .slice (some ⟨wr.heap.size, 0, none⟩) 0 0) ⟨hHeld, hwn⟩ hf1 hm1
      simp only [List.length_nil, Nat.zero_add, List.nil_append] at ho1 hfr1 ⊢
      refine hK.out _ _ (hfr1.1) (fun hHeld => ?_)
      clear hK K
      try change anyZ _ _ _ _ _ _ _ _ (Go.Act.put _ (some 23) _) _
      try simp only [Go.Act.put, List.setIfInBounds_toArray, List.set_cons_zero, List.set_cons_succ]
      refine anyZ_pure (i := 13) (v := ?_) (some 24) rfl rfl (by kernel_rfl) (by kernel_rfl) (by kernel_rfl) (by kernel_rfl) (fun _ _ _ h => h) (Or.inl ⟨by rfl, ?_⟩) (fun _ => hHeld) ?_
      rotate_left
      · intro w' _
        go_simp
        first | done | with_reducible rfl
      try simp only [Go.Act.put, List.setIfInBounds_toArray, List.set_cons_zero, List.set_cons_succ]
      refine anyZ_ready (rs := [14]) (by kernel_rfl) (by simp) ?_
      refine AllZ.step rfl (fun K hK => ?_) AllZ.nil
      go_simp
      have hRw := hRW.out.fr0 (hHeld.alloc (.cells #[.int .i64 p.e.t, .slice A1 p.e.d.length c1] 68))
      have ho2 : OwE (w1.alloc (.cells #[.int .i64 p.e.t, .slice A1 p.e.d.length c1] 68)) (EL.at p A1 c1) := ⟨Own8.fr (S := fun _ => False) ho1 ((Fr.refl _ _).alloc _) (fun _ _ h => h), HOK.out⟩
      have hall2 := fun q hq => (hALL.out q hq).1.fr (hHeld.alloc (.cells #[.int .i64 p.e.t, .slice A1 p.e.d.length c1] 68)) (fun _ _ h => h)
      refine hK.out _ _ (hHeld.alloc _) (fun hHeld => ?_)
      clear hK K
      try change anyZ _ _ _ _ _ _ _ _ (Go.Act.put _ (some 25) _) _
      try simp only [Go.Act.put, List.setIfInBounds_toArray, List.set_cons_zero, List.set_cons_succ]
      refine anyZ_ready (rs := [15]) (by kernel_rfl) (by simp) ?_
      refine AllZ.last rfl (by kernel_rfl) (fun K hK => ?_) AllZ.nil
      refine stepOf_appendW Try.teR rfl (.tmp 11) (.tmp 25) rfl (.slice A3 k c3) k (elc qs) rfl (by have h9 := hRw.row; rw [HQL.out] at h9; exact h9) _ 1 [.int .i64 p.e.t, .slice A1 p.e.d.length c1] rfl (sl_one _ _ _ _) (by intro u hu; simp at hu; rcases hu with rfl | rfl <;> rfl) (by unfold maxLen; omega) (by omega) ?_
      intro A4 c4 w4 hr4 hf4 hm4
      have HN4 := Lib.hid (hRw.put (q := EL.at p A1 c1) rfl hr4 (by rw [HQL.out]) hf4 hm4)
      have HO4 := Lib.hid (hRw.own_put (by decide) hf4 ho2)
      have HAL4 := Lib.hid (fun q hq => hRw.own_put (by decide) hf4 (hall2 q hq))
      have HFR1 := Lib.hid hfr1.2
      clear hr4 hf4 hm4 hRw ho2 hall2 ho0 hf1 hm1
      refine hK.out _ _ ?_
      clear hK K
      try change anyZ _ _ _ _ _ _ _ _ (Go.Act.put _ (some 26) _) _
      try simp only [Go.Act.put, List.setIfInBounds_toArray, List.set_cons_zero, List.set_cons_succ]
      refine anyZ_pure (i := 16) (v := ?_) (some 3) rfl rfl (by kernel_rfl) (by kernel_rfl) (by kernel_rfl) (by kernel_rfl) (fun _ _ _ h => h) (Or.inl ⟨by rfl, ?_⟩) (notYet (by kernel_rfl)) ?_
      rotate_left
      · intro w' _
        go_simp
        first | done | with_reducible rfl
      try simp only [Go.Act.put, List.setIfInBounds_toArray, List.set_cons_zero, List.set_cons_succ]
      refine anyZ_done (by kernel_rfl) ?_ _
      clear hHeld ho1 hfr1
      go_wp2_with fail
      refine ⟨⟨k + 1, A4, c4, qs ++ [EL.at p A1 c1], by simp, rfl, by omega, HN4.out, ?_, ?_⟩, ?_⟩
      · exact take_succ_map HES.out (by rw [HL.out]; exact hlt) HQE.out (by rw [HP.out]; rfl)
      · intro q hq
        rcases List.mem_append.1 hq with hq | hq
        · exact ⟨HAL4.out q hq, (hALL.out q hq).2⟩
        · simp at hq
          subst hq
          exact ⟨HO4.out, fun x hx => Nat.le_trans hRW.out.fr.size (HFR1.out x hx)⟩
      · first | omega | (show _ < _; simp [intOf]; omega)
    · obtain rfl : k = n := by omega
      go_wp2
      go_ret
      refine ⟨A3, c3, qs, rfl, ⟨⟨hRW.out.row, fun q hq => (hALL.out q hq).1⟩, hRW.out.fr, fun x hx => ?_⟩, ?_⟩
      · rcases hx with e | ⟨q, hq, e⟩
        · exact hRW.out.new x e
        · exact (hALL.out q hq).2 x e
      · rw [HQE.out, List.take_of_length_le (by rw [HEL.out]; exact Nat.le_refl _)]

set_option maxRecDepth 100000 in
set_option maxHeartbeats 4000000 in
theorem rises_any (t : Int) (A : Option Addr) (n c : Nat) (ps : List EL) (G : Nat → Prop) (w : World) (h : Es w A n ps G) (hn : n ≤ 5000000000000) :
    Calls Try.prog 30 #[.int .i64 t, .slice A n c] w fun e w' => e = .returned (.bool (rise t (ps.map EL.e))) ∧ Fr (fun _ => False) w w' := by
  have H := Lib.hid h
  have HL := Lib.hid h.len
  obtain ⟨es, hes⟩ : ∃ es, ps.map EL.e = es := ⟨_, rfl⟩
  have HE := Lib.hid hes
  have HEL : Hid (es.length = n) := Lib.hid (by rw [← hes, List.length_map, h.len])
  rw [hes]
  have hnI : (n : Int) ≤ 5000000000000 := by omega
  clear h hes hn
  go_enter Try.func30, Try.ntmps30
  go_wp2_with fail
  go_loopw [5, 0] (fun u v wr => ∃ (k : Nat) (m : Int), u = .int .i64 (k : Int) ∧ v = .int .i64 m ∧ k ≤ n ∧ riseL (max m 1) (es.drop k) = rise t es ∧ Fr (fun _ => False) w wr) (fun u _ _ => n - (intOf u).toNat)
  case atStart => exact ⟨0, t, rfl, rfl, Nat.zero_le _, rfl, Fr.refl _ _⟩
  case round =>
    obtain ⟨k, m, rfl, rfl, hk, hr, hf⟩ := hrel
    have HR := Lib.hid hr
    have HF := Lib.hid hf
    have hk0 : (0 : Int) ≤ (k : Int) := by omega
    clear hr hf
    by_cases hlt : k < n
    · have hlt' : (k : Int) < n := by omega
      obtain ⟨b, off, rfl, e0, _, he⟩ := (H.out.fr0 HF.out).at hlt
      have HX : Hid ((es.getD k default).t = (ps.getD k default).e.t) := Lib.hid (by rw [← HE.out, getD_map EL.e (by rw [HL.out]; exact hlt)])
      have HRA := Lib.hid (riseL_at (m := max m 1) (l := es) (k := k) (by rw [HEL.out]; exact hlt))
      generalize (ps.getD k default).e.t = x at *
      clear he
      by_cases hx : x < m
      · go_wp2
        go_ret
        refine ⟨?_, HF.out⟩
        rw [← HR.out, HRA.out, HX.out, decide_eq_false (by omega)]
        rfl
      · have d0 : decide (x < m) = false := decide_eq_false hx
        by_cases hx1 : x < 1
        · go_wp2
          go_ret
          refine ⟨?_, HF.out⟩
          rw [← HR.out, HRA.out, HX.out, decide_eq_false (by omega)]
          rfl
        · have d1 : decide (x < 1) = false := decide_eq_false hx1
          go_wp2
          refine ⟨⟨k + 1, x, by simp, rfl, by omega, ?_, HF.out⟩, ?_⟩
          · rw [← HR.out, HRA.out, HX.out, decide_eq_true (by omega), Bool.true_and, show max x 1 = x by omega]
          · first | omega | (show _ < _; simp [intOf]; omega)
    · obtain rfl : k = n := by omega
      go_wp2
      go_ret
      refine ⟨?_, HF.out⟩
      rw [← HR.out, List.drop_of_length_le (by rw [HEL.out]; exact Nat.le_refl _)]
      rfl

set_option maxRecDepth 100000 in
set_option maxHeartbeats 4000000 in
theorem refNew (i t : Int) (A : Option Addr) (n c : Nat) (ps : List EL) (G : Nat → Prop) (w : World) (h : Es w A n ps G) (hn : n ≤ 4999999999999) (hi : i ≤ 1099511627776) :
    Calls Try.prog 11 #[.int .i64 i, .int .i64 t, .slice A n c] w fun e w' => NewL w 41 68 i t (ps.map EL.e) e w' := by
  have C2 := Lib.hid (rises_any t A n c ps G w h (by omega))
  have C3 := Lib.hid (fun w' (hf : Fr (fun _ => False) w w') => copied_any A n c ps G w' (h.fr0 hf) hn)
  have HLN : Hid ((ps.map EL.e).length = n) := Lib.hid (by rw [List.length_map, h.len])
  obtain ⟨es, hes⟩ : ∃ es, ps.map EL.e = es := ⟨_, rfl⟩
  obtain ⟨q2, hq2⟩ : ∃ q, rise t es = q := ⟨_, rfl⟩
  unfold NewL
  have HE := Lib.hid hes
  rw [hes] at C2 C3 HLN ⊢
  rw [hq2] at C2 ⊢
  have HN := Lib.hid hn
  clear h hes hq2 hn
  by_cases h0 : i < 0
  · have hb : begins i t = false := by unfold begins; simp; omega
    simp only [hb, Bool.false_and, Bool.false_eq_true, if_false]
    clear hb
    go_enter Try.func11, Try.ntmps11
    go_wp2
    go_ret2
    exact ⟨rfl, Fr.refl _ _⟩
  by_cases h1 : t < 0
  · have hb : begins i t = false := by unfold begins; simp; omega
    simp only [hb, Bool.false_and, Bool.false_eq_true, if_false]
    have d0 : decide (i < 0) = false := decide_eq_false h0
    clear hb
    go_enter Try.func11, Try.ntmps11
    go_wp2
    go_ret2
    exact ⟨rfl, Fr.refl _ _⟩
  have d0 : decide (i < 0) = false := decide_eq_false h0
  have d1 : decide (t < 0) = false := decide_eq_false h1
  obtain ⟨x1, hx1⟩ : ∃ q, (i == 0) = q := ⟨_, rfl⟩
  obtain ⟨x2, hx2⟩ : ∃ q, (t == 0) = q := ⟨_, rfl⟩
  have hbe : begins i t = (x1 == x2) := by
    unfold begins
    rw [← hx1, ← hx2, decide_eq_true (show 0 ≤ i by omega), decide_eq_true (show 0 ≤ t by omega)]
    congr 1
  have HBE := Lib.hid hbe
  have good : begins i t = true → Calls Try.prog 11 #[.int .i64 i, .int .i64 t, .slice A n c] w fun e w' => (if (begins i t && q2) = true then ∃ g F', e = .returned (.tuple #[.pointer (some ⟨g, 0, none⟩), .int .i64 0]) ∧ Lg 41 68 w' g ⟨i.toNat, t, es⟩ F' ∧ Fr (fun _ => False) w w' ∧ (∀ k, F' k → w.heap.size ≤ k) ∧ F' g
      else e = .returned (.tuple #[.pointer none, .int .i64 1]) ∧ Fr (fun _ => False) w w') := fun hbt => by
    simp only [hbt, Bool.true_and]
    have hxx : x1 = x2 := by rw [hbe] at hbt; simpa using hbt
    subst hxx
    have HI := Lib.hid (And.intro h0 hi)
    clear hbt hbe HBE
    cases q2 with
    | false =>
      simp only [Bool.false_eq_true, if_false]
      cases x1
      all_goals
        go_enter Try.func11, Try.ntmps11
        go_wp2_with fail
        refine C2.out.mono ?_; rintro e w2 ⟨rfl, hf2⟩
        go_wp2
        go_ret2
        exact ⟨rfl, hf2⟩
    | true =>
      simp only [if_true]
      cases x1
      all_goals
        go_enter Try.func11, Try.ntmps11
        go_wp2_with fail
        refine C2.out.mono ?_; rintro e w2 ⟨rfl, hf2⟩
        have C := Lib.hid (C3.out w2 hf2)
        have HF2 := Lib.hid hf2
        clear hf2 C2 C3
        go_wp2_with fail
        refine C.out.mono ?_; rintro e w3 ⟨A', c', qs, rfl, ⟨hown, hf3, hnew⟩, hq⟩
        have HOWN := Lib.hid hown
        have HNEW := Lib.hid hnew
        have HF3 := Lib.hid hf3
        have HQ := Lib.hid hq
        clear hown hnew hf3 hq C
        go_wp2
        go_ret2
        have hfa : Fr (fun _ => False) w3 (w3.alloc (.cells #[.int .i64 i, .int .i64 t, .slice A' n c'] 41)) := (Fr.refl _ _).alloc _
        have ha := Bk.new w3 41 #[.int .i64 i, .int .i64 t, .slice A' n c']
        have hil := HI.out
        have hlog : LogM 41 68 (w3.alloc (.cells #[.int .i64 i, .int .i64 t, .slice A' n c'] 41)) w3.heap.size ⟨i.toNat, t, es⟩ (.slice A' n c') qs :=
          ⟨⟨by have := HLN.out; have := HN.out; simp only; omega, by have := HLN.out; have := HN.out; simp only; omega⟩, by simpa [show ((i.toNat : Nat) : Int) = i by omega] using ha, HOWN.out.fr0 hfa, by rw [HQ.out]⟩
        refine ⟨w3.heap.size, LB w3.heap.size (.slice A' n c') qs, rfl, ⟨_, _, hlog, fun _ h => h, fun _ hk => hlog.lt hk⟩, (HF2.out.trans HF3.out (fun _ _ h => h)).trans hfa (fun _ _ h => h), fun k hk => ?_, .inl rfl⟩
        have s2 := HF2.out.size
        have s3 := HF3.out.size
        rcases hk with rfl | e
        · omega
        · exact Nat.le_trans s2 (HNEW.out k e)
  by_cases hbt : begins i t = true
  · exact good hbt
  · have hb : begins i t = false := by simpa using hbt
    simp only [hb, Bool.false_and, Bool.false_eq_true, if_false]
    rw [hbe] at hb
    clear good hbt hbe HBE C2 C3
    cases x1 <;> cases x2 <;> simp at hb
    all_goals
      go_enter Try.func11, Try.ntmps11
      go_wp2
      go_ret2
      exact ⟨rfl, Fr.refl _ _⟩
end Go.Proofs.Ytainkckcipdknaa
