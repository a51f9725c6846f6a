/- The reference's Write. -/
import Derived.Test.YtnkkdpmmnenncaaVe
namespace Go.Proofs.Ytnkkdpmmnenncaa
open Go.RowKit Go.Maps

/-- append(s, x...) met alone in a region that draws. -/
theorem stepOf_append8s {P : Program} {ops : Array Oper} {o : Oper} {a : Go.Act} {w : World} {K' : Go.Act → World → Prop} {Q : Exit → Go.Act → World → Prop} (hgd : o.guard = none) (s x : Operand) {t e : TypeId} (hT : T8 P t e)
    (ho : o.op = .call { callee := .builtin .append, args := #[s, x], argTypes := #[t, t] })
    (v : Value) (bs : List UInt8) (hs : a.eval s = v) (hown : Own8 w e v bs) (A : Option Addr) (m c : Nat) (xs : List UInt8) (hx : a.eval x = .slice A m c) (hm : xs.length = m) (hr : Rd8 w A xs) (hlen : bs.length + xs.length ≤ 140737488355328)
    (h : ∀ A' c' w', Own8 w' e (.slice A' (bs.length + xs.length) c') (bs ++ xs) → Fr (fun k => v.ownBlock = some k) w w' → Moved w v (.slice A' (bs.length + xs.length) c') → K' (a.put o.dst (.slice A' (bs.length + xs.length) c')) w') :
    if Region.wanted o (yielded ops a.tmps) = true then Oper.wp P o a w K' Q else K' (a.put o.dst undef) w := by
  rw [if_pos (by simp [Region.wanted, hgd])]
  subst hm
  obtain ⟨A', c', w', hr, h2, h3, h4, _⟩ := run_append8 (P := P) w hT o.type hown A c xs hr hlen
  unfold Oper.wp execOp
  simp only [ho, resolve, invoke, builtin, Sem.run_bind, Sem.run_pure, Result.andThen_ok, List.map_toArray, List.map_cons, List.map_nil, hs, hx, hr]
  exact h A' c' w' h2 h3 h4
/-- append(l, p): the pair lies in a new block of its own. -/
theorem stepOf_appendP {ops : Array Oper} {o : Oper} {a : Go.Act} {w : World} {K' : Go.Act → World → Prop} {Q : Exit → Go.Act → World → Prop} (hgd : o.guard = none) (s x : Operand)
    (ho : o.op = .call { callee := .builtin .append, args := #[s, x], argTypes := #[45, 45] })
    (v : Value) (ps : List PI) (hs : a.eval s = v) (hown : OwnP w v ps) (p : PI) (hx : a.eval x = .slice (some ⟨w.heap.size, 0, none⟩) 1 1) (hlen : ps.length ≤ 1048576)
    (h : ∀ l' c' w', OwnP w' (.slice (some ⟨l', 0, none⟩) (ps.length + 1) c') (ps ++ [p]) → Fr (fun k => v.ownBlock = some k) w w' → Moved w v (.slice (some ⟨l', 0, none⟩) (ps.length + 1) c') → K' (a.put o.dst (.slice (some ⟨l', 0, none⟩) (ps.length + 1) c')) w') :
    if Region.wanted o (yielded ops a.tmps) = true then Oper.wp Try.prog o a (w.alloc (.cells #[.int .i64 (p.x : Int), .slice (some ⟨p.b, 0, none⟩) p.bs.length p.c] 71)) K' Q else K' (a.put o.dst undef) (w.alloc (.cells #[.int .i64 (p.x : Int), .slice (some ⟨p.b, 0, none⟩) p.bs.length p.c] 71)) := by
  rw [if_pos (by simp [Region.wanted, hgd])]
  obtain ⟨i, hi, hz, hsz, hby⟩ := info_parts Try.infoPut
  have hf : Fr (fun _ => False) w (w.alloc (.cells #[.int .i64 (p.x : Int), .slice (some ⟨p.b, 0, none⟩) p.bs.length p.c] 71)) := (Fr.refl _ _).alloc _
  have hb : Bk (w.alloc (.cells #[.int .i64 (p.x : Int), .slice (some ⟨p.b, 0, none⟩) p.bs.length p.c] 71)) w.heap.size 71 #[.int .i64 (p.x : Int), .slice (some ⟨p.b, 0, none⟩) p.bs.length p.c] := Bk.new _ _ _
  obtain ⟨v', w', h1, h2, h3, _, h5⟩ := run_append_own_at (P := Try.prog) _ 0 45 o.type 71 i _ 2 32 Try.underlying45 hi hz hsz hby rfl (by decide) v ps.length (pcells ps) (hown.fr hf (fun _ _ h => h)) ⟨w.heap.size, 0, none⟩ 1 1 p.cells rfl
    (fun j u hu => by
      rw [add_at, Nat.zero_add, hb.cell j]
      simpa [PI.cells] using hu) (fun u hu => pcells_one [p] u (by simpa [pcells] using hu)) (by unfold maxLen; omega) (by omega) (Nat.zero_le _)
  have ho' : OwnP w' v' (ps ++ [p]) := by unfold OwnP; simpa [pcells] using h2
  obtain ⟨A, c, hv, hA⟩ := ho'.form
  obtain ⟨lb, rfl⟩ := hA (by simp)
  subst hv
  simp only [List.length_append, List.length_singleton] at *
  unfold Oper.wp execOp
  simp only [ho, resolve, invoke, builtin, Sem.run_bind, Sem.run_pure, Result.andThen_ok, List.map_toArray, List.map_cons, List.map_nil, hs, hx, h1]
  exact h lb c w' ho' ((hf.mono (fun _ _ h => h.elim)).trans (Fr.of_grown h3) (fun _ _ e => e)) (h5.imp id (fun e => ⟨_, e, by simp⟩))

theorem refWrite_err {w : World} {g : Nat} {s : DS} {m : RL} (h : RefM w g s m) (x : Int) (A : Option Addr) (n c : Nat) (he : s.err x ≠ 0) :
    Calls Try.prog 14 #[.pointer (some ⟨g, 0, none⟩), .int .i64 x, .slice A n c] w fun e w' => e = .returned (.int .i64 (s.err x)) ∧ w = w' := by
  have c4 : w.cell? ⟨g, 4, none⟩ = some (.bool s.off) := h.cells rfl
  have c0 : w.cell? ⟨g, 0, none⟩ = some (.int .i64 (s.N : Int)) := h.cells rfl
  by_cases ho : s.off = true
  · have e5 : s.err x = 5 := by unfold DS.err; rw [if_pos ho]
    rw [e5]
    rw [ho] at c4
    clear h he e5 ho
    go_enter Try.func14, Try.ntmps14
    go_wp2
    go_ret
    exact ⟨rfl, rfl⟩
  · have ho' : s.off = false := by simpa using ho
    have e1 : s.err x = 1 := by
      unfold DS.err at he ⊢; rw [if_neg ho] at he ⊢
      split at he
      · rename_i h1; rw [if_pos h1]
      · exact absurd rfl he
    have hx : x < 0 ∨ (s.N : Int) ≤ x := by
      unfold DS.err at he; rw [if_neg ho] at he
      exact Classical.byContradiction fun h1 => he (if_neg h1)
    rw [e1]
    rw [ho'] at c4
    clear h he e1 ho ho'
    by_cases h0 : x < 0
    · clear hx
      go_enter Try.func14, Try.ntmps14
      go_wp2
      go_ret
      exact ⟨rfl, rfl⟩
    · have d0 : decide (x < 0) = false := by simpa using h0
      have hx' : (s.N : Int) ≤ x := by omega
      clear hx
      go_enter Try.func14, Try.ntmps14
      go_wp2
      go_ret
      exact ⟨rfl, rfl⟩
theorem refWrite_len {w : World} {g : Nat} {s : DS} {m : RL} (h : RefM w g s m) (x : Int) (A : Option Addr) (n c : Nat) (he : s.err x = 0) (hn : n ≠ s.sz) :
    Calls Try.prog 14 #[.pointer (some ⟨g, 0, none⟩), .int .i64 x, .slice A n c] w fun e w' => e = .returned (.int .i64 1) ∧ w = w' := by
  obtain ⟨hoff, hx0, hxN⟩ := DS.err_in he
  have c4 : w.cell? ⟨g, 4, none⟩ = some (.bool false) := by rw [← hoff]; exact h.cells rfl
  have c0 : w.cell? ⟨g, 0, none⟩ = some (.int .i64 (s.N : Int)) := h.cells rfl
  have c1 : w.cell? ⟨g, 1, none⟩ = some (.int .i64 (s.sz : Int)) := h.cells rfl
  have d0 : decide (x < 0) = false := by simpa using hx0
  have d1 : decide ((s.N : Int) ≤ x) = false := by simp; omega
  have d2 : (n != s.sz) = true := by simpa using hn
  have d3 : ((n : Int) != (s.sz : Int)) = true := by rw [bne_iff_ne]; omega
  have d4 : ((n : Int) == (s.sz : Int)) = false := by rw [beq_eq_false_iff_ne]; omega
  clear h he hn hoff
  go_enter Try.func14, Try.ntmps14
  go_wp2
  go_ret
  exact ⟨rfl, rfl⟩
theorem refWrite_cut {w : World} {g : Nat} {s : DS} {m : RL} (h : RefM w g s m) (hq : s.q.length ≤ 1048576) (hk : s.keep.length ≤ 140737488355328) (x : Int) (A : Option Addr) (n c : Nat) (he : s.err x = 0) (hn : n = s.sz) (hl : s.left = 1) :
    Calls Try.prog 14 #[.pointer (some ⟨g, 0, none⟩), .int .i64 x, .slice A n c] w fun e w' => e = .returned (.int .i64 5) ∧ RefM w' g (s.cut s.keep) ⟨m.bb, .slice none 0 0, [], m.KV⟩ ∧ Fr (fun x => x = g ∨ x = m.bb) w w' := by
  obtain ⟨hoff, hx0, hxN⟩ := DS.err_in he
  have hkp := h.keep (by omega)
  obtain ⟨KA, kc, hKV, hrk, hKb⟩ := rdB_own hkp rfl
  have C := Lib.hid (refCut_any h KA s.keep.length kc s.keep hrk rfl hq hk (fun ad e h0 => ⟨fun e2 => h.kg (by omega) (by rw [hKb ad e, e2]), fun e2 => h.kb (by omega) (by rw [hKb ad e, e2])⟩))
  have c4 : w.cell? ⟨g, 4, none⟩ = some (.bool false) := by rw [← hoff]; exact h.cells rfl
  have c0 : w.cell? ⟨g, 0, none⟩ = some (.int .i64 (s.N : Int)) := h.cells rfl
  have c1 : w.cell? ⟨g, 1, none⟩ = some (.int .i64 (s.sz : Int)) := h.cells rfl
  have c5 : w.cell? ⟨g, 5, none⟩ = some (.int .i64 1) := by rw [show (Value.int .i64 1) = .int .i64 (s.left : Int) by rw [hl]; rfl]; exact h.cells rfl
  have c6 : w.cell? ⟨g, 6, none⟩ = some (.slice KA s.keep.length kc) := by rw [← hKV]; exact h.cells rfl
  have d0 : decide (x < 0) = false := by simpa using hx0
  have d1 : decide ((s.N : Int) ≤ x) = false := by simp; omega
  subst hn
  clear h he hoff hkp hKV hrk hKb
  go_enter Try.func14, Try.ntmps14
  go_wp2_with fail
  refine C.out.mono ?_; rintro e w1 ⟨rfl, h1, h2⟩
  have H1 := Lib.hid h1
  have H2 := Lib.hid h2
  clear h1 h2 C
  go_wp2
  go_ret
  exact ⟨rfl, H1.out, H2.out⟩

/-- What a write that is laid behind the others leaves. -/
theorem refAdd_fin {w W w3 : World} {g : Nat} {s : DS} {bb : Nat} {LV KV : Value} {ps : List PI} (h : RefM w g s ⟨bb, LV, ps, KV⟩) {G : Nat → Prop} (hG : ∀ k, BL s g ⟨bb, LV, ps, KV⟩ k → G k) {x : Nat} (hx : x < s.N) {bs : List UInt8} (hb : bs.length = s.sz)
    (hW : Fr (fun k => k = g) w W) {kb c2 lb c3 : Nat} (hkb : w.heap.size ≤ kb) (ho2 : Own8 w3 5 (.slice (some ⟨kb, 0, none⟩) bs.length c2) bs) (ho3 : OwnP w3 (.slice (some ⟨lb, 0, none⟩) (ps.length + 1) c3) (ps ++ [⟨x, bs, kb, c2⟩]))
    (hS3 : Fr (fun k => LV.ownBlock = some k) W w3) (hm3 : Moved W LV (.slice (some ⟨lb, 0, none⟩) (ps.length + 1) c3)) {w' : World} (hf' : Fr (fun k => k = g) w3 w') (hbk : Bk w' g 47 (rcells (s.add x bs) ⟨bb, .slice (some ⟨lb, 0, none⟩) (ps.length + 1) c3, ps ++ [⟨x, bs, kb, c2⟩], KV⟩)) :
    RefTo w g G w' (s.add x bs) := by
  have hbb : bb < w.heap.size := h.kept.lt
  have hlb : ∀ k, (Value.slice (some ⟨lb, 0, none⟩) (ps.length + 1) c3).ownBlock = some k → LV.ownBlock = some k ∨ w.heap.size ≤ k := fun k e => by
    rcases hm3 with e1 | ⟨y, e1, h1⟩
    · exact .inl (e1.symm.trans e)
    · rw [e1] at e; injection e with e; have := hW.size; exact .inr (by omega)
  have hfr : Fr (fun k => k = g ∨ LV.ownBlock = some k) w w' := ((hW.mono (fun _ _ h => .inl h)).trans hS3 (fun _ _ h => .inr h)).trans hf' (fun _ _ h => .inl h)
  have D : RefM w' g (s.add x bs) ⟨bb, .slice (some ⟨lb, 0, none⟩) (ps.length + 1) c3, ps ++ [⟨x, bs, kb, c2⟩], KV⟩ :=
    ⟨h.ok.add hx hb, hbk, h.kept.fr hfr (fun e => by rcases e with e | e; exact h.bg e; exact h.lb e), ho3.fr hf' (fun k e e2 => by
        rcases hlb k e with e3 | e3
        · exact h.lg (by rw [e3, e2])
        · have := h.blk.lt; omega), by show s.q ++ [(x, bs)] = _; rw [h.q]; simp [PI.pend], fun p hp => by
        rcases List.mem_append.1 hp with hp | hp
        · refine ⟨(h.each p hp).1.fr hfr (fun k e e2 => ?_), (h.each p hp).2⟩
          injection e with e
          rcases e2 with e2 | e2
          · exact h.pg hp (e.trans e2)
          · have h1 := (h.each p hp).1
            rcases h.row.2 with ⟨e3, _⟩ | ⟨g', cap, cur, e3, _, hh, _⟩
            · have e3' : LV = _ := e3
              rw [e3'] at e2; simp [Value.ownBlock] at e2
            · have e3' : LV = _ := e3
              rw [e3'] at e2
              have e4 : g' = k := by simpa [Value.ownBlock] using e2
              exact h1.ne (g := g') hh (by decide) (by rw [e4, ← e]; rfl)
        · simp at hp
          subst hp
          exact ⟨ho2.fr hf' (fun k e e2 => by injection e with e; have := h.blk.lt; simp only at e; omega), by show kb ≠ bb; omega⟩,
      fun h0 => by
        have h0' : 0 < s.left := by have : 0 < s.left - 1 := h0; omega
        refine (h.keep h0').fr hfr (fun k e e2 => ?_)
        rcases e2 with e2 | e2
        · exact h.kg h0' (by rw [e, e2])
        · rcases h.row.2 with ⟨e3, _⟩ | ⟨g', cap, cur, e3, _, hh, _⟩
          · have e3' : LV = _ := e3
            rw [e3'] at e2; simp [Value.ownBlock] at e2
          · have e3' : LV = _ := e3
            rw [e3'] at e2
            have e4 : g' = k := by simpa [Value.ownBlock] using e2
            exact (h.keep h0').ne (g := g') hh (by decide) (by rw [e, e4])⟩
  refine D.to (fun k hk => ?_) (hfr.mono (fun k _ e => ?_))
  · rcases hk with e | e | e | ⟨p, hp, e⟩ | ⟨h0, e⟩
    · exact .inl (hG k (.inl e))
    · exact .inl (hG k (.inr (.inl e)))
    · rcases hlb k e with e1 | e1
      · exact .inl (hG k (.inr (.inr (.inl e1))))
      · exact .inr e1
    · rcases List.mem_append.1 hp with hp | hp
      · exact .inl (hG k (.inr (.inr (.inr (.inl ⟨p, hp, e⟩)))))
      · simp at hp; subst hp; simp only at e; exact .inr (by omega)
    · have h0' : 0 < s.left := by have : 0 < s.left - 1 := h0; omega
      exact .inl (hG k (.inr (.inr (.inr (.inr ⟨h0', e⟩)))))
  · rcases e with e | e
    · exact hG k (.inl e)
    · exact hG k (.inr (.inr (.inl e)))

set_option maxRecDepth 100000 in
set_option maxHeartbeats 4000000 in
theorem refWrite_zero {w : World} {g : Nat} {s : DS} {m : RL} (h : RefM w g s m) {G : Nat → Prop} (hG : ∀ k, BL s g m k → G k) (hq : s.q.length ≤ 1048575) (hw : (s.writes : Int) ≤ 4611686018427387904) (x : Nat) (A : Option Addr) (c : Nat) (bs : List UInt8) (hr : Rd8 w A bs) (hA : ∀ ad, A = some ad → 0 < bs.length → ¬ G ad.block) (he : s.err (x : Int) = 0) (hn : bs.length = s.sz) (hl : s.left = 0) :
    Calls Try.prog 14 #[.pointer (some ⟨g, 0, none⟩), .int .i64 (x : Int), .slice A s.sz c] w fun e w' => e = .returned (.int .i64 0) ∧ RefTo w g G w' (s.add x bs) := by
  obtain ⟨bb, LV, ps, KV⟩ := m
  obtain ⟨hoff, hx0, hxN⟩ := DS.err_in he
  have hql := h.ql
  simp only at hql
  have c4 : w.cell? ⟨g, 4, none⟩ = some (.bool false) := by rw [← hoff]; exact h.cells rfl
  have c0 : w.cell? ⟨g, 0, none⟩ = some (.int .i64 (s.N : Int)) := h.cells rfl
  have c1 : w.cell? ⟨g, 1, none⟩ = some (.int .i64 (s.sz : Int)) := h.cells rfl
  have c5 : w.cell? ⟨g, 5, none⟩ = some (.int .i64 (s.left : Int)) := h.cells rfl
  have f5 : w.frozen? ⟨g, 5, none⟩ = false := h.blk.frozen 5
  have d0 : decide ((x : Int) < 0) = false := by simp
  have d1 : decide ((s.N : Int) ≤ (x : Int)) = false := by simp; omega
  have d1' : decide (s.N ≤ x) = false := by simp; omega
  have hs0 := h.ok.s0
  have hs1 := h.ok.s1
  have hbl : 64 ≤ bs.length := by omega
  have hbu : bs.length ≤ 1024 := by omega
  have hgl := h.blk.lt
  have fW : Fr (fun k => k = g) w w := Fr.refl _ _
  have bW : Bk w g 47 #[.int .i64 (s.N : Int), .int .i64 (s.sz : Int), .slice (some ⟨bb, 0, none⟩) (s.N * s.sz) (s.N * s.sz), LV, .bool s.off, .int .i64 ((s.left - 1 : Nat) : Int), KV, .int .i64 (s.writes : Int)] := by
    have := h.blk
    unfold rcells at this
    rw [hl] at this ⊢
    exact this
  have HBK := Lib.hid bW
  have HLG := Lib.hid (show ¬ LV.ownBlock = some g from h.lg)
  have CL := Lib.hid (fun w' (hf : Fr (fun k => LV.ownBlock = some k) w w') => show w'.cell? ⟨g, 3, none⟩ = some LV from (bW.fr hf h.lg).cell 3)
  have HROW := Lib.hid (show OwnP w LV ps from h.row.fr fW (fun k e e2 => h.lg (by rw [e, e2])))
  have HRD0 := hr.fr fW (fun ad e h0 e2 => hA ad e h0 (hG _ (.inl e2)))
  have HRD := Lib.hid (fun w' (hf : Fr (fun k => LV.ownBlock = some k) w w') => HRD0.fr hf (fun ad e h0 e2 => hA ad e h0 (hG _ (.inr (.inr (.inl e2))))))
  have HFW := Lib.hid fW
  have HH := Lib.hid h
  have HG := Lib.hid hG
  have HNN := Lib.hid hn
  have hl5 : ((s.left : Int) == 1) = false := by rw [hl]; rfl
  rw [hl] at c5
  have HXN := Lib.hid (show x < s.N by omega)
  have HSZ := Lib.hid (show w.heap.size ≤ w.heap.size from fW.size)
  have hpl : ps.length ≤ 1048576 := by omega
  have HWR := Lib.hid (show (s.writes : Int) ≤ 4611686018427387904 from hw)
  clear h hG hr hA he hoff hx0 hxN hq fW bW HRD0 hql hgl hn
  rw [← HNN.out]
  rw [← HNN.out] at c1
  go_enter Try.func14, Try.ntmps14
  go_wp2_with fail
  refine wp_region_held_drew (S := fun w' => Fr (fun x => LV.ownBlock = some x ∨ x = g) w w') (by kernel_rfl) ((Fr.refl _ _).drew) (fun hHeld => ?_)
  refine wpAnyH_takeD (i := 0) (v := ?_) (some 53) rfl rfl (by kernel_rfl) (by kernel_rfl) (by kernel_rfl) (fun _ _ _ h => h) (Or.inl ⟨by rfl, ?_⟩) (by assumption) ?_
  rotate_left
  · intro w' hSw
    go_simp
    first | done | with_reducible rfl
  try simp only [Go.Act.put, List.setIfInBounds_toArray, List.set_cons_zero, List.set_cons_succ]
  refine wpAnyH_takeD (i := 1) (v := ?_) (some 54) rfl rfl (by kernel_rfl) (by kernel_rfl) (by kernel_rfl) (fun _ _ _ h => h) (Or.inl ⟨by rfl, ?_⟩) (by assumption) ?_
  rotate_left
  · intro w' hSw
    go_simp
    first | done | with_reducible rfl
  try simp only [Go.Act.put, List.setIfInBounds_toArray, List.set_cons_zero, List.set_cons_succ]
  refine wpAnyH_takeD (i := 2) (v := ?_) (some 55) rfl rfl (by kernel_rfl) (by kernel_rfl) (by kernel_rfl) (fun _ _ _ h => h) (Or.inl ⟨by rfl, ?_⟩) (by assumption) ?_
  rotate_left
  · intro w' hSw
    go_simp
    first | done | with_reducible rfl
  try simp only [Go.Act.put, List.setIfInBounds_toArray, List.set_cons_zero, List.set_cons_succ]
  refine wpAnyH_takeD (i := 3) (v := ?_) (some 56) rfl rfl (by kernel_rfl) (by kernel_rfl) (by kernel_rfl) (fun _ _ _ h => h) (Or.inl ⟨by rfl, ?_⟩) (by assumption) ?_
  rotate_left
  · intro w' hSw
    go_simp
    first | done | with_reducible rfl
  try simp only [Go.Act.put, List.setIfInBounds_toArray, List.set_cons_zero, List.set_cons_succ]
  refine wpAnyH_takeD (i := 5) (v := ?_) (some 58) rfl rfl (by kernel_rfl) (by kernel_rfl) (by kernel_rfl) (fun _ _ _ h => h) (Or.inl ⟨by rfl, ?_⟩) (by assumption) ?_
  rotate_left
  · intro w' hSw
    go_simp
    first | done | with_reducible rfl
  try simp only [Go.Act.put, List.setIfInBounds_toArray, List.set_cons_zero, List.set_cons_succ]
  refine wpAnyH_takeD (i := 7) (v := ?_) (some 60) rfl rfl (by kernel_rfl) (by kernel_rfl) (by kernel_rfl) (fun _ _ _ h => h) (Or.inl ⟨by rfl, ?_⟩) (by assumption) ?_
  rotate_left
  · intro w' hSw
    go_simp
    first | done | with_reducible rfl
  try simp only [Go.Act.put, List.setIfInBounds_toArray, List.set_cons_zero, List.set_cons_succ]
  have fr0 : Fr (fun x => LV.ownBlock = some x) w w.drew := (Fr.refl _ _).drew
  refine wpAnyH_ready (rs := [4, 6]) (by kernel_rfl) (by simp) ?_
  refine AllReadyH.cons rfl (fun K hK => ?_) (AllReadyH.cons rfl (fun K hK => ?_) AllReadyH.nil)
  · skip
    have k3 := (HBK.out.fr fr0 HLG.out).cell 3
    simp only [List.getElem?_toArray, List.getElem?_cons_zero, List.getElem?_cons_succ] at k3
    go_simp
    refine hK.out _ _ (hHeld) (fun hHeld => ?_)
    clear hK K
    try change wpAnyH _ _ _ _ _ _ _ (Go.Act.put _ (some 57) _) _
    try simp only [Go.Act.put, List.setIfInBounds_toArray, List.set_cons_zero, List.set_cons_succ]
    clear k3
    refine wpAnyH_ready (rs := [6]) (by kernel_rfl) (by simp) ?_
    refine AllReadyH.cons rfl (fun K hK => ?_) AllReadyH.nil
    go_simp
    refine hK.out _ _ (hHeld.alloc _) (fun hHeld => ?_)
    clear hK K
    try change wpAnyH _ _ _ _ _ _ _ (Go.Act.put _ (some 59) _) _
    try simp only [Go.Act.put, List.setIfInBounds_toArray, List.set_cons_zero, List.set_cons_succ]
    have fr6 : Fr (fun x => LV.ownBlock = some x) w (w.alloc (.cells #[] 5)).drew := ((Fr.refl _ _).alloc _).drew
    have ho0 : Own8 ((w.alloc (.cells #[] 5)).drew) 5 (.slice (some ⟨w.heap.size, 0, none⟩) 0 0) [] := Own8.fresh w _ #[] 0 rfl (by unfold maxLen; omega)
    have fw6 : Fr (fun _ => False) w ((w.alloc (.cells #[] 5)).drew) := ((Fr.refl _ _).alloc _).drew
    generalize hw1 : (w.alloc (.cells #[] 5)).drew = w1 at *
    clear hw1
    refine wpAnyH_ready (rs := [8]) (by kernel_rfl) (by simp) ?_
    refine AllReadyH.cons rfl (fun K hK => ?_) AllReadyH.nil
    refine stepOf_append8s rfl (.tmp 59) (.tmp 60) Try.t8d rfl (.slice (some ⟨w.heap.size, 0, none⟩) 0 0) [] rfl ho0 A bs.length c bs rfl rfl (HRD.out _ fr6) (by simp; omega) ?_
    intro A2 c2 w2 ho2 hf2 hm2
    simp only [List.length_nil, Nat.zero_add, List.nil_append] at ho2 hm2 ⊢
    have hfr2 : Fr (fun _ => False) w w2 := fw6.trans hf2 (fun x hx e => by
      have e' : w.heap.size = x := by simpa [Value.ownBlock] using e
      omega)
    obtain ⟨kb, rfl, hkb⟩ : ∃ kb, A2 = some ⟨kb, 0, none⟩ ∧ w.heap.size ≤ kb := by
      rcases ho2.form with ⟨_, h0⟩ | ⟨kb, cap, e, _, _⟩
      · rw [h0] at hbl; simp at hbl
      · injection e with e
        subst e
        refine ⟨kb, rfl, ?_⟩
        rcases hm2 with e | ⟨x, e, hx⟩
        · have : kb = w.heap.size := by simpa [Value.ownBlock] using e
          omega
        · have e2 : kb = x := by simpa [Value.ownBlock] using e
          have := fw6.size
          omega
    have fr8 : Fr (fun x => LV.ownBlock = some x) w w2 := hfr2.mono (fun _ _ h => h.elim)
    clear hm2 hf2 fr6 fw6 ho0
    refine hK.out _ _ (fr8.mono (fun _ _ h => .inl h)) (fun hHeld => ?_)
    clear hK K
    try change wpAnyH _ _ _ _ _ _ _ (Go.Act.put _ (some 61) _) _
    try simp only [Go.Act.put, List.setIfInBounds_toArray, List.set_cons_zero, List.set_cons_succ]
    refine wpAnyH_takeD (i := 9) (v := ?_) (some 62) rfl rfl (by kernel_rfl) (by kernel_rfl) (by kernel_rfl) (fun _ _ _ h => h) (Or.inl ⟨by rfl, ?_⟩) (by assumption) ?_
    rotate_left
    · intro w' hSw
      go_simp
      first | done | with_reducible rfl
    try simp only [Go.Act.put, List.setIfInBounds_toArray, List.set_cons_zero, List.set_cons_succ]
    refine wpAnyH_ready (rs := [10]) (by kernel_rfl) (by simp) ?_
    refine AllReadyH.cons rfl (fun K hK => ?_) AllReadyH.nil
    go_simp
    refine hK.out _ _ (hHeld.alloc _) (fun hHeld => ?_)
    clear hK K
    try change wpAnyH _ _ _ _ _ _ _ (Go.Act.put _ (some 63) _) _
    try simp only [Go.Act.put, List.setIfInBounds_toArray, List.set_cons_zero, List.set_cons_succ]
    have fr10 := fr8.alloc (.cells #[.int .i64 (x : Int), .slice (some ⟨kb, 0, none⟩) bs.length c2] 71)
    refine wpAnyH_ready (rs := [11]) (by kernel_rfl) (by simp) ?_
    refine AllReadyH.cons rfl (fun K hK => ?_) AllReadyH.nil
    refine stepOf_appendP (w := w2) rfl (.tmp 57) (.tmp 63) rfl LV ps rfl (HROW.out.fr hfr2 (fun _ _ h => h)) ⟨x, bs, kb, c2⟩ rfl (by omega) ?_
    intro lb c3 w3 ho3 hf3 hm3
    have fr11 : Fr (fun x => LV.ownBlock = some x) w w3 := fr8.trans hf3 (fun _ _ h => h)
    clear fr10
    refine hK.out _ _ (fr11.mono (fun _ _ h => .inl h)) (fun hHeld => ?_)
    clear hK K
    try change wpAnyH _ _ _ _ _ _ _ (Go.Act.put _ (some 64) _) _
    try simp only [Go.Act.put, List.setIfInBounds_toArray, List.set_cons_zero, List.set_cons_succ]
    refine wpAnyH_takeD (i := 12) (v := ?_) (some 65) rfl rfl (by kernel_rfl) (by kernel_rfl) (by kernel_rfl) (fun _ _ _ h => h) (Or.inl ⟨by rfl, ?_⟩) (by assumption) ?_
    rotate_left
    · intro w' hSw
      go_simp
      first | done | with_reducible rfl
    try simp only [Go.Act.put, List.setIfInBounds_toArray, List.set_cons_zero, List.set_cons_succ]
    refine wpAnyH_takeD (i := 13) (v := ?_) (some 66) rfl rfl (by kernel_rfl) (by kernel_rfl) (by kernel_rfl) (fun _ _ _ h => h) (Or.inl ⟨by rfl, ?_⟩) (by assumption) ?_
    rotate_left
    · intro w' hSw
      go_simp
      first | done | with_reducible rfl
    try simp only [Go.Act.put, List.setIfInBounds_toArray, List.set_cons_zero, List.set_cons_succ]
    refine wpAnyH_ready (rs := [14]) (by kernel_rfl) (by simp) ?_
    refine AllReadyH.cons rfl (fun K hK => ?_) AllReadyH.nil
    have g3 := HBK.out.fr fr11 HLG.out
    have k3 : w3.cell? ⟨g, 3, none⟩ = some LV := g3.cell 3
    have f3 : w3.frozen? ⟨g, 3, none⟩ = false := g3.frozen 3
    have k7 : w3.cell? ⟨g, 7, none⟩ = some (.int .i64 (s.writes : Int)) := g3.cell 7
    have f7 : w3.frozen? ⟨g, 7, none⟩ = false := g3.frozen 7
    have HB3 := Lib.hid g3
    clear g3
    go_simp
    refine hK.out _ _ (hHeld.setCell (fun _ => .inr rfl) _) (fun hHeld => ?_)
    clear hK K
    try change wpAnyH _ _ _ _ _ _ _ (Go.Act.put _ none _) _
    try simp only [Go.Act.put, List.setIfInBounds_toArray, List.set_cons_zero, List.set_cons_succ]
    refine wpAnyH_done (by kernel_rfl) ?_ _
    have HFIN := Lib.hid (fun w' hf' hbk => refAdd_fin HH.out HG.out HXN.out HNN.out HFW.out (Nat.le_trans HSZ.out hkb) (ho2.fr hf3 (fun k e e2 => by
      injection e with e
      have h1 := HROW.out.lt e2
      simp only at e
      omega)) ho3 fr11 (hm3.imp id (fun ⟨k, e, hk⟩ => ⟨k, e, Nat.le_trans hfr2.size hk⟩)) (w' := w') hf' hbk)
    clear hHeld hkb ho2 ho3 hf3 hm3 fr8 fr11 hfr2 fr0 hbl hbu
    go_wp2
    go_ret
    refine ⟨rfl, HFIN.out _ ((Bk.fr_set 3 _).set 7 _) ?_⟩
    have hS := (HB3.out.set 3 (.slice (some ⟨lb, 0, none⟩) (ps.length + 1) c3)).set 7 (.int .i64 ((s.writes : Int) + 1))
    exact hS
  · skip
    go_simp
    refine hK.out _ _ (hHeld.alloc _) (fun hHeld => ?_)
    clear hK K
    try change wpAnyH _ _ _ _ _ _ _ (Go.Act.put _ (some 59) _) _
    try simp only [Go.Act.put, List.setIfInBounds_toArray, List.set_cons_zero, List.set_cons_succ]
    have fr6 : Fr (fun x => LV.ownBlock = some x) w (w.alloc (.cells #[] 5)).drew := ((Fr.refl _ _).alloc _).drew
    have ho0 : Own8 ((w.alloc (.cells #[] 5)).drew) 5 (.slice (some ⟨w.heap.size, 0, none⟩) 0 0) [] := Own8.fresh w _ #[] 0 rfl (by unfold maxLen; omega)
    have fw6 : Fr (fun _ => False) w ((w.alloc (.cells #[] 5)).drew) := ((Fr.refl _ _).alloc _).drew
    generalize hw1 : (w.alloc (.cells #[] 5)).drew = w1 at *
    clear hw1
    refine wpAnyH_ready (rs := [4, 8]) (by kernel_rfl) (by simp) ?_
    refine AllReadyH.cons rfl (fun K hK => ?_) (AllReadyH.cons rfl (fun K hK => ?_) AllReadyH.nil)
    · skip
      have k3 := (HBK.out.fr fr6 HLG.out).cell 3
      simp only [List.getElem?_toArray, List.getElem?_cons_zero, List.getElem?_cons_succ] at k3
      go_simp
      refine hK.out _ _ (hHeld) (fun hHeld => ?_)
      clear hK K
      try change wpAnyH _ _ _ _ _ _ _ (Go.Act.put _ (some 57) _) _
      try simp only [Go.Act.put, List.setIfInBounds_toArray, List.set_cons_zero, List.set_cons_succ]
      clear k3
      refine wpAnyH_ready (rs := [8]) (by kernel_rfl) (by simp) ?_
      refine AllReadyH.cons rfl (fun K hK => ?_) AllReadyH.nil
      refine stepOf_append8s rfl (.tmp 59) (.tmp 60) Try.t8d rfl (.slice (some ⟨w.heap.size, 0, none⟩) 0 0) [] rfl ho0 A bs.length c bs rfl rfl (HRD.out _ fr6) (by simp; omega) ?_
      intro A2 c2 w2 ho2 hf2 hm2
      simp only [List.length_nil, Nat.zero_add, List.nil_append] at ho2 hm2 ⊢
      have hfr2 : Fr (fun _ => False) w w2 := fw6.trans hf2 (fun x hx e => by
        have e' : w.heap.size = x := by simpa [Value.ownBlock] using e
        omega)
      obtain ⟨kb, rfl, hkb⟩ : ∃ kb, A2 = some ⟨kb, 0, none⟩ ∧ w.heap.size ≤ kb := by
        rcases ho2.form with ⟨_, h0⟩ | ⟨kb, cap, e, _, _⟩
        · rw [h0] at hbl; simp at hbl
        · injection e with e
          subst e
          refine ⟨kb, rfl, ?_⟩
          rcases hm2 with e | ⟨x, e, hx⟩
          · have : kb = w.heap.size := by simpa [Value.ownBlock] using e
            omega
          · have e2 : kb = x := by simpa [Value.ownBlock] using e
            have := fw6.size
            omega
      have fr8 : Fr (fun x => LV.ownBlock = some x) w w2 := hfr2.mono (fun _ _ h => h.elim)
      clear hm2 hf2 fr6 fw6 ho0
      refine hK.out _ _ (fr8.mono (fun _ _ h => .inl h)) (fun hHeld => ?_)
      clear hK K
      try change wpAnyH _ _ _ _ _ _ _ (Go.Act.put _ (some 61) _) _
      try simp only [Go.Act.put, List.setIfInBounds_toArray, List.set_cons_zero, List.set_cons_succ]
      refine wpAnyH_takeD (i := 9) (v := ?_) (some 62) rfl rfl (by kernel_rfl) (by kernel_rfl) (by kernel_rfl) (fun _ _ _ h => h) (Or.inl ⟨by rfl, ?_⟩) (by assumption) ?_
      rotate_left
      · intro w' hSw
        go_simp
        first | done | with_reducible rfl
      try simp only [Go.Act.put, List.setIfInBounds_toArray, List.set_cons_zero, List.set_cons_succ]
      refine wpAnyH_ready (rs := [10]) (by kernel_rfl) (by simp) ?_
      refine AllReadyH.cons rfl (fun K hK => ?_) AllReadyH.nil
      go_simp
      refine hK.out _ _ (hHeld.alloc _) (fun hHeld => ?_)
      clear hK K
      try change wpAnyH _ _ _ _ _ _ _ (Go.Act.put _ (some 63) _) _
      try simp only [Go.Act.put, List.setIfInBounds_toArray, List.set_cons_zero, List.set_cons_succ]
      have fr10 := fr8.alloc (.cells #[.int .i64 (x : Int), .slice (some ⟨kb, 0, none⟩) bs.length c2] 71)
      refine wpAnyH_ready (rs := [11]) (by kernel_rfl) (by simp) ?_
      refine AllReadyH.cons rfl (fun K hK => ?_) AllReadyH.nil
      refine stepOf_appendP (w := w2) rfl (.tmp 57) (.tmp 63) rfl LV ps rfl (HROW.out.fr hfr2 (fun _ _ h => h)) ⟨x, bs, kb, c2⟩ rfl (by omega) ?_
      intro lb c3 w3 ho3 hf3 hm3
      have fr11 : Fr (fun x => LV.ownBlock = some x) w w3 := fr8.trans hf3 (fun _ _ h => h)
      clear fr10
      refine hK.out _ _ (fr11.mono (fun _ _ h => .inl h)) (fun hHeld => ?_)
      clear hK K
      try change wpAnyH _ _ _ _ _ _ _ (Go.Act.put _ (some 64) _) _
      try simp only [Go.Act.put, List.setIfInBounds_toArray, List.set_cons_zero, List.set_cons_succ]
      refine wpAnyH_takeD (i := 12) (v := ?_) (some 65) rfl rfl (by kernel_rfl) (by kernel_rfl) (by kernel_rfl) (fun _ _ _ h => h) (Or.inl ⟨by rfl, ?_⟩) (by assumption) ?_
      rotate_left
      · intro w' hSw
        go_simp
        first | done | with_reducible rfl
      try simp only [Go.Act.put, List.setIfInBounds_toArray, List.set_cons_zero, List.set_cons_succ]
      refine wpAnyH_takeD (i := 13) (v := ?_) (some 66) rfl rfl (by kernel_rfl) (by kernel_rfl) (by kernel_rfl) (fun _ _ _ h => h) (Or.inl ⟨by rfl, ?_⟩) (by assumption) ?_
      rotate_left
      · intro w' hSw
        go_simp
        first | done | with_reducible rfl
      try simp only [Go.Act.put, List.setIfInBounds_toArray, List.set_cons_zero, List.set_cons_succ]
      refine wpAnyH_ready (rs := [14]) (by kernel_rfl) (by simp) ?_
      refine AllReadyH.cons rfl (fun K hK => ?_) AllReadyH.nil
      have g3 := HBK.out.fr fr11 HLG.out
      have k3 : w3.cell? ⟨g, 3, none⟩ = some LV := g3.cell 3
      have f3 : w3.frozen? ⟨g, 3, none⟩ = false := g3.frozen 3
      have k7 : w3.cell? ⟨g, 7, none⟩ = some (.int .i64 (s.writes : Int)) := g3.cell 7
      have f7 : w3.frozen? ⟨g, 7, none⟩ = false := g3.frozen 7
      have HB3 := Lib.hid g3
      clear g3
      go_simp
      refine hK.out _ _ (hHeld.setCell (fun _ => .inr rfl) _) (fun hHeld => ?_)
      clear hK K
      try change wpAnyH _ _ _ _ _ _ _ (Go.Act.put _ none _) _
      try simp only [Go.Act.put, List.setIfInBounds_toArray, List.set_cons_zero, List.set_cons_succ]
      refine wpAnyH_done (by kernel_rfl) ?_ _
      have HFIN := Lib.hid (fun w' hf' hbk => refAdd_fin HH.out HG.out HXN.out HNN.out HFW.out (Nat.le_trans HSZ.out hkb) (ho2.fr hf3 (fun k e e2 => by
        injection e with e
        have h1 := HROW.out.lt e2
        simp only at e
        omega)) ho3 fr11 (hm3.imp id (fun ⟨k, e, hk⟩ => ⟨k, e, Nat.le_trans hfr2.size hk⟩)) (w' := w') hf' hbk)
      clear hHeld hkb ho2 ho3 hf3 hm3 fr8 fr11 hfr2 fr0 hbl hbu
      go_wp2
      go_ret
      refine ⟨rfl, HFIN.out _ ((Bk.fr_set 3 _).set 7 _) ?_⟩
      have hS := (HB3.out.set 3 (.slice (some ⟨lb, 0, none⟩) (ps.length + 1) c3)).set 7 (.int .i64 ((s.writes : Int) + 1))
      exact hS
    · skip
      refine stepOf_append8s rfl (.tmp 59) (.tmp 60) Try.t8d rfl (.slice (some ⟨w.heap.size, 0, none⟩) 0 0) [] rfl ho0 A bs.length c bs rfl rfl (HRD.out _ fr6) (by simp; omega) ?_
      intro A2 c2 w2 ho2 hf2 hm2
      simp only [List.length_nil, Nat.zero_add, List.nil_append] at ho2 hm2 ⊢
      have hfr2 : Fr (fun _ => False) w w2 := fw6.trans hf2 (fun x hx e => by
        have e' : w.heap.size = x := by simpa [Value.ownBlock] using e
        omega)
      obtain ⟨kb, rfl, hkb⟩ : ∃ kb, A2 = some ⟨kb, 0, none⟩ ∧ w.heap.size ≤ kb := by
        rcases ho2.form with ⟨_, h0⟩ | ⟨kb, cap, e, _, _⟩
        · rw [h0] at hbl; simp at hbl
        · injection e with e
          subst e
          refine ⟨kb, rfl, ?_⟩
          rcases hm2 with e | ⟨x, e, hx⟩
          · have : kb = w.heap.size := by simpa [Value.ownBlock] using e
            omega
          · have e2 : kb = x := by simpa [Value.ownBlock] using e
            have := fw6.size
            omega
      have fr8 : Fr (fun x => LV.ownBlock = some x) w w2 := hfr2.mono (fun _ _ h => h.elim)
      clear hm2 hf2 fr6 fw6 ho0
      refine hK.out _ _ (fr8.mono (fun _ _ h => .inl h)) (fun hHeld => ?_)
      clear hK K
      try change wpAnyH _ _ _ _ _ _ _ (Go.Act.put _ (some 61) _) _
      try simp only [Go.Act.put, List.setIfInBounds_toArray, List.set_cons_zero, List.set_cons_succ]
      refine wpAnyH_takeD (i := 9) (v := ?_) (some 62) rfl rfl (by kernel_rfl) (by kernel_rfl) (by kernel_rfl) (fun _ _ _ h => h) (Or.inl ⟨by rfl, ?_⟩) (by assumption) ?_
      rotate_left
      · intro w' hSw
        go_simp
        first | done | with_reducible rfl
      try simp only [Go.Act.put, List.setIfInBounds_toArray, List.set_cons_zero, List.set_cons_succ]
      refine wpAnyH_ready (rs := [4, 10]) (by kernel_rfl) (by simp) ?_
      refine AllReadyH.cons rfl (fun K hK => ?_) (AllReadyH.cons rfl (fun K hK => ?_) AllReadyH.nil)
      · skip
        have k3 := (HBK.out.fr fr8 HLG.out).cell 3
        simp only [List.getElem?_toArray, List.getElem?_cons_zero, List.getElem?_cons_succ] at k3
        go_simp
        refine hK.out _ _ (hHeld) (fun hHeld => ?_)
        clear hK K
        try change wpAnyH _ _ _ _ _ _ _ (Go.Act.put _ (some 57) _) _
        try simp only [Go.Act.put, List.setIfInBounds_toArray, List.set_cons_zero, List.set_cons_succ]
        clear k3
        refine wpAnyH_ready (rs := [10]) (by kernel_rfl) (by simp) ?_
        refine AllReadyH.cons rfl (fun K hK => ?_) AllReadyH.nil
        go_simp
        refine hK.out _ _ (hHeld.alloc _) (fun hHeld => ?_)
        clear hK K
        try change wpAnyH _ _ _ _ _ _ _ (Go.Act.put _ (some 63) _) _
        try simp only [Go.Act.put, List.setIfInBounds_toArray, List.set_cons_zero, List.set_cons_succ]
        have fr10 := fr8.alloc (.cells #[.int .i64 (x : Int), .slice (some ⟨kb, 0, none⟩) bs.length c2] 71)
        refine wpAnyH_ready (rs := [11]) (by kernel_rfl) (by simp) ?_
        refine AllReadyH.cons rfl (fun K hK => ?_) AllReadyH.nil
        refine stepOf_appendP (w := w2) rfl (.tmp 57) (.tmp 63) rfl LV ps rfl (HROW.out.fr hfr2 (fun _ _ h => h)) ⟨x, bs, kb, c2⟩ rfl (by omega) ?_
        intro lb c3 w3 ho3 hf3 hm3
        have fr11 : Fr (fun x => LV.ownBlock = some x) w w3 := fr8.trans hf3 (fun _ _ h => h)
        clear fr10
        refine hK.out _ _ (fr11.mono (fun _ _ h => .inl h)) (fun hHeld => ?_)
        clear hK K
        try change wpAnyH _ _ _ _ _ _ _ (Go.Act.put _ (some 64) _) _
        try simp only [Go.Act.put, List.setIfInBounds_toArray, List.set_cons_zero, List.set_cons_succ]
        refine wpAnyH_takeD (i := 12) (v := ?_) (some 65) rfl rfl (by kernel_rfl) (by kernel_rfl) (by kernel_rfl) (fun _ _ _ h => h) (Or.inl ⟨by rfl, ?_⟩) (by assumption) ?_
        rotate_left
        · intro w' hSw
          go_simp
          first | done | with_reducible rfl
        try simp only [Go.Act.put, List.setIfInBounds_toArray, List.set_cons_zero, List.set_cons_succ]
        refine wpAnyH_takeD (i := 13) (v := ?_) (some 66) rfl rfl (by kernel_rfl) (by kernel_rfl) (by kernel_rfl) (fun _ _ _ h => h) (Or.inl ⟨by rfl, ?_⟩) (by assumption) ?_
        rotate_left
        · intro w' hSw
          go_simp
          first | done | with_reducible rfl
        try simp only [Go.Act.put, List.setIfInBounds_toArray, List.set_cons_zero, List.set_cons_succ]
        refine wpAnyH_ready (rs := [14]) (by kernel_rfl) (by simp) ?_
        refine AllReadyH.cons rfl (fun K hK => ?_) AllReadyH.nil
        have g3 := HBK.out.fr fr11 HLG.out
        have k3 : w3.cell? ⟨g, 3, none⟩ = some LV := g3.cell 3
        have f3 : w3.frozen? ⟨g, 3, none⟩ = false := g3.frozen 3
        have k7 : w3.cell? ⟨g, 7, none⟩ = some (.int .i64 (s.writes : Int)) := g3.cell 7
        have f7 : w3.frozen? ⟨g, 7, none⟩ = false := g3.frozen 7
        have HB3 := Lib.hid g3
        clear g3
        go_simp
        refine hK.out _ _ (hHeld.setCell (fun _ => .inr rfl) _) (fun hHeld => ?_)
        clear hK K
        try change wpAnyH _ _ _ _ _ _ _ (Go.Act.put _ none _) _
        try simp only [Go.Act.put, List.setIfInBounds_toArray, List.set_cons_zero, List.set_cons_succ]
        refine wpAnyH_done (by kernel_rfl) ?_ _
        have HFIN := Lib.hid (fun w' hf' hbk => refAdd_fin HH.out HG.out HXN.out HNN.out HFW.out (Nat.le_trans HSZ.out hkb) (ho2.fr hf3 (fun k e e2 => by
          injection e with e
          have h1 := HROW.out.lt e2
          simp only at e
          omega)) ho3 fr11 (hm3.imp id (fun ⟨k, e, hk⟩ => ⟨k, e, Nat.le_trans hfr2.size hk⟩)) (w' := w') hf' hbk)
        clear hHeld hkb ho2 ho3 hf3 hm3 fr8 fr11 hfr2 fr0 hbl hbu
        go_wp2
        go_ret
        refine ⟨rfl, HFIN.out _ ((Bk.fr_set 3 _).set 7 _) ?_⟩
        have hS := (HB3.out.set 3 (.slice (some ⟨lb, 0, none⟩) (ps.length + 1) c3)).set 7 (.int .i64 ((s.writes : Int) + 1))
        exact hS
      · skip
        go_simp
        refine hK.out _ _ (hHeld.alloc _) (fun hHeld => ?_)
        clear hK K
        try change wpAnyH _ _ _ _ _ _ _ (Go.Act.put _ (some 63) _) _
        try simp only [Go.Act.put, List.setIfInBounds_toArray, List.set_cons_zero, List.set_cons_succ]
        have fr10 := fr8.alloc (.cells #[.int .i64 (x : Int), .slice (some ⟨kb, 0, none⟩) bs.length c2] 71)
        refine wpAnyH_ready (rs := [4]) (by kernel_rfl) (by simp) ?_
        refine AllReadyH.cons rfl (fun K hK => ?_) AllReadyH.nil
        have k3 := (HBK.out.fr fr10 HLG.out).cell 3
        simp only [List.getElem?_toArray, List.getElem?_cons_zero, List.getElem?_cons_succ] at k3
        have k3w := (HBK.out.fr fr8 HLG.out).cell 3
        simp only [List.getElem?_toArray, List.getElem?_cons_zero, List.getElem?_cons_succ] at k3w
        go_simp
        refine hK.out _ _ (hHeld) (fun hHeld => ?_)
        clear hK K
        try change wpAnyH _ _ _ _ _ _ _ (Go.Act.put _ (some 57) _) _
        try simp only [Go.Act.put, List.setIfInBounds_toArray, List.set_cons_zero, List.set_cons_succ]
        clear k3 k3w
        refine wpAnyH_ready (rs := [11]) (by kernel_rfl) (by simp) ?_
        refine AllReadyH.cons rfl (fun K hK => ?_) AllReadyH.nil
        refine stepOf_appendP (w := w2) rfl (.tmp 57) (.tmp 63) rfl LV ps rfl (HROW.out.fr hfr2 (fun _ _ h => h)) ⟨x, bs, kb, c2⟩ rfl (by omega) ?_
        intro lb c3 w3 ho3 hf3 hm3
        have fr11 : Fr (fun x => LV.ownBlock = some x) w w3 := fr8.trans hf3 (fun _ _ h => h)
        clear fr10
        refine hK.out _ _ (fr11.mono (fun _ _ h => .inl h)) (fun hHeld => ?_)
        clear hK K
        try change wpAnyH _ _ _ _ _ _ _ (Go.Act.put _ (some 64) _) _
        try simp only [Go.Act.put, List.setIfInBounds_toArray, List.set_cons_zero, List.set_cons_succ]
        refine wpAnyH_takeD (i := 12) (v := ?_) (some 65) rfl rfl (by kernel_rfl) (by kernel_rfl) (by kernel_rfl) (fun _ _ _ h => h) (Or.inl ⟨by rfl, ?_⟩) (by assumption) ?_
        rotate_left
        · intro w' hSw
          go_simp
          first | done | with_reducible rfl
        try simp only [Go.Act.put, List.setIfInBounds_toArray, List.set_cons_zero, List.set_cons_succ]
        refine wpAnyH_takeD (i := 13) (v := ?_) (some 66) rfl rfl (by kernel_rfl) (by kernel_rfl) (by kernel_rfl) (fun _ _ _ h => h) (Or.inl ⟨by rfl, ?_⟩) (by assumption) ?_
        rotate_left
        · intro w' hSw
          go_simp
          first | done | with_reducible rfl
        try simp only [Go.Act.put, List.setIfInBounds_toArray, List.set_cons_zero, List.set_cons_succ]
        refine wpAnyH_ready (rs := [14]) (by kernel_rfl) (by simp) ?_
        refine AllReadyH.cons rfl (fun K hK => ?_) AllReadyH.nil
        have g3 := HBK.out.fr fr11 HLG.out
        have k3 : w3.cell? ⟨g, 3, none⟩ = some LV := g3.cell 3
        have f3 : w3.frozen? ⟨g, 3, none⟩ = false := g3.frozen 3
        have k7 : w3.cell? ⟨g, 7, none⟩ = some (.int .i64 (s.writes : Int)) := g3.cell 7
        have f7 : w3.frozen? ⟨g, 7, none⟩ = false := g3.frozen 7
        have HB3 := Lib.hid g3
        clear g3
        go_simp
        refine hK.out _ _ (hHeld.setCell (fun _ => .inr rfl) _) (fun hHeld => ?_)
        clear hK K
        try change wpAnyH _ _ _ _ _ _ _ (Go.Act.put _ none _) _
        try simp only [Go.Act.put, List.setIfInBounds_toArray, List.set_cons_zero, List.set_cons_succ]
        refine wpAnyH_done (by kernel_rfl) ?_ _
        have HFIN := Lib.hid (fun w' hf' hbk => refAdd_fin HH.out HG.out HXN.out HNN.out HFW.out (Nat.le_trans HSZ.out hkb) (ho2.fr hf3 (fun k e e2 => by
          injection e with e
          have h1 := HROW.out.lt e2
          simp only at e
          omega)) ho3 fr11 (hm3.imp id (fun ⟨k, e, hk⟩ => ⟨k, e, Nat.le_trans hfr2.size hk⟩)) (w' := w') hf' hbk)
        clear hHeld hkb ho2 ho3 hf3 hm3 fr8 fr11 hfr2 fr0 hbl hbu
        go_wp2
        go_ret
        refine ⟨rfl, HFIN.out _ ((Bk.fr_set 3 _).set 7 _) ?_⟩
        have hS := (HB3.out.set 3 (.slice (some ⟨lb, 0, none⟩) (ps.length + 1) c3)).set 7 (.int .i64 ((s.writes : Int) + 1))
        exact hS

set_option maxRecDepth 100000 in
set_option maxHeartbeats 4000000 in
theorem refWrite_more {w : World} {g : Nat} {s : DS} {m : RL} (h : RefM w g s m) {G : Nat → Prop} (hG : ∀ k, BL s g m k → G k) (hq : s.q.length ≤ 1048575) (hw : (s.writes : Int) ≤ 4611686018427387904) (x : Nat) (A : Option Addr) (c : Nat) (bs : List UInt8) (hr : Rd8 w A bs) (hA : ∀ ad, A = some ad → 0 < bs.length → ¬ G ad.block) (he : s.err (x : Int) = 0) (hn : bs.length = s.sz) (hl : 2 ≤ s.left) :
    Calls Try.prog 14 #[.pointer (some ⟨g, 0, none⟩), .int .i64 (x : Int), .slice A s.sz c] w fun e w' => e = .returned (.int .i64 0) ∧ RefTo w g G w' (s.add x bs) := by
  obtain ⟨bb, LV, ps, KV⟩ := m
  obtain ⟨hoff, hx0, hxN⟩ := DS.err_in he
  have hql := h.ql
  simp only at hql
  have c4 : w.cell? ⟨g, 4, none⟩ = some (.bool false) := by rw [← hoff]; exact h.cells rfl
  have c0 : w.cell? ⟨g, 0, none⟩ = some (.int .i64 (s.N : Int)) := h.cells rfl
  have c1 : w.cell? ⟨g, 1, none⟩ = some (.int .i64 (s.sz : Int)) := h.cells rfl
  have c5 : w.cell? ⟨g, 5, none⟩ = some (.int .i64 (s.left : Int)) := h.cells rfl
  have f5 : w.frozen? ⟨g, 5, none⟩ = false := h.blk.frozen 5
  have d0 : decide ((x : Int) < 0) = false := by simp
  have d1 : decide ((s.N : Int) ≤ (x : Int)) = false := by simp; omega
  have d1' : decide (s.N ≤ x) = false := by simp; omega
  have hs0 := h.ok.s0
  have hs1 := h.ok.s1
  have hbl : 64 ≤ bs.length := by omega
  have hbu : bs.length ≤ 1024 := by omega
  have hgl := h.blk.lt
  obtain ⟨W, hW⟩ : ∃ W, w.setCell ⟨g, 5, none⟩ (.int .i64 ((s.left : Int) - 1)) = W := ⟨_, rfl⟩
  have fW : Fr (fun k => k = g) w W := by rw [← hW]; exact Bk.fr_set 5 _
  have bW : Bk W g 47 #[.int .i64 (s.N : Int), .int .i64 (s.sz : Int), .slice (some ⟨bb, 0, none⟩) (s.N * s.sz) (s.N * s.sz), LV, .bool s.off, .int .i64 ((s.left - 1 : Nat) : Int), KV, .int .i64 (s.writes : Int)] := by
    rw [← hW]
    have := h.blk.set 5 (.int .i64 ((s.left : Int) - 1))
    unfold rcells at this
    rw [show ((s.left - 1 : Nat) : Int) = (s.left : Int) - 1 by omega]
    simpa using this
  have HBK := Lib.hid bW
  have HLG := Lib.hid (show ¬ LV.ownBlock = some g from h.lg)
  have CL := Lib.hid (fun w' (hf : Fr (fun k => LV.ownBlock = some k) W w') => show w'.cell? ⟨g, 3, none⟩ = some LV from (bW.fr hf h.lg).cell 3)
  have HROW := Lib.hid (show OwnP W LV ps from h.row.fr fW (fun k e e2 => h.lg (by rw [e, e2])))
  have HRD0 := hr.fr fW (fun ad e h0 e2 => hA ad e h0 (hG _ (.inl e2)))
  have HRD := Lib.hid (fun w' (hf : Fr (fun k => LV.ownBlock = some k) W w') => HRD0.fr hf (fun ad e h0 e2 => hA ad e h0 (hG _ (.inr (.inr (.inl e2))))))
  have HFW := Lib.hid fW
  have HH := Lib.hid h
  have HG := Lib.hid hG
  have HNN := Lib.hid hn
  have hl5 : ((s.left : Int) == 1) = false := by rw [beq_eq_false_iff_ne]; omega
  have hl6 : (s.left == 1) = false := by rw [beq_eq_false_iff_ne]; omega
  have hl7 : (0 : Int) < (s.left : Int) := by omega
  have hl8 : decide (0 < s.left) = true := by simp; omega
  have hl9 : (s.left : Int) ≤ 9223372036854775807 := h.ok.lf
  have HXN := Lib.hid (show x < s.N by omega)
  have HW := Lib.hid hW
  have HSZ := Lib.hid (show w.heap.size ≤ W.heap.size from fW.size)
  have hpl : ps.length ≤ 1048576 := by omega
  have HWR := Lib.hid (show (s.writes : Int) ≤ 4611686018427387904 from hw)
  clear h hG hr hA he hoff hx0 hxN hq fW bW HRD0  hql hgl hn
  rw [← HNN.out]
  rw [← HNN.out] at c1
  go_enter Try.func14, Try.ntmps14
  go_wp2_with fail
  clear hW
  refine wp_region_held_drew (S := fun w' => Fr (fun x => LV.ownBlock = some x ∨ x = g) W w') (by kernel_rfl) ((Fr.refl _ _).drew) (fun hHeld => ?_)
  refine wpAnyH_takeD (i := 0) (v := ?_) (some 53) rfl rfl (by kernel_rfl) (by kernel_rfl) (by kernel_rfl) (fun _ _ _ h => h) (Or.inl ⟨by rfl, ?_⟩) (by assumption) ?_
  rotate_left
  · intro w' hSw
    go_simp
    first | done | with_reducible rfl
  try simp only [Go.Act.put, List.setIfInBounds_toArray, List.set_cons_zero, List.set_cons_succ]
  refine wpAnyH_takeD (i := 1) (v := ?_) (some 54) rfl rfl (by kernel_rfl) (by kernel_rfl) (by kernel_rfl) (fun _ _ _ h => h) (Or.inl ⟨by rfl, ?_⟩) (by assumption) ?_
  rotate_left
  · intro w' hSw
    go_simp
    first | done | with_reducible rfl
  try simp only [Go.Act.put, List.setIfInBounds_toArray, List.set_cons_zero, List.set_cons_succ]
  refine wpAnyH_takeD (i := 2) (v := ?_) (some 55) rfl rfl (by kernel_rfl) (by kernel_rfl) (by kernel_rfl) (fun _ _ _ h => h) (Or.inl ⟨by rfl, ?_⟩) (by assumption) ?_
  rotate_left
  · intro w' hSw
    go_simp
    first | done | with_reducible rfl
  try simp only [Go.Act.put, List.setIfInBounds_toArray, List.set_cons_zero, List.set_cons_succ]
  refine wpAnyH_takeD (i := 3) (v := ?_) (some 56) rfl rfl (by kernel_rfl) (by kernel_rfl) (by kernel_rfl) (fun _ _ _ h => h) (Or.inl ⟨by rfl, ?_⟩) (by assumption) ?_
  rotate_left
  · intro w' hSw
    go_simp
    first | done | with_reducible rfl
  try simp only [Go.Act.put, List.setIfInBounds_toArray, List.set_cons_zero, List.set_cons_succ]
  refine wpAnyH_takeD (i := 5) (v := ?_) (some 58) rfl rfl (by kernel_rfl) (by kernel_rfl) (by kernel_rfl) (fun _ _ _ h => h) (Or.inl ⟨by rfl, ?_⟩) (by assumption) ?_
  rotate_left
  · intro w' hSw
    go_simp
    first | done | with_reducible rfl
  try simp only [Go.Act.put, List.setIfInBounds_toArray, List.set_cons_zero, List.set_cons_succ]
  refine wpAnyH_takeD (i := 7) (v := ?_) (some 60) rfl rfl (by kernel_rfl) (by kernel_rfl) (by kernel_rfl) (fun _ _ _ h => h) (Or.inl ⟨by rfl, ?_⟩) (by assumption) ?_
  rotate_left
  · intro w' hSw
    go_simp
    first | done | with_reducible rfl
  try simp only [Go.Act.put, List.setIfInBounds_toArray, List.set_cons_zero, List.set_cons_succ]
  have fr0 : Fr (fun x => LV.ownBlock = some x) W W.drew := (Fr.refl _ _).drew
  refine wpAnyH_ready (rs := [4, 6]) (by kernel_rfl) (by simp) ?_
  refine AllReadyH.cons rfl (fun K hK => ?_) (AllReadyH.cons rfl (fun K hK => ?_) AllReadyH.nil)
  · skip
    have k3 := (HBK.out.fr fr0 HLG.out).cell 3
    simp only [List.getElem?_toArray, List.getElem?_cons_zero, List.getElem?_cons_succ] at k3
    go_simp
    refine hK.out _ _ (hHeld) (fun hHeld => ?_)
    clear hK K
    try change wpAnyH _ _ _ _ _ _ _ (Go.Act.put _ (some 57) _) _
    try simp only [Go.Act.put, List.setIfInBounds_toArray, List.set_cons_zero, List.set_cons_succ]
    clear k3
    refine wpAnyH_ready (rs := [6]) (by kernel_rfl) (by simp) ?_
    refine AllReadyH.cons rfl (fun K hK => ?_) AllReadyH.nil
    go_simp
    refine hK.out _ _ (hHeld.alloc _) (fun hHeld => ?_)
    clear hK K
    try change wpAnyH _ _ _ _ _ _ _ (Go.Act.put _ (some 59) _) _
    try simp only [Go.Act.put, List.setIfInBounds_toArray, List.set_cons_zero, List.set_cons_succ]
    have fr6 : Fr (fun x => LV.ownBlock = some x) W (W.alloc (.cells #[] 5)).drew := ((Fr.refl _ _).alloc _).drew
    have ho0 : Own8 ((W.alloc (.cells #[] 5)).drew) 5 (.slice (some ⟨W.heap.size, 0, none⟩) 0 0) [] := Own8.fresh W _ #[] 0 rfl (by unfold maxLen; omega)
    have fw6 : Fr (fun _ => False) W ((W.alloc (.cells #[] 5)).drew) := ((Fr.refl _ _).alloc _).drew
    generalize hw1 : (W.alloc (.cells #[] 5)).drew = w1 at *
    clear hw1
    refine wpAnyH_ready (rs := [8]) (by kernel_rfl) (by simp) ?_
    refine AllReadyH.cons rfl (fun K hK => ?_) AllReadyH.nil
    refine stepOf_append8s rfl (.tmp 59) (.tmp 60) Try.t8d rfl (.slice (some ⟨W.heap.size, 0, none⟩) 0 0) [] rfl ho0 A bs.length c bs rfl rfl (HRD.out _ fr6) (by simp; omega) ?_
    intro A2 c2 w2 ho2 hf2 hm2
    simp only [List.length_nil, Nat.zero_add, List.nil_append] at ho2 hm2 ⊢
    have hfr2 : Fr (fun _ => False) W w2 := fw6.trans hf2 (fun x hx e => by
      have e' : W.heap.size = x := by simpa [Value.ownBlock] using e
      omega)
    obtain ⟨kb, rfl, hkb⟩ : ∃ kb, A2 = some ⟨kb, 0, none⟩ ∧ W.heap.size ≤ kb := by
      rcases ho2.form with ⟨_, h0⟩ | ⟨kb, cap, e, _, _⟩
      · rw [h0] at hbl; simp at hbl
      · injection e with e
        subst e
        refine ⟨kb, rfl, ?_⟩
        rcases hm2 with e | ⟨x, e, hx⟩
        · have : kb = W.heap.size := by simpa [Value.ownBlock] using e
          omega
        · have e2 : kb = x := by simpa [Value.ownBlock] using e
          have := fw6.size
          omega
    have fr8 : Fr (fun x => LV.ownBlock = some x) W w2 := hfr2.mono (fun _ _ h => h.elim)
    clear hm2 hf2 fr6 fw6 ho0
    refine hK.out _ _ (fr8.mono (fun _ _ h => .inl h)) (fun hHeld => ?_)
    clear hK K
    try change wpAnyH _ _ _ _ _ _ _ (Go.Act.put _ (some 61) _) _
    try simp only [Go.Act.put, List.setIfInBounds_toArray, List.set_cons_zero, List.set_cons_succ]
    refine wpAnyH_takeD (i := 9) (v := ?_) (some 62) rfl rfl (by kernel_rfl) (by kernel_rfl) (by kernel_rfl) (fun _ _ _ h => h) (Or.inl ⟨by rfl, ?_⟩) (by assumption) ?_
    rotate_left
    · intro w' hSw
      go_simp
      first | done | with_reducible rfl
    try simp only [Go.Act.put, List.setIfInBounds_toArray, List.set_cons_zero, List.set_cons_succ]
    refine wpAnyH_ready (rs := [10]) (by kernel_rfl) (by simp) ?_
    refine AllReadyH.cons rfl (fun K hK => ?_) AllReadyH.nil
    go_simp
    refine hK.out _ _ (hHeld.alloc _) (fun hHeld => ?_)
    clear hK K
    try change wpAnyH _ _ _ _ _ _ _ (Go.Act.put _ (some 63) _) _
    try simp only [Go.Act.put, List.setIfInBounds_toArray, List.set_cons_zero, List.set_cons_succ]
    have fr10 := fr8.alloc (.cells #[.int .i64 (x : Int), .slice (some ⟨kb, 0, none⟩) bs.length c2] 71)
    refine wpAnyH_ready (rs := [11]) (by kernel_rfl) (by simp) ?_
    refine AllReadyH.cons rfl (fun K hK => ?_) AllReadyH.nil
    refine stepOf_appendP (w := w2) rfl (.tmp 57) (.tmp 63) rfl LV ps rfl (HROW.out.fr hfr2 (fun _ _ h => h)) ⟨x, bs, kb, c2⟩ rfl (by omega) ?_
    intro lb c3 w3 ho3 hf3 hm3
    have fr11 : Fr (fun x => LV.ownBlock = some x) W w3 := fr8.trans hf3 (fun _ _ h => h)
    clear fr10
    refine hK.out _ _ (fr11.mono (fun _ _ h => .inl h)) (fun hHeld => ?_)
    clear hK K
    try change wpAnyH _ _ _ _ _ _ _ (Go.Act.put _ (some 64) _) _
    try simp only [Go.Act.put, List.setIfInBounds_toArray, List.set_cons_zero, List.set_cons_succ]
    refine wpAnyH_takeD (i := 12) (v := ?_) (some 65) rfl rfl (by kernel_rfl) (by kernel_rfl) (by kernel_rfl) (fun _ _ _ h => h) (Or.inl ⟨by rfl, ?_⟩) (by assumption) ?_
    rotate_left
    · intro w' hSw
      go_simp
      first | done | with_reducible rfl
    try simp only [Go.Act.put, List.setIfInBounds_toArray, List.set_cons_zero, List.set_cons_succ]
    refine wpAnyH_takeD (i := 13) (v := ?_) (some 66) rfl rfl (by kernel_rfl) (by kernel_rfl) (by kernel_rfl) (fun _ _ _ h => h) (Or.inl ⟨by rfl, ?_⟩) (by assumption) ?_
    rotate_left
    · intro w' hSw
      go_simp
      first | done | with_reducible rfl
    try simp only [Go.Act.put, List.setIfInBounds_toArray, List.set_cons_zero, List.set_cons_succ]
    refine wpAnyH_ready (rs := [14]) (by kernel_rfl) (by simp) ?_
    refine AllReadyH.cons rfl (fun K hK => ?_) AllReadyH.nil
    have g3 := HBK.out.fr fr11 HLG.out
    have k3 : w3.cell? ⟨g, 3, none⟩ = some LV := g3.cell 3
    have f3 : w3.frozen? ⟨g, 3, none⟩ = false := g3.frozen 3
    have k7 : w3.cell? ⟨g, 7, none⟩ = some (.int .i64 (s.writes : Int)) := g3.cell 7
    have f7 : w3.frozen? ⟨g, 7, none⟩ = false := g3.frozen 7
    have HB3 := Lib.hid g3
    clear g3
    go_simp
    refine hK.out _ _ (hHeld.setCell (fun _ => .inr rfl) _) (fun hHeld => ?_)
    clear hK K
    try change wpAnyH _ _ _ _ _ _ _ (Go.Act.put _ none _) _
    try simp only [Go.Act.put, List.setIfInBounds_toArray, List.set_cons_zero, List.set_cons_succ]
    refine wpAnyH_done (by kernel_rfl) ?_ _
    have HFIN := Lib.hid (fun w' hf' hbk => refAdd_fin HH.out HG.out HXN.out HNN.out HFW.out (Nat.le_trans HSZ.out hkb) (ho2.fr hf3 (fun k e e2 => by
      injection e with e
      have h1 := HROW.out.lt e2
      simp only at e
      omega)) ho3 fr11 (hm3.imp id (fun ⟨k, e, hk⟩ => ⟨k, e, Nat.le_trans hfr2.size hk⟩)) (w' := w') hf' hbk)
    clear hHeld hkb ho2 ho3 hf3 hm3 fr8 fr11 hfr2 fr0 hbl hbu
    go_wp2
    go_ret
    refine ⟨rfl, HFIN.out _ ((Bk.fr_set 3 _).set 7 _) ?_⟩
    have hS := (HB3.out.set 3 (.slice (some ⟨lb, 0, none⟩) (ps.length + 1) c3)).set 7 (.int .i64 ((s.writes : Int) + 1))
    exact hS
  · skip
    go_simp
    refine hK.out _ _ (hHeld.alloc _) (fun hHeld => ?_)
    clear hK K
    try change wpAnyH _ _ _ _ _ _ _ (Go.Act.put _ (some 59) _) _
    try simp only [Go.Act.put, List.setIfInBounds_toArray, List.set_cons_zero, List.set_cons_succ]
    have fr6 : Fr (fun x => LV.ownBlock = some x) W (W.alloc (.cells #[] 5)).drew := ((Fr.refl _ _).alloc _).drew
    have ho0 : Own8 ((W.alloc (.cells #[] 5)).drew) 5 (.slice (some ⟨W.heap.size, 0, none⟩) 0 0) [] := Own8.fresh W _ #[] 0 rfl (by unfold maxLen; omega)
    have fw6 : Fr (fun _ => False) W ((W.alloc (.cells #[] 5)).drew) := ((Fr.refl _ _).alloc _).drew
    generalize hw1 : (W.alloc (.cells #[] 5)).drew = w1 at *
    clear hw1
    refine wpAnyH_ready (rs := [4, 8]) (by kernel_rfl) (by simp) ?_
    refine AllReadyH.cons rfl (fun K hK => ?_) (AllReadyH.cons rfl (fun K hK => ?_) AllReadyH.nil)
    · skip
      have k3 := (HBK.out.fr fr6 HLG.out).cell 3
      simp only [List.getElem?_toArray, List.getElem?_cons_zero, List.getElem?_cons_succ] at k3
      go_simp
      refine hK.out _ _ (hHeld) (fun hHeld => ?_)
      clear hK K
      try change wpAnyH _ _ _ _ _ _ _ (Go.Act.put _ (some 57) _) _
      try simp only [Go.Act.put, List.setIfInBounds_toArray, List.set_cons_zero, List.set_cons_succ]
      clear k3
      refine wpAnyH_ready (rs := [8]) (by kernel_rfl) (by simp) ?_
      refine AllReadyH.cons rfl (fun K hK => ?_) AllReadyH.nil
      refine stepOf_append8s rfl (.tmp 59) (.tmp 60) Try.t8d rfl (.slice (some ⟨W.heap.size, 0, none⟩) 0 0) [] rfl ho0 A bs.length c bs rfl rfl (HRD.out _ fr6) (by simp; omega) ?_
      intro A2 c2 w2 ho2 hf2 hm2
      simp only [List.length_nil, Nat.zero_add, List.nil_append] at ho2 hm2 ⊢
      have hfr2 : Fr (fun _ => False) W w2 := fw6.trans hf2 (fun x hx e => by
        have e' : W.heap.size = x := by simpa [Value.ownBlock] using e
        omega)
      obtain ⟨kb, rfl, hkb⟩ : ∃ kb, A2 = some ⟨kb, 0, none⟩ ∧ W.heap.size ≤ kb := by
        rcases ho2.form with ⟨_, h0⟩ | ⟨kb, cap, e, _, _⟩
        · rw [h0] at hbl; simp at hbl
        · injection e with e
          subst e
          refine ⟨kb, rfl, ?_⟩
          rcases hm2 with e | ⟨x, e, hx⟩
          · have : kb = W.heap.size := by simpa [Value.ownBlock] using e
            omega
          · have e2 : kb = x := by simpa [Value.ownBlock] using e
            have := fw6.size
            omega
      have fr8 : Fr (fun x => LV.ownBlock = some x) W w2 := hfr2.mono (fun _ _ h => h.elim)
      clear hm2 hf2 fr6 fw6 ho0
      refine hK.out _ _ (fr8.mono (fun _ _ h => .inl h)) (fun hHeld => ?_)
      clear hK K
      try change wpAnyH _ _ _ _ _ _ _ (Go.Act.put _ (some 61) _) _
      try simp only [Go.Act.put, List.setIfInBounds_toArray, List.set_cons_zero, List.set_cons_succ]
      refine wpAnyH_takeD (i := 9) (v := ?_) (some 62) rfl rfl (by kernel_rfl) (by kernel_rfl) (by kernel_rfl) (fun _ _ _ h => h) (Or.inl ⟨by rfl, ?_⟩) (by assumption) ?_
      rotate_left
      · intro w' hSw
        go_simp
        first | done | with_reducible rfl
      try simp only [Go.Act.put, List.setIfInBounds_toArray, List.set_cons_zero, List.set_cons_succ]
      refine wpAnyH_ready (rs := [10]) (by kernel_rfl) (by simp) ?_
      refine AllReadyH.cons rfl (fun K hK => ?_) AllReadyH.nil
      go_simp
      refine hK.out _ _ (hHeld.alloc _) (fun hHeld => ?_)
      clear hK K
      try change wpAnyH _ _ _ _ _ _ _ (Go.Act.put _ (some 63) _) _
      try simp only [Go.Act.put, List.setIfInBounds_toArray, List.set_cons_zero, List.set_cons_succ]
      have fr10 := fr8.alloc (.cells #[.int .i64 (x : Int), .slice (some ⟨kb, 0, none⟩) bs.length c2] 71)
      refine wpAnyH_ready (rs := [11]) (by kernel_rfl) (by simp) ?_
      refine AllReadyH.cons rfl (fun K hK => ?_) AllReadyH.nil
      refine stepOf_appendP (w := w2) rfl (.tmp 57) (.tmp 63) rfl LV ps rfl (HROW.out.fr hfr2 (fun _ _ h => h)) ⟨x, bs, kb, c2⟩ rfl (by omega) ?_
      intro lb c3 w3 ho3 hf3 hm3
      have fr11 : Fr (fun x => LV.ownBlock = some x) W w3 := fr8.trans hf3 (fun _ _ h => h)
      clear fr10
      refine hK.out _ _ (fr11.mono (fun _ _ h => .inl h)) (fun hHeld => ?_)
      clear hK K
      try change wpAnyH _ _ _ _ _ _ _ (Go.Act.put _ (some 64) _) _
      try simp only [Go.Act.put, List.setIfInBounds_toArray, List.set_cons_zero, List.set_cons_succ]
      refine wpAnyH_takeD (i := 12) (v := ?_) (some 65) rfl rfl (by kernel_rfl) (by kernel_rfl) (by kernel_rfl) (fun _ _ _ h => h) (Or.inl ⟨by rfl, ?_⟩) (by assumption) ?_
      rotate_left
      · intro w' hSw
        go_simp
        first | done | with_reducible rfl
      try simp only [Go.Act.put, List.setIfInBounds_toArray, List.set_cons_zero, List.set_cons_succ]
      refine wpAnyH_takeD (i := 13) (v := ?_) (some 66) rfl rfl (by kernel_rfl) (by kernel_rfl) (by kernel_rfl) (fun _ _ _ h => h) (Or.inl ⟨by rfl, ?_⟩) (by assumption) ?_
      rotate_left
      · intro w' hSw
        go_simp
        first | done | with_reducible rfl
      try simp only [Go.Act.put, List.setIfInBounds_toArray, List.set_cons_zero, List.set_cons_succ]
      refine wpAnyH_ready (rs := [14]) (by kernel_rfl) (by simp) ?_
      refine AllReadyH.cons rfl (fun K hK => ?_) AllReadyH.nil
      have g3 := HBK.out.fr fr11 HLG.out
      have k3 : w3.cell? ⟨g, 3, none⟩ = some LV := g3.cell 3
      have f3 : w3.frozen? ⟨g, 3, none⟩ = false := g3.frozen 3
      have k7 : w3.cell? ⟨g, 7, none⟩ = some (.int .i64 (s.writes : Int)) := g3.cell 7
      have f7 : w3.frozen? ⟨g, 7, none⟩ = false := g3.frozen 7
      have HB3 := Lib.hid g3
      clear g3
      go_simp
      refine hK.out _ _ (hHeld.setCell (fun _ => .inr rfl) _) (fun hHeld => ?_)
      clear hK K
      try change wpAnyH _ _ _ _ _ _ _ (Go.Act.put _ none _) _
      try simp only [Go.Act.put, List.setIfInBounds_toArray, List.set_cons_zero, List.set_cons_succ]
      refine wpAnyH_done (by kernel_rfl) ?_ _
      have HFIN := Lib.hid (fun w' hf' hbk => refAdd_fin HH.out HG.out HXN.out HNN.out HFW.out (Nat.le_trans HSZ.out hkb) (ho2.fr hf3 (fun k e e2 => by
        injection e with e
        have h1 := HROW.out.lt e2
        simp only at e
        omega)) ho3 fr11 (hm3.imp id (fun ⟨k, e, hk⟩ => ⟨k, e, Nat.le_trans hfr2.size hk⟩)) (w' := w') hf' hbk)
      clear hHeld hkb ho2 ho3 hf3 hm3 fr8 fr11 hfr2 fr0 hbl hbu
      go_wp2
      go_ret
      refine ⟨rfl, HFIN.out _ ((Bk.fr_set 3 _).set 7 _) ?_⟩
      have hS := (HB3.out.set 3 (.slice (some ⟨lb, 0, none⟩) (ps.length + 1) c3)).set 7 (.int .i64 ((s.writes : Int) + 1))
      exact hS
    · skip
      refine stepOf_append8s rfl (.tmp 59) (.tmp 60) Try.t8d rfl (.slice (some ⟨W.heap.size, 0, none⟩) 0 0) [] rfl ho0 A bs.length c bs rfl rfl (HRD.out _ fr6) (by simp; omega) ?_
      intro A2 c2 w2 ho2 hf2 hm2
      simp only [List.length_nil, Nat.zero_add, List.nil_append] at ho2 hm2 ⊢
      have hfr2 : Fr (fun _ => False) W w2 := fw6.trans hf2 (fun x hx e => by
        have e' : W.heap.size = x := by simpa [Value.ownBlock] using e
        omega)
      obtain ⟨kb, rfl, hkb⟩ : ∃ kb, A2 = some ⟨kb, 0, none⟩ ∧ W.heap.size ≤ kb := by
        rcases ho2.form with ⟨_, h0⟩ | ⟨kb, cap, e, _, _⟩
        · rw [h0] at hbl; simp at hbl
        · injection e with e
          subst e
          refine ⟨kb, rfl, ?_⟩
          rcases hm2 with e | ⟨x, e, hx⟩
          · have : kb = W.heap.size := by simpa [Value.ownBlock] using e
            omega
          · have e2 : kb = x := by simpa [Value.ownBlock] using e
            have := fw6.size
            omega
      have fr8 : Fr (fun x => LV.ownBlock = some x) W w2 := hfr2.mono (fun _ _ h => h.elim)
      clear hm2 hf2 fr6 fw6 ho0
      refine hK.out _ _ (fr8.mono (fun _ _ h => .inl h)) (fun hHeld => ?_)
      clear hK K
      try change wpAnyH _ _ _ _ _ _ _ (Go.Act.put _ (some 61) _) _
      try simp only [Go.Act.put, List.setIfInBounds_toArray, List.set_cons_zero, List.set_cons_succ]
      refine wpAnyH_takeD (i := 9) (v := ?_) (some 62) rfl rfl (by kernel_rfl) (by kernel_rfl) (by kernel_rfl) (fun _ _ _ h => h) (Or.inl ⟨by rfl, ?_⟩) (by assumption) ?_
      rotate_left
      · intro w' hSw
        go_simp
        first | done | with_reducible rfl
      try simp only [Go.Act.put, List.setIfInBounds_toArray, List.set_cons_zero, List.set_cons_succ]
      refine wpAnyH_ready (rs := [4, 10]) (by kernel_rfl) (by simp) ?_
      refine AllReadyH.cons rfl (fun K hK => ?_) (AllReadyH.cons rfl (fun K hK => ?_) AllReadyH.nil)
      · skip
        have k3 := (HBK.out.fr fr8 HLG.out).cell 3
        simp only [List.getElem?_toArray, List.getElem?_cons_zero, List.getElem?_cons_succ] at k3
        go_simp
        refine hK.out _ _ (hHeld) (fun hHeld => ?_)
        clear hK K
        try change wpAnyH _ _ _ _ _ _ _ (Go.Act.put _ (some 57) _) _
        try simp only [Go.Act.put, List.setIfInBounds_toArray, List.set_cons_zero, List.set_cons_succ]
        clear k3
        refine wpAnyH_ready (rs := [10]) (by kernel_rfl) (by simp) ?_
        refine AllReadyH.cons rfl (fun K hK => ?_) AllReadyH.nil
        go_simp
        refine hK.out _ _ (hHeld.alloc _) (fun hHeld => ?_)
        clear hK K
        try change wpAnyH _ _ _ _ _ _ _ (Go.Act.put _ (some 63) _) _
        try simp only [Go.Act.put, List.setIfInBounds_toArray, List.set_cons_zero, List.set_cons_succ]
        have fr10 := fr8.alloc (.cells #[.int .i64 (x : Int), .slice (some ⟨kb, 0, none⟩) bs.length c2] 71)
        refine wpAnyH_ready (rs := [11]) (by kernel_rfl) (by simp) ?_
        refine AllReadyH.cons rfl (fun K hK => ?_) AllReadyH.nil
        refine stepOf_appendP (w := w2) rfl (.tmp 57) (.tmp 63) rfl LV ps rfl (HROW.out.fr hfr2 (fun _ _ h => h)) ⟨x, bs, kb, c2⟩ rfl (by omega) ?_
        intro lb c3 w3 ho3 hf3 hm3
        have fr11 : Fr (fun x => LV.ownBlock = some x) W w3 := fr8.trans hf3 (fun _ _ h => h)
        clear fr10
        refine hK.out _ _ (fr11.mono (fun _ _ h => .inl h)) (fun hHeld => ?_)
        clear hK K
        try change wpAnyH _ _ _ _ _ _ _ (Go.Act.put _ (some 64) _) _
        try simp only [Go.Act.put, List.setIfInBounds_toArray, List.set_cons_zero, List.set_cons_succ]
        refine wpAnyH_takeD (i := 12) (v := ?_) (some 65) rfl rfl (by kernel_rfl) (by kernel_rfl) (by kernel_rfl) (fun _ _ _ h => h) (Or.inl ⟨by rfl, ?_⟩) (by assumption) ?_
        rotate_left
        · intro w' hSw
          go_simp
          first | done | with_reducible rfl
        try simp only [Go.Act.put, List.setIfInBounds_toArray, List.set_cons_zero, List.set_cons_succ]
        refine wpAnyH_takeD (i := 13) (v := ?_) (some 66) rfl rfl (by kernel_rfl) (by kernel_rfl) (by kernel_rfl) (fun _ _ _ h => h) (Or.inl ⟨by rfl, ?_⟩) (by assumption) ?_
        rotate_left
        · intro w' hSw
          go_simp
          first | done | with_reducible rfl
        try simp only [Go.Act.put, List.setIfInBounds_toArray, List.set_cons_zero, List.set_cons_succ]
        refine wpAnyH_ready (rs := [14]) (by kernel_rfl) (by simp) ?_
        refine AllReadyH.cons rfl (fun K hK => ?_) AllReadyH.nil
        have g3 := HBK.out.fr fr11 HLG.out
        have k3 : w3.cell? ⟨g, 3, none⟩ = some LV := g3.cell 3
        have f3 : w3.frozen? ⟨g, 3, none⟩ = false := g3.frozen 3
        have k7 : w3.cell? ⟨g, 7, none⟩ = some (.int .i64 (s.writes : Int)) := g3.cell 7
        have f7 : w3.frozen? ⟨g, 7, none⟩ = false := g3.frozen 7
        have HB3 := Lib.hid g3
        clear g3
        go_simp
        refine hK.out _ _ (hHeld.setCell (fun _ => .inr rfl) _) (fun hHeld => ?_)
        clear hK K
        try change wpAnyH _ _ _ _ _ _ _ (Go.Act.put _ none _) _
        try simp only [Go.Act.put, List.setIfInBounds_toArray, List.set_cons_zero, List.set_cons_succ]
        refine wpAnyH_done (by kernel_rfl) ?_ _
        have HFIN := Lib.hid (fun w' hf' hbk => refAdd_fin HH.out HG.out HXN.out HNN.out HFW.out (Nat.le_trans HSZ.out hkb) (ho2.fr hf3 (fun k e e2 => by
          injection e with e
          have h1 := HROW.out.lt e2
          simp only at e
          omega)) ho3 fr11 (hm3.imp id (fun ⟨k, e, hk⟩ => ⟨k, e, Nat.le_trans hfr2.size hk⟩)) (w' := w') hf' hbk)
        clear hHeld hkb ho2 ho3 hf3 hm3 fr8 fr11 hfr2 fr0 hbl hbu
        go_wp2
        go_ret
        refine ⟨rfl, HFIN.out _ ((Bk.fr_set 3 _).set 7 _) ?_⟩
        have hS := (HB3.out.set 3 (.slice (some ⟨lb, 0, none⟩) (ps.length + 1) c3)).set 7 (.int .i64 ((s.writes : Int) + 1))
        exact hS
      · skip
        go_simp
        refine hK.out _ _ (hHeld.alloc _) (fun hHeld => ?_)
        clear hK K
        try change wpAnyH _ _ _ _ _ _ _ (Go.Act.put _ (some 63) _) _
        try simp only [Go.Act.put, List.setIfInBounds_toArray, List.set_cons_zero, List.set_cons_succ]
        have fr10 := fr8.alloc (.cells #[.int .i64 (x : Int), .slice (some ⟨kb, 0, none⟩) bs.length c2] 71)
        refine wpAnyH_ready (rs := [4]) (by kernel_rfl) (by simp) ?_
        refine AllReadyH.cons rfl (fun K hK => ?_) AllReadyH.nil
        have k3 := (HBK.out.fr fr10 HLG.out).cell 3
        simp only [List.getElem?_toArray, List.getElem?_cons_zero, List.getElem?_cons_succ] at k3
        have k3w := (HBK.out.fr fr8 HLG.out).cell 3
        simp only [List.getElem?_toArray, List.getElem?_cons_zero, List.getElem?_cons_succ] at k3w
        go_simp
        refine hK.out _ _ (hHeld) (fun hHeld => ?_)
        clear hK K
        try change wpAnyH _ _ _ _ _ _ _ (Go.Act.put _ (some 57) _) _
        try simp only [Go.Act.put, List.setIfInBounds_toArray, List.set_cons_zero, List.set_cons_succ]
        clear k3 k3w
        refine wpAnyH_ready (rs := [11]) (by kernel_rfl) (by simp) ?_
        refine AllReadyH.cons rfl (fun K hK => ?_) AllReadyH.nil
        refine stepOf_appendP (w := w2) rfl (.tmp 57) (.tmp 63) rfl LV ps rfl (HROW.out.fr hfr2 (fun _ _ h => h)) ⟨x, bs, kb, c2⟩ rfl (by omega) ?_
        intro lb c3 w3 ho3 hf3 hm3
        have fr11 : Fr (fun x => LV.ownBlock = some x) W w3 := fr8.trans hf3 (fun _ _ h => h)
        clear fr10
        refine hK.out _ _ (fr11.mono (fun _ _ h => .inl h)) (fun hHeld => ?_)
        clear hK K
        try change wpAnyH _ _ _ _ _ _ _ (Go.Act.put _ (some 64) _) _
        try simp only [Go.Act.put, List.setIfInBounds_toArray, List.set_cons_zero, List.set_cons_succ]
        refine wpAnyH_takeD (i := 12) (v := ?_) (some 65) rfl rfl (by kernel_rfl) (by kernel_rfl) (by kernel_rfl) (fun _ _ _ h => h) (Or.inl ⟨by rfl, ?_⟩) (by assumption) ?_
        rotate_left
        · intro w' hSw
          go_simp
          first | done | with_reducible rfl
        try simp only [Go.Act.put, List.setIfInBounds_toArray, List.set_cons_zero, List.set_cons_succ]
        refine wpAnyH_takeD (i := 13) (v := ?_) (some 66) rfl rfl (by kernel_rfl) (by kernel_rfl) (by kernel_rfl) (fun _ _ _ h => h) (Or.inl ⟨by rfl, ?_⟩) (by assumption) ?_
        rotate_left
        · intro w' hSw
          go_simp
          first | done | with_reducible rfl
        try simp only [Go.Act.put, List.setIfInBounds_toArray, List.set_cons_zero, List.set_cons_succ]
        refine wpAnyH_ready (rs := [14]) (by kernel_rfl) (by simp) ?_
        refine AllReadyH.cons rfl (fun K hK => ?_) AllReadyH.nil
        have g3 := HBK.out.fr fr11 HLG.out
        have k3 : w3.cell? ⟨g, 3, none⟩ = some LV := g3.cell 3
        have f3 : w3.frozen? ⟨g, 3, none⟩ = false := g3.frozen 3
        have k7 : w3.cell? ⟨g, 7, none⟩ = some (.int .i64 (s.writes : Int)) := g3.cell 7
        have f7 : w3.frozen? ⟨g, 7, none⟩ = false := g3.frozen 7
        have HB3 := Lib.hid g3
        clear g3
        go_simp
        refine hK.out _ _ (hHeld.setCell (fun _ => .inr rfl) _) (fun hHeld => ?_)
        clear hK K
        try change wpAnyH _ _ _ _ _ _ _ (Go.Act.put _ none _) _
        try simp only [Go.Act.put, List.setIfInBounds_toArray, List.set_cons_zero, List.set_cons_succ]
        refine wpAnyH_done (by kernel_rfl) ?_ _
        have HFIN := Lib.hid (fun w' hf' hbk => refAdd_fin HH.out HG.out HXN.out HNN.out HFW.out (Nat.le_trans HSZ.out hkb) (ho2.fr hf3 (fun k e e2 => by
          injection e with e
          have h1 := HROW.out.lt e2
          simp only at e
          omega)) ho3 fr11 (hm3.imp id (fun ⟨k, e, hk⟩ => ⟨k, e, Nat.le_trans hfr2.size hk⟩)) (w' := w') hf' hbk)
        clear hHeld hkb ho2 ho3 hf3 hm3 fr8 fr11 hfr2 fr0 hbl hbu
        go_wp2
        go_ret
        refine ⟨rfl, HFIN.out _ ((Bk.fr_set 3 _).set 7 _) ?_⟩
        have hS := (HB3.out.set 3 (.slice (some ⟨lb, 0, none⟩) (ps.length + 1) c3)).set 7 (.int .i64 ((s.writes : Int) + 1))
        exact hS
end Go.Proofs.Ytnkkdpmmnenncaa
