/- flow: add. -/
import Derived.Test.YtkinbcmnfpkncaaDoorXb
namespace Go.Proofs.YtkinbcmnfpkncaaDoor
open Go.RowKit Go.Maps

theorem teVF : TE Tryd.prog 63 75 7 72 (.agg #[.int .i64 0, .int .i64 0, .int .i64 0, .int .i64 0, .int .i64 0, .int .i64 0, .slice none 0 0]) := ⟨Tryd.underlying63, by kernel_rfl, rfl, by omega⟩
theorem sl1F {w' : World} {g : Nat} {cs : List Value} (hl : cs.length = 7) (h : Bk w' g 75 cs.toArray) : Sl w' 7 (.slice (some ⟨g, 0, none⟩) 1 1) 1 cs :=
  Sl.at rfl (by rw [hl]) (fun j u hu => by rw [Nat.zero_add, h.cell]; simpa using hu)
theorem own8_bk {w : World} {e : TypeId} {v : Value} {bs : List UInt8} (h : Own8 w e v bs) {k : Nat} (hk : v.ownBlock = some k) : ∃ cur, Bk w k e cur := by
  rcases h.2 with ⟨rfl, _⟩ | ⟨g', cap, cur, rfl, _, hh, _⟩
  · simp [Value.ownBlock] at hk
  · have : g' = k := by simpa [Value.ownBlock] using hk
    subst this
    exact ⟨cur, hh⟩
theorem OwnV.bk {w : World} {T : TypeId} {v : Value} {ps : List VL} (h : OwnV w T v ps) {k : Nat} (hk : VB v ps k) : ∃ t cur, Bk w k t cur ∧ (t = T ∨ t = 5) := by
  rcases hk with e | ⟨q, hq, e⟩
  · obtain ⟨cur, hb⟩ := h.row.bk e; exact ⟨_, cur, hb, .inl rfl⟩
  · obtain ⟨cur, hb⟩ := own8_bk (h.each q hq).own e; exact ⟨_, cur, hb, .inr rfl⟩
theorem OwnV.put {w w' : World} {T : TypeId} {v : Value} {ps : List VL} {p : VL} {A6 : Option Addr} {c6 m : Nat} (h : OwnV w T v ps) (hp : OwV w p) (hr : Row w' T 7 (.slice A6 (m + 1) c6) (m + 1) (vlc ps ++ p.cells)) (hm : ps.length = m) (hf : Fr (fun g => v.ownBlock = some g) w w') (hne : T ≠ 5) : OwnV w' T (.slice A6 (m + 1) c6) (ps ++ [p]) := by
  refine ⟨?_, fun q hq => ?_⟩
  · rw [show (ps ++ [p]).length = m + 1 by simp [hm], show vlc (ps ++ [p]) = vlc ps ++ p.cells by simp [vlc]]
    exact hr
  · rcases List.mem_append.1 hq with hq | hq
    · exact (h.each q hq).fr hf (fun k hk e => h.apart hne hq e hk)
    · simp at hq; subst hq
      exact hp.fr hf (fun k hk e => by
        obtain ⟨cur, hb⟩ := h.row.bk e
        exact hp.own.ne hb (fun e => hne e.symm) hk)
theorem i64z : I64 0 := ⟨by decide, by decide⟩
def OpF (mo : Option Nat) (D : DV) (f : Int → Int → Int × Int) : Prop := ∀ k i, I64 k → I64 i → (mo = none ∧ f k i = (0, 0)) ∨ (has D (th k i) = false ∧ f k i = (0, 0)) ∨ At D (th k i) (stF (f k i))
theorem fth_ne {t i t' i' : Int} (ht : I64 t) (hi : I64 i) (ht' : I64 t') (hi' : I64 i') (h : ¬ (t = t' ∧ i = i')) : th t i ≠ th t' i' := fun e => h (th_inj ht hi ht' hi' e)
theorem OpF.put {w : World} {bm : Nat} {D : DV} {f : Int → Int → Int × Int} (h : OpF (some bm) D f) (hm : MV w 97 bm D) {k0 i0 : Int} (hk : I64 k0) (hi : I64 i0) (v : Int × Int) : OpF (some bm) (D.put (th k0 i0) (.held (stF v))) (upd f k0 i0 v) := fun k i hk' hi' => by
  unfold upd
  by_cases e : k = k0 ∧ i = i0
  · rw [if_pos e]; obtain ⟨rfl, rfl⟩ := e
    exact .inr (.inr (At.put hm (th_key hk hi) _))
  · rw [if_neg e]
    have hne := fth_ne hk' hi' hk hi e
    rcases h k i hk' hi' with ⟨h1, h2⟩ | ⟨h1, h2⟩ | h1
    · exact .inl ⟨h1, h2⟩
    · exact .inr (.inl ⟨(has_put_other hne _).trans h1, h2⟩)
    · exact .inr (.inr (h1.put_ne hne))
theorem OpF.del {bm : Nat} {D : DV} {f : Int → Int → Int × Int} (h : OpF (some bm) D f) {k0 i0 : Int} (hk : I64 k0) (hi : I64 i0) : OpF (some bm) (D.del (th k0 i0)) (upd f k0 i0 (0, 0)) := fun k i hk' hi' => by
  unfold upd
  by_cases e : k = k0 ∧ i = i0
  · rw [if_pos e]; obtain ⟨rfl, rfl⟩ := e
    exact .inr (.inl ⟨has_del_same, rfl⟩)
  · rw [if_neg e]
    have hne := fth_ne hk' hi' hk hi e
    rcases h k i hk' hi' with ⟨h1, h2⟩ | ⟨h1, h2⟩ | h1
    · exact .inl ⟨h1, h2⟩
    · exact .inr (.inl ⟨(has_del_other hne).trans h1, h2⟩)
    · exact .inr (.inr (h1.del_ne hne))
theorem upd64 {f : Int → Int → Int × Int} (h : ∀ k i, I64 (f k i).1 ∧ I64 (f k i).2) (k0 i0 : Int) {v : Int × Int} (hv : I64 v.1 ∧ I64 v.2) : ∀ k i, I64 (upd f k0 i0 v k i).1 ∧ I64 (upd f k0 i0 v k i).2 := fun k i => by
  unfold upd; split
  · exact hv
  · exact h k i
/-- The blocks that a call may turn: the run's own, its map, its row. -/
def AF (g bm : Nat) (v : Value) (k : Nat) : Prop := k = g ∨ k = bm ∨ v.ownBlock = some k
/-- What add tells. -/
structure AddR (w w' : World) (g bm : Nat) (A : Option Addr) (n c : Nat) (A' : Option Addr) (c' : Nat) (ps : List VL) (mo' : Option Nat) (D' : DV) (s' : FS) (k : Int) : Prop where
  fl : FlM w' g A' (n + 1) c' ps mo' D' s'
  fr : Fr (AF g bm (.slice A n c)) w w'
  mv : Moved w (.slice A n c) (.slice A' (n + 1) c')
  cl : mo' = if closesK k = true then none else some bm
theorem AddR.of {w W9 w' : World} {g bm : Nat} {A : Option Addr} {n c : Nat} {ps : List VL} {D D9 : DV} {s : FS} {cs9 : Array Value} (h : FlM w g A n c ps (some bm) D s) (p : VL) {A8 : Option Addr} {c8 : Nat} (hO : OwnV W9 75 (.slice A8 (n + 1) c8) (ps ++ [p])) (hb9 : Bk W9 g 73 cs9) (hm9 : MV W9 97 bm D9)
    (hF9 : Fr (AF g bm (.slice A n c)) w W9) (hmv : Moved w (.slice A n c) (.slice A8 (n + 1) c8)) (hb : evB p.e) (hn : n < 1048576)
    {mo' : Option Nat} {D' : DV} (hB : Bk w' g 73 ((s.add p.e).cells A8 (n + 1) c8 mo')) (hF : Fr (fun k => k = g ∨ k = bm) W9 w') (hM : ∀ b, mo' = some b → MV w' 97 b D' ∧ Maps.size D' ≤ n + 1)
    (hP : OpF mo' D' (s.add p.e).opn) (ht : 0 ≤ (s.add p.e).turn ∧ (s.add p.e).turn ≤ ((n + 1 : Nat) : Int)) (h64 : I64 (s.add p.e).tat ∧ I64 (s.add p.e).beg) (ho64 : ∀ k i, I64 ((s.add p.e).opn k i).1 ∧ I64 ((s.add p.e).opn k i).2)
    (hcl : mo' = if closesK p.e.k = true then none else some bm) : AddR w w' g bm A n c A8 c8 (ps ++ [p]) mo' D' (s.add p.e) p.e.k := by
  have hne : ∀ k, VB (.slice A8 (n + 1) c8) (ps ++ [p]) k → ¬ (k = g ∨ k = bm) := fun k hk e => by
    obtain ⟨t, cur, hk9, ht9⟩ := hO.bk hk
    rcases e with rfl | rfl
    · rcases ht9 with rfl | rfl
      · exact Bk.ne hk9 hb9 (by decide) rfl
      · exact Bk.ne hk9 hb9 (by decide) rfl
    · exact hm9.ne hk9 rfl
  refine ⟨{ blk := hB, own := hO.fr hF hne, evs := ?_, map := hM, opn := hP, big := hn, trn := ht, evb := fun e he => ?_, op64 := ho64, t64 := h64 }, hF9.trans hF (fun x _ e => e.elim .inl (fun e => .inr (.inl e))), hmv, hcl⟩
  · rw [FS.add_L, ← h.evs]; simp
  · rw [FS.add_L] at he
    rcases List.mem_append.1 he with he | he
    · exact h.evb e he
    · simp at he; subst he; exact hb

set_option maxRecDepth 100000 in
set_option maxHeartbeats 16000000 in
theorem addF_any {w : World} {g bm : Nat} {A : Option Addr} {n c : Nat} {ps : List VL} {D : DV} {s : FS} (h : FlM w g A n c ps (some bm) D s) (p : VL) (hp : OwV w p) (hb : evB p.e) (hn : n < 1048576) :
    Calls Tryd.prog 74 #[.pointer (some ⟨g, 0, none⟩), p.val] w fun e w' => e = .returned (.tuple #[]) ∧ ∃ A' c' mo' D', AddR w w' g bm A n c A' c' (ps ++ [p]) mo' D' (s.add p.e) p.e.k := by
  obtain ⟨g0, hg0⟩ : ∃ g0, w.heap.size = g0 := ⟨_, rfl⟩
  obtain ⟨W, hW⟩ : ∃ W, w.alloc (.cells p.cells.toArray 75) = W := ⟨_, rfl⟩
  have HFW : Hid (Fr (fun _ => False) w W) := Lib.hid (by rw [← hW]; exact (Fr.refl _ _).alloc _)
  have KW : Hid (Bk W g0 75 p.cells.toArray) := Lib.hid (by rw [← hW, ← hg0]; exact Bk.new _ _ _)
  have HH := Lib.hid h
  have HPW := Lib.hid hp
  have HEB := Lib.hid hb
  have HN := Lib.hid hn
  have HLEN := Lib.hid h.len
  have hmp := (h.map bm rfl)
  have HMP := Lib.hid hmp
  have HGB : Hid (g < g0 ∧ bm < g0 ∧ g ≠ bm ∧ (∀ k, (Value.slice A n c).ownBlock = some k → k < g0 ∧ k ≠ g ∧ k ≠ bm)) := Lib.hid ⟨by have := h.blk.lt; omega, by have := hmp.1.lt; omega, hmp.1.ne h.blk, fun k hk => by
    obtain ⟨cur, hbk⟩ := h.own.row.bk hk
    exact ⟨by have := hbk.lt; omega, fun e => by subst e; exact Bk.ne hbk h.blk (by decide) rfl, hmp.1.ne hbk⟩⟩
  have hnI : (n : Int) < 1048576 := by omega
  have HOK := Lib.hid hp.ok
  have HC : Hid (p.cells = [.int .i64 p.e.k, .int .i64 p.e.a, .int .i64 p.e.r, .int .i64 p.e.i, .int .i64 p.e.l, .int .i64 p.e.n, .slice p.A p.e.d.length p.c]) := Lib.hid rfl
  have hv : p.val = .agg #[.int .i64 p.e.k, .int .i64 p.e.a, .int .i64 p.e.r, .int .i64 p.e.i, .int .i64 p.e.l, .int .i64 p.e.n, .slice p.A p.e.d.length p.c] := rfl
  rw [hv]
  rw [show p.cells.toArray = #[.int .i64 p.e.k, .int .i64 p.e.a, .int .i64 p.e.r, .int .i64 p.e.i, .int .i64 p.e.l, .int .i64 p.e.n, .slice p.A p.e.d.length p.c] from rfl] at hW KW
  have HFIN : Hid (∀ {W9 w' : World} {A8 : Option Addr} {c8 : Nat} {mo' : Option Nat} {D' D9 : DV} {cs9 : Array Value}, OwnV W9 75 (.slice A8 (n + 1) c8) (ps ++ [p]) → Bk W9 g 73 cs9 → MV W9 97 bm D9 → Fr (AF g bm (.slice A n c)) w W9 → Moved w (.slice A n c) (.slice A8 (n + 1) c8) →
      Bk w' g 73 ((s.add p.e).cells A8 (n + 1) c8 mo') → Fr (fun k => k = g ∨ k = bm) W9 w' → (∀ b, mo' = some b → MV w' 97 b D' ∧ Maps.size D' ≤ n + 1) → OpF mo' D' (s.add p.e).opn → (0 ≤ (s.add p.e).turn ∧ (s.add p.e).turn ≤ ((n + 1 : Nat) : Int)) → (I64 (s.add p.e).tat ∧ I64 (s.add p.e).beg) → (∀ k i, I64 ((s.add p.e).opn k i).1 ∧ I64 ((s.add p.e).opn k i).2) →
      (mo' = if closesK p.e.k = true then none else some bm) → ∃ A' c' mo' D', AddR w w' g bm A n c A' c' (ps ++ [p]) mo' D' (s.add p.e) p.e.k) := Lib.hid (fun h1 h2 h3 h4 h5 h6 h7 h8 h9 h10 h11 h12 h13 => ⟨_, _, _, _, AddR.of HH.out p h1 h2 h3 h4 h5 HEB.out HN.out h6 h7 h8 h9 h10 h11 h12 h13⟩)
  have HSL : Hid (s.L.length = n) := Lib.hid h.lenL
  have HP64 := Lib.hid (And.intro h.trn (And.intro h.t64 h.op64))
  have HOPN : Hid (OpF (some bm) D s.opn) := Lib.hid h.opn
  clear h hp hb hn hmp hv
  obtain ⟨pe, hpe⟩ : ∃ pe, p.e = pe := ⟨_, rfl⟩
  rw [hpe] at HFIN HEB
  have HPE := Lib.hid hpe
  have HK64 : Hid (I64 pe.k ∧ I64 pe.i ∧ I64 pe.r) := Lib.hid (by rw [← HPE.out]; exact ⟨HOK.out.k, HOK.out.i, HOK.out.r⟩)
  rw [hpe] at hW KW HC ⊢
  clear hpe
  obtain ⟨k, a, r, i, l, m, d⟩ := pe
  simp only at hW KW HC ⊢
  generalize d.length = dl at *
  generalize p.A = pA at *
  generalize p.c = pc at *
  go_enter Tryd.func74, Tryd.ntmps74
  go_wp2_with fail
  clear hW hg0
  refine wp_region_Z [7, 10] ((fun w' => Fr (fun _ => False) W w')) (by kernel_rfl) ((Fr.refl _ _).drew) (fun hHeld => ?_)
  refine anyZ_pure (i := 0) (v := ?_) (some 5) rfl rfl (by kernel_rfl) (by kernel_rfl) (by kernel_rfl) (by kernel_rfl) (fun _ _ _ h => h) (Or.inl ⟨by rfl, ?_⟩) (fun _ => hHeld) ?_
  rotate_left
  · intro w' _
    go_simp
    first | done | with_reducible rfl
  try simp only [Act.put, List.setIfInBounds_toArray, List.set_cons_zero, List.set_cons_succ]
  refine anyZ_pure (i := 1) (v := ?_) (some 6) rfl rfl (by kernel_rfl) (by kernel_rfl) (by kernel_rfl) (by kernel_rfl) (fun _ _ _ h => h) (Or.inl ⟨by rfl, ?_⟩) (fun _ => hHeld) ?_
  rotate_left
  · intro w' _
    go_simp
    first | done | with_reducible rfl
  try simp only [Act.put, List.setIfInBounds_toArray, List.set_cons_zero, List.set_cons_succ]
  refine anyZ_pure (i := 2) (v := ?_) (some 7) rfl rfl (by kernel_rfl) (by kernel_rfl) (by kernel_rfl) (by kernel_rfl) (fun _ _ _ h => h) (Or.inl ⟨by rfl, ?_⟩) (fun _ => hHeld) ?_
  rotate_left
  · intro w' _
    go_simp
    first | done | with_reducible rfl
  try simp only [Act.put, List.setIfInBounds_toArray, List.set_cons_zero, List.set_cons_succ]
  refine anyZ_pure (i := 3) (v := ?_) (some 8) rfl rfl (by kernel_rfl) (by kernel_rfl) (by kernel_rfl) (by kernel_rfl) (fun _ _ _ h => h) (Or.inl ⟨by rfl, ?_⟩) (fun _ => hHeld) ?_
  rotate_left
  · intro w' _
    go_simp
    first | done | with_reducible rfl
  try simp only [Act.put, List.setIfInBounds_toArray, List.set_cons_zero, List.set_cons_succ]
  refine anyZ_read (i := 4) (v := ?_) (some 9) [7, 8, 9, 10] rfl rfl (by kernel_rfl) (by kernel_rfl) (by kernel_rfl) (by kernel_rfl) (by kernel_rfl) (by kernel_rfl) (fun _ _ _ h => h) (Or.inl ⟨by rfl, ?_⟩) hHeld ?_
  rotate_left
  · intro w' hSw
    have q2 := ((HH.out.blk.fr HFW.out (fun h => h)).fr hSw (fun h => h)).cell 2; simp only [FS.cells, List.getElem?_toArray, List.getElem?_cons_zero, List.getElem?_cons_succ] at q2
    go_simp
    first | done | with_reducible rfl
  try simp only [Act.put, List.setIfInBounds_toArray, List.set_cons_zero, List.set_cons_succ]
  refine anyZ_read (i := 5) (v := ?_) (some 10) [6, 7, 8, 9, 10] rfl rfl (by kernel_rfl) (by kernel_rfl) (by kernel_rfl) (by kernel_rfl) (by kernel_rfl) (by kernel_rfl) (fun _ _ _ h => h) (Or.inl ⟨by rfl, ?_⟩) hHeld ?_
  rotate_left
  · intro w' hSw
    have qk := KW.out.fr hSw (fun h => h); have k0 := qk.cell 0; have k1 := qk.cell 1; have k2 := qk.cell 2; have k3 := qk.cell 3; have k4 := qk.cell 4; have k5 := qk.cell 5; have k6 := qk.cell 6; simp only [List.getElem?_toArray, List.getElem?_cons_zero, List.getElem?_cons_succ] at k0 k1 k2 k3 k4 k5 k6
    go_simp
    first | done | with_reducible rfl
  try simp only [Act.put, List.setIfInBounds_toArray, List.set_cons_zero, List.set_cons_succ]
  refine anyZ_ready (rs := [6]) (by kernel_rfl) (by simp) ?_
  refine AllZ.step rfl (fun K hK => ?_) AllZ.nil
  go_simp
  refine hK.out _ _ (hHeld.alloc _) (fun hHeld => ?_)
  clear hK K
  try change anyZ _ _ _ _ _ _ _ _ (Act.put _ (some 11) _) _
  try simp only [Act.put, List.setIfInBounds_toArray, List.set_cons_zero, List.set_cons_succ]
  refine anyZ_ready (rs := [7]) (by kernel_rfl) (by simp) ?_
  refine AllZ.last rfl (by kernel_rfl) (fun K hK => ?_) AllZ.nil
  refine stepOf_appendW teVF rfl (.tmp 9) (.tmp 11) rfl (.slice A n c) n (vlc ps) rfl (by have h9 := (HH.out.own.fr0 (HFW.out.trans hHeld (fun _ _ h => h))).row; rw [HLEN.out] at h9; exact h9) _ 1 [.int .i64 k, .int .i64 a, .int .i64 r, .int .i64 i, .int .i64 l, .int .i64 m, .slice pA dl pc] rfl (sl1F rfl (Bk.new W 75 #[.int .i64 k, .int .i64 a, .int .i64 r, .int .i64 i, .int .i64 l, .int .i64 m, .slice pA dl pc]).drew) (fun u hu => by simp at hu; rcases hu with rfl | rfl | rfl | rfl | rfl | rfl | rfl <;> rfl) (by unfold maxLen; omega) (by omega) ?_
  intro A8 c8 w8 hr8 hf8 hm8
  have hW7 := HFW.out.trans hHeld (fun _ _ h => h)
  have HO8 : Hid (OwnV w8 75 (.slice A8 (n + 1) c8) (ps ++ [p])) := Lib.hid ((HH.out.own.fr0 hW7).put (HPW.out.fr hW7 (fun _ _ h => h)) (by rw [HC.out]; exact hr8) HLEN.out hf8 (by decide))
  have HB8 : Hid (Bk w8 g 73 (s.cells A n c (some bm))) := Lib.hid ((HH.out.blk.fr hW7 (fun h => h)).fr hf8 (fun e => (HGB.out.2.2.2 _ e).2.1 rfl))
  have HM8 : Hid (MV w8 97 bm D) := Lib.hid ((HMP.out.1.fr hW7 (fun h => h)).fr hf8 (fun e => (HGB.out.2.2.2 _ e).2.2 rfl))
  have HK8 : Hid (Bk w8 g0 75 #[.int .i64 k, .int .i64 a, .int .i64 r, .int .i64 i, .int .i64 l, .int .i64 m, .slice pA dl pc]) := Lib.hid ((KW.out.fr hHeld (fun h => h)).fr hf8 (fun e => by have := (HGB.out.2.2.2 _ e).1; omega))
  have HF8 : Hid (Fr (AF g bm (.slice A n c)) w w8) := Lib.hid ((hW7.mono (T := AF g bm (.slice A n c)) (fun _ _ h => h.elim)).trans hf8 (fun _ _ e => .inr (.inr e)))
  have HMV : Hid (Moved w (.slice A n c) (.slice A8 (n + 1) c8)) := Lib.hid (hm8.elim .inl (fun ⟨x, e, hx⟩ => .inr ⟨x, e, Nat.le_trans hW7.size hx⟩))
  clear hr8 hf8 hm8 hW7
  have x2 := HB8.out.cell 2
  have z2 := HB8.out.frozen 2
  simp only [FS.cells, List.getElem?_toArray, List.getElem?_cons_zero, List.getElem?_cons_succ] at x2
  obtain ⟨W9, hW9⟩ : ∃ W9, w8.setCell ⟨g, 2, none⟩ (.slice A8 (n + 1) c8) = W9 := ⟨_, rfl⟩
  refine hK.out _ _ ?_
  clear hK K
  try change anyZ _ _ _ _ _ _ _ _ (Act.put _ (some 12) _) _
  try simp only [Act.put, List.setIfInBounds_toArray, List.set_cons_zero, List.set_cons_succ]
  refine anyZ_pure (i := 8) (v := ?_) (some 13) rfl rfl (by kernel_rfl) (by kernel_rfl) (by kernel_rfl) (by kernel_rfl) (fun _ _ _ h => h) (Or.inl ⟨by rfl, ?_⟩) (notYet (by kernel_rfl)) ?_
  rotate_left
  · intro w' _
    go_simp
    first | done | with_reducible rfl
  try simp only [Act.put, List.setIfInBounds_toArray, List.set_cons_zero, List.set_cons_succ]
  refine anyZ_pure (i := 9) (v := ?_) (some 14) rfl rfl (by kernel_rfl) (by kernel_rfl) (by kernel_rfl) (by kernel_rfl) (fun _ _ _ h => h) (Or.inl ⟨by rfl, ?_⟩) (notYet (by kernel_rfl)) ?_
  rotate_left
  · intro w' _
    go_simp
    first | done | with_reducible rfl
  try simp only [Act.put, List.setIfInBounds_toArray, List.set_cons_zero, List.set_cons_succ]
  refine anyZ_ready (rs := [10]) (by kernel_rfl) (by simp) ?_
  refine AllZ.last rfl (by kernel_rfl) (fun K hK => ?_) AllZ.nil
  go_simp
  refine hK.out _ _ ?_
  clear hK K
  try change anyZ _ _ _ _ _ _ _ _ (Act.put _ none _) _
  try simp only [Act.put, List.setIfInBounds_toArray, List.set_cons_zero, List.set_cons_succ]
  refine anyZ_done (by kernel_rfl) ?_ _

  try rw [hW9]
  have HO9 : Hid (OwnV W9 75 (.slice A8 (n + 1) c8) (ps ++ [p])) := Lib.hid (HO8.out.fr (S := fun x => x = g) (w' := W9) (by rw [← hW9]; exact Fr.setCell (S := fun x => x = g) (p := ⟨g, 2, none⟩) (Fr.refl _ w8) (fun _ => rfl) _) (fun x hx e => by
    obtain ⟨t, cur, hk9, ht9⟩ := HO8.out.bk hx
    subst e
    rcases ht9 with rfl | rfl
    · exact Bk.ne hk9 HB8.out (by decide) rfl
    · exact Bk.ne hk9 HB8.out (by decide) rfl))
  have HS9 : Hid (Fr (fun x => x = g) w8 W9) := Lib.hid (by rw [← hW9]; exact Fr.setCell (S := fun x => x = g) (p := ⟨g, 2, none⟩) (Fr.refl _ w8) (fun _ => rfl) _)
  have HB9 : Hid (Bk W9 g 73 (s.cells A8 (n + 1) c8 (some bm))) := Lib.hid (by rw [← hW9]; exact HB8.out.set 2 _)
  have HM9 : Hid (MV W9 97 bm D) := Lib.hid (HM8.out.fr HS9.out (fun e => HGB.out.2.2.1 e.symm))
  have HK9 := Lib.hid (HK8.out.fr HS9.out (fun e => by have := HGB.out.1; omega))
  have HF9 : Hid (Fr (AF g bm (.slice A n c)) w W9) := Lib.hid (HF8.out.trans HS9.out (fun _ _ e => .inl e))
  have HFN : Hid (∀ (w' : World) (mo' : Option Nat) (D' : DV), Bk w' g 73 ((s.add ⟨k, a, r, i, l, m, d⟩).cells A8 (n + 1) c8 mo') → Fr (fun k => k = g ∨ k = bm) W9 w' → (∀ b, mo' = some b → MV w' 97 b D' ∧ Maps.size D' ≤ n + 1) → OpF mo' D' (s.add ⟨k, a, r, i, l, m, d⟩).opn → (0 ≤ (s.add ⟨k, a, r, i, l, m, d⟩).turn ∧ (s.add ⟨k, a, r, i, l, m, d⟩).turn ≤ ((n + 1 : Nat) : Int)) → (I64 (s.add ⟨k, a, r, i, l, m, d⟩).tat ∧ I64 (s.add ⟨k, a, r, i, l, m, d⟩).beg) → (∀ k_1 i_1, I64 ((s.add ⟨k, a, r, i, l, m, d⟩).opn k_1 i_1).1 ∧ I64 ((s.add ⟨k, a, r, i, l, m, d⟩).opn k_1 i_1).2) →
      (mo' = if closesK k = true then none else some bm) → ∃ A' c' mo' D', AddR w w' g bm A n c A' c' (ps ++ [p]) mo' D' (s.add ⟨k, a, r, i, l, m, d⟩) k) := Lib.hid (fun _ _ _ h6 h7 h8 h9 h10 h11 h12 h13 => HFIN.out HO9.out HB9.out HM9.out HF9.out HMV.out h6 h7 h8 h9 h10 h11 h12 h13)
  have HSZ := Lib.hid HMP.out.2
  clear hW9 hHeld x2 z2 HO8 HB8 HM8 HK8 HF8 HS9 HO9 HFIN HH HPW HMP HFW HLEN HOK HPE HC HMV HEB HF9
  have kk : W9.cell? ⟨g0, 0, none⟩ = some (.int .i64 k) := HK9.out.cell 0
  have y2 : W9.cell? ⟨g, 2, none⟩ = some (.slice A8 (n + 1) c8) := HB9.out.cell 2
  have hcast : ((n + 1 : Nat) : Int) = (n : Int) + 1 := by omega
  by_cases hk2 : k = 2
  · subst hk2
    have hadd : s.add ⟨2, a, r, i, l, m, d⟩ = { s with L := s.L ++ [⟨2, a, r, i, l, m, d⟩], tat := s.L.length + 1, beg := 0, late := false } := by unfold FS.add; simp
    have HADD := Lib.hid hadd
    clear hadd
    have y4 : W9.cell? ⟨g, 4, none⟩ = some (.int .i64 s.tat) := HB9.out.cell 4
    have z4 : W9.frozen? ⟨g, 4, none⟩ = false := HB9.out.frozen 4
    have y5 : W9.cell? ⟨g, 5, none⟩ = some (.int .i64 s.beg) := HB9.out.cell 5
    have z5 : W9.frozen? ⟨g, 5, none⟩ = false := HB9.out.frozen 5
    have y7 : W9.cell? ⟨g, 7, none⟩ = some (.bool s.late) := HB9.out.cell 7
    have z7 : W9.frozen? ⟨g, 7, none⟩ = false := HB9.out.frozen 7
    go_wp2
    refine bodyPost_end (results_none rfl _ _ _) rfl ⟨rfl, HFN.out _ (some bm) D ?_ ?_ ?_ (by rw [HADD.out]; exact HOPN.out) ?_ ?_ (by rw [HADD.out]; exact HP64.out.2.2) (by rfl)⟩
    · have hb := (((HB9.out.set 4 (.int .i64 ((n : Int) + 1))).set 5 (.int .i64 0)).set 7 (.bool false))
      rw [HADD.out]
      simpa [FS.cells, HSL.out] using hb
    · exact (Fr.setCell (S := fun x => x = g ∨ x = bm) (p := ⟨g, 7, none⟩) (Fr.setCell (S := fun x => x = g ∨ x = bm) (p := ⟨g, 5, none⟩) (Fr.setCell (S := fun x => x = g ∨ x = bm) (p := ⟨g, 4, none⟩) (Fr.refl _ W9) (fun _ => .inl rfl) _) (fun _ => .inl rfl) _) (fun _ => .inl rfl) _)
    · intro b hb; obtain rfl : bm = b := by simpa using hb
      exact ⟨(((HM9.out.fr (Fr.setCell (S := fun x => x = g) (p := ⟨g, 4, none⟩) (Fr.refl _ _) (fun _ => rfl) _) (fun e => HGB.out.2.2.1 e.symm)).fr (Fr.setCell (S := fun x => x = g) (p := ⟨g, 5, none⟩) (Fr.refl _ _) (fun _ => rfl) _) (fun e => HGB.out.2.2.1 e.symm)).fr (Fr.setCell (S := fun x => x = g) (p := ⟨g, 7, none⟩) (Fr.refl _ _) (fun _ => rfl) _) (fun e => HGB.out.2.2.1 e.symm)), by have := HSZ.out; omega⟩
    · rw [HADD.out]; have := HP64.out.1; exact ⟨by first | (simp only; omega) | omega, by first | (simp only; omega) | omega⟩
    · rw [HADD.out]; have := HP64.out.2.1; exact ⟨by first | exact this.1 | (simp only [HSL.out]; exact ⟨by omega, by omega⟩) | exact ⟨by decide, by decide⟩, by first | exact this.2 | (simp only [HSL.out]; exact ⟨by omega, by omega⟩) | exact ⟨by decide, by decide⟩⟩
  by_cases hk3 : k = 3
  · subst hk3
    have hadd : s.add ⟨3, a, r, i, l, m, d⟩ = { s with L := s.L ++ [⟨3, a, r, i, l, m, d⟩], beg := s.L.length + 1 } := by unfold FS.add; simp
    have HADD := Lib.hid hadd
    clear hadd
    have y5 : W9.cell? ⟨g, 5, none⟩ = some (.int .i64 s.beg) := HB9.out.cell 5
    have z5 : W9.frozen? ⟨g, 5, none⟩ = false := HB9.out.frozen 5
    go_wp2
    refine bodyPost_end (results_none rfl _ _ _) rfl ⟨rfl, HFN.out _ (some bm) D ?_ ?_ ?_ (by rw [HADD.out]; exact HOPN.out) ?_ ?_ (by rw [HADD.out]; exact HP64.out.2.2) (by rfl)⟩
    · have hb := (HB9.out.set 5 (.int .i64 ((n : Int) + 1)))
      rw [HADD.out]
      simpa [FS.cells, HSL.out] using hb
    · exact (Fr.setCell (S := fun x => x = g ∨ x = bm) (p := ⟨g, 5, none⟩) (Fr.refl _ W9) (fun _ => .inl rfl) _)
    · intro b hb; obtain rfl : bm = b := by simpa using hb
      exact ⟨(HM9.out.fr (Fr.setCell (S := fun x => x = g) (p := ⟨g, 5, none⟩) (Fr.refl _ _) (fun _ => rfl) _) (fun e => HGB.out.2.2.1 e.symm)), by have := HSZ.out; omega⟩
    · rw [HADD.out]; have := HP64.out.1; exact ⟨by first | (simp only; omega) | omega, by first | (simp only; omega) | omega⟩
    · rw [HADD.out]; have := HP64.out.2.1; exact ⟨by first | exact this.1 | (simp only [HSL.out]; exact ⟨by omega, by omega⟩) | exact ⟨by decide, by decide⟩, by first | exact this.2 | (simp only [HSL.out]; exact ⟨by omega, by omega⟩) | exact ⟨by decide, by decide⟩⟩
  by_cases hk4 : k = 4
  · subst hk4
    have hadd : s.add ⟨4, a, r, i, l, m, d⟩ = { s with L := s.L ++ [⟨4, a, r, i, l, m, d⟩], tat := 0, beg := 0, turn := 0 } := by unfold FS.add; simp
    have HADD := Lib.hid hadd
    clear hadd
    have y4 : W9.cell? ⟨g, 4, none⟩ = some (.int .i64 s.tat) := HB9.out.cell 4
    have z4 : W9.frozen? ⟨g, 4, none⟩ = false := HB9.out.frozen 4
    have y5 : W9.cell? ⟨g, 5, none⟩ = some (.int .i64 s.beg) := HB9.out.cell 5
    have z5 : W9.frozen? ⟨g, 5, none⟩ = false := HB9.out.frozen 5
    have y6 : W9.cell? ⟨g, 6, none⟩ = some (.int .i64 s.turn) := HB9.out.cell 6
    have z6 : W9.frozen? ⟨g, 6, none⟩ = false := HB9.out.frozen 6
    go_wp2
    refine bodyPost_end (results_none rfl _ _ _) rfl ⟨rfl, HFN.out _ (some bm) D ?_ ?_ ?_ (by rw [HADD.out]; exact HOPN.out) ?_ ?_ (by rw [HADD.out]; exact HP64.out.2.2) (by rfl)⟩
    · have hb := (((HB9.out.set 4 (.int .i64 0)).set 5 (.int .i64 0)).set 6 (.int .i64 0))
      rw [HADD.out]
      simpa [FS.cells, HSL.out] using hb
    · exact (Fr.setCell (S := fun x => x = g ∨ x = bm) (p := ⟨g, 6, none⟩) (Fr.setCell (S := fun x => x = g ∨ x = bm) (p := ⟨g, 5, none⟩) (Fr.setCell (S := fun x => x = g ∨ x = bm) (p := ⟨g, 4, none⟩) (Fr.refl _ W9) (fun _ => .inl rfl) _) (fun _ => .inl rfl) _) (fun _ => .inl rfl) _)
    · intro b hb; obtain rfl : bm = b := by simpa using hb
      exact ⟨(((HM9.out.fr (Fr.setCell (S := fun x => x = g) (p := ⟨g, 4, none⟩) (Fr.refl _ _) (fun _ => rfl) _) (fun e => HGB.out.2.2.1 e.symm)).fr (Fr.setCell (S := fun x => x = g) (p := ⟨g, 5, none⟩) (Fr.refl _ _) (fun _ => rfl) _) (fun e => HGB.out.2.2.1 e.symm)).fr (Fr.setCell (S := fun x => x = g) (p := ⟨g, 6, none⟩) (Fr.refl _ _) (fun _ => rfl) _) (fun e => HGB.out.2.2.1 e.symm)), by have := HSZ.out; omega⟩
    · rw [HADD.out]; have := HP64.out.1; exact ⟨by first | (simp only; omega) | omega, by first | (simp only; omega) | omega⟩
    · rw [HADD.out]; have := HP64.out.2.1; exact ⟨by first | exact this.1 | (simp only [HSL.out]; exact ⟨by omega, by omega⟩) | exact ⟨by decide, by decide⟩, by first | exact this.2 | (simp only [HSL.out]; exact ⟨by omega, by omega⟩) | exact ⟨by decide, by decide⟩⟩
  by_cases hk5 : k = 5
  · subst hk5
    have hadd : s.add ⟨5, a, r, i, l, m, d⟩ = { s with L := s.L ++ [⟨5, a, r, i, l, m, d⟩], tat := 0, beg := 0, turn := s.turn + 1 } := by unfold FS.add; simp
    have HADD := Lib.hid hadd
    clear hadd
    have y4 : W9.cell? ⟨g, 4, none⟩ = some (.int .i64 s.tat) := HB9.out.cell 4
    have z4 : W9.frozen? ⟨g, 4, none⟩ = false := HB9.out.frozen 4
    have y5 : W9.cell? ⟨g, 5, none⟩ = some (.int .i64 s.beg) := HB9.out.cell 5
    have z5 : W9.frozen? ⟨g, 5, none⟩ = false := HB9.out.frozen 5
    have y6 : W9.cell? ⟨g, 6, none⟩ = some (.int .i64 s.turn) := HB9.out.cell 6
    have z6 : W9.frozen? ⟨g, 6, none⟩ = false := HB9.out.frozen 6
    have wt : IntKind.i64.wrap (s.turn + 1) = s.turn + 1 := IntWalk.i64_in _ (by have := HP64.out.1; omega)
    go_wp2
    refine bodyPost_end (results_none rfl _ _ _) rfl ⟨rfl, HFN.out _ (some bm) D ?_ ?_ ?_ (by rw [HADD.out]; exact HOPN.out) ?_ ?_ (by rw [HADD.out]; exact HP64.out.2.2) (by rfl)⟩
    · have hb := (((HB9.out.set 4 (.int .i64 0)).set 5 (.int .i64 0)).set 6 (.int .i64 (s.turn + 1)))
      rw [HADD.out]
      simpa [FS.cells, HSL.out] using hb
    · exact (Fr.setCell (S := fun x => x = g ∨ x = bm) (p := ⟨g, 6, none⟩) (Fr.setCell (S := fun x => x = g ∨ x = bm) (p := ⟨g, 5, none⟩) (Fr.setCell (S := fun x => x = g ∨ x = bm) (p := ⟨g, 4, none⟩) (Fr.refl _ W9) (fun _ => .inl rfl) _) (fun _ => .inl rfl) _) (fun _ => .inl rfl) _)
    · intro b hb; obtain rfl : bm = b := by simpa using hb
      exact ⟨(((HM9.out.fr (Fr.setCell (S := fun x => x = g) (p := ⟨g, 4, none⟩) (Fr.refl _ _) (fun _ => rfl) _) (fun e => HGB.out.2.2.1 e.symm)).fr (Fr.setCell (S := fun x => x = g) (p := ⟨g, 5, none⟩) (Fr.refl _ _) (fun _ => rfl) _) (fun e => HGB.out.2.2.1 e.symm)).fr (Fr.setCell (S := fun x => x = g) (p := ⟨g, 6, none⟩) (Fr.refl _ _) (fun _ => rfl) _) (fun e => HGB.out.2.2.1 e.symm)), by have := HSZ.out; omega⟩
    · rw [HADD.out]; have := HP64.out.1; exact ⟨by first | (simp only; omega) | omega, by first | (simp only; omega) | omega⟩
    · rw [HADD.out]; have := HP64.out.2.1; exact ⟨by first | exact this.1 | (simp only [HSL.out]; exact ⟨by omega, by omega⟩) | exact ⟨by decide, by decide⟩, by first | exact this.2 | (simp only [HSL.out]; exact ⟨by omega, by omega⟩) | exact ⟨by decide, by decide⟩⟩
  by_cases hk6 : k = 6
  · subst hk6
    have hadd : s.add ⟨6, a, r, i, l, m, d⟩ = { s with L := s.L ++ [⟨6, a, r, i, l, m, d⟩], tat := 0, beg := 0, turn := s.turn + 1 } := by unfold FS.add; simp
    have HADD := Lib.hid hadd
    clear hadd
    have y4 : W9.cell? ⟨g, 4, none⟩ = some (.int .i64 s.tat) := HB9.out.cell 4
    have z4 : W9.frozen? ⟨g, 4, none⟩ = false := HB9.out.frozen 4
    have y5 : W9.cell? ⟨g, 5, none⟩ = some (.int .i64 s.beg) := HB9.out.cell 5
    have z5 : W9.frozen? ⟨g, 5, none⟩ = false := HB9.out.frozen 5
    have y6 : W9.cell? ⟨g, 6, none⟩ = some (.int .i64 s.turn) := HB9.out.cell 6
    have z6 : W9.frozen? ⟨g, 6, none⟩ = false := HB9.out.frozen 6
    have wt : IntKind.i64.wrap (s.turn + 1) = s.turn + 1 := IntWalk.i64_in _ (by have := HP64.out.1; omega)
    go_wp2
    refine bodyPost_end (results_none rfl _ _ _) rfl ⟨rfl, HFN.out _ (some bm) D ?_ ?_ ?_ (by rw [HADD.out]; exact HOPN.out) ?_ ?_ (by rw [HADD.out]; exact HP64.out.2.2) (by rfl)⟩
    · have hb := (((HB9.out.set 4 (.int .i64 0)).set 5 (.int .i64 0)).set 6 (.int .i64 (s.turn + 1)))
      rw [HADD.out]
      simpa [FS.cells, HSL.out] using hb
    · exact (Fr.setCell (S := fun x => x = g ∨ x = bm) (p := ⟨g, 6, none⟩) (Fr.setCell (S := fun x => x = g ∨ x = bm) (p := ⟨g, 5, none⟩) (Fr.setCell (S := fun x => x = g ∨ x = bm) (p := ⟨g, 4, none⟩) (Fr.refl _ W9) (fun _ => .inl rfl) _) (fun _ => .inl rfl) _) (fun _ => .inl rfl) _)
    · intro b hb; obtain rfl : bm = b := by simpa using hb
      exact ⟨(((HM9.out.fr (Fr.setCell (S := fun x => x = g) (p := ⟨g, 4, none⟩) (Fr.refl _ _) (fun _ => rfl) _) (fun e => HGB.out.2.2.1 e.symm)).fr (Fr.setCell (S := fun x => x = g) (p := ⟨g, 5, none⟩) (Fr.refl _ _) (fun _ => rfl) _) (fun e => HGB.out.2.2.1 e.symm)).fr (Fr.setCell (S := fun x => x = g) (p := ⟨g, 6, none⟩) (Fr.refl _ _) (fun _ => rfl) _) (fun e => HGB.out.2.2.1 e.symm)), by have := HSZ.out; omega⟩
    · rw [HADD.out]; have := HP64.out.1; exact ⟨by first | (simp only; omega) | omega, by first | (simp only; omega) | omega⟩
    · rw [HADD.out]; have := HP64.out.2.1; exact ⟨by first | exact this.1 | (simp only [HSL.out]; exact ⟨by omega, by omega⟩) | exact ⟨by decide, by decide⟩, by first | exact this.2 | (simp only [HSL.out]; exact ⟨by omega, by omega⟩) | exact ⟨by decide, by decide⟩⟩
  by_cases hk16 : k = 16
  · subst hk16
    have hadd : s.add ⟨16, a, r, i, l, m, d⟩ = { s with L := s.L ++ [⟨16, a, r, i, l, m, d⟩], asked := true } := by unfold FS.add; simp
    have HADD := Lib.hid hadd
    clear hadd
    have y8 : W9.cell? ⟨g, 8, none⟩ = some (.bool s.asked) := HB9.out.cell 8
    have z8 : W9.frozen? ⟨g, 8, none⟩ = false := HB9.out.frozen 8
    go_wp2
    refine bodyPost_end (results_none rfl _ _ _) rfl ⟨rfl, HFN.out _ (some bm) D ?_ ?_ ?_ (by rw [HADD.out]; exact HOPN.out) ?_ ?_ (by rw [HADD.out]; exact HP64.out.2.2) (by rfl)⟩
    · have hb := (HB9.out.set 8 (.bool true))
      rw [HADD.out]
      simpa [FS.cells, HSL.out] using hb
    · exact (Fr.setCell (S := fun x => x = g ∨ x = bm) (p := ⟨g, 8, none⟩) (Fr.refl _ W9) (fun _ => .inl rfl) _)
    · intro b hb; obtain rfl : bm = b := by simpa using hb
      exact ⟨(HM9.out.fr (Fr.setCell (S := fun x => x = g) (p := ⟨g, 8, none⟩) (Fr.refl _ _) (fun _ => rfl) _) (fun e => HGB.out.2.2.1 e.symm)), by have := HSZ.out; omega⟩
    · rw [HADD.out]; have := HP64.out.1; exact ⟨by first | (simp only; omega) | omega, by first | (simp only; omega) | omega⟩
    · rw [HADD.out]; have := HP64.out.2.1; exact ⟨by first | exact this.1 | (simp only [HSL.out]; exact ⟨by omega, by omega⟩) | exact ⟨by decide, by decide⟩, by first | exact this.2 | (simp only [HSL.out]; exact ⟨by omega, by omega⟩) | exact ⟨by decide, by decide⟩⟩
  by_cases hk19 : k = 19
  · subst hk19
    have hadd : s.add ⟨19, a, r, i, l, m, d⟩ = { s with L := s.L ++ [⟨19, a, r, i, l, m, d⟩], tat := 0, beg := 0, opn := fun _ _ => (0, 0) } := by unfold FS.add; simp
    have HADD := Lib.hid hadd
    clear hadd
    have y3 : W9.cell? ⟨g, 3, none⟩ = some (.map (some bm)) := HB9.out.cell 3
    have z3 : W9.frozen? ⟨g, 3, none⟩ = false := HB9.out.frozen 3
    have y4 : W9.cell? ⟨g, 4, none⟩ = some (.int .i64 s.tat) := HB9.out.cell 4
    have z4 : W9.frozen? ⟨g, 4, none⟩ = false := HB9.out.frozen 4
    have y5 : W9.cell? ⟨g, 5, none⟩ = some (.int .i64 s.beg) := HB9.out.cell 5
    have z5 : W9.frozen? ⟨g, 5, none⟩ = false := HB9.out.frozen 5
    go_wp2
    refine bodyPost_end (results_none rfl _ _ _) rfl ⟨rfl, HFN.out _ none D ?_ ?_ (fun b hb => by cases hb) (by rw [HADD.out]; exact fun _ _ _ _ => .inl ⟨rfl, rfl⟩) ?_ ?_ (by rw [HADD.out]; exact fun _ _ => ⟨i64z, i64z⟩) (by rfl)⟩
    · have hb := (((HB9.out.set 4 (.int .i64 0)).set 5 (.int .i64 0)).set 3 (.map none))
      rw [HADD.out]
      simpa [FS.cells, HSL.out] using hb
    · exact (Fr.setCell (S := fun x => x = g ∨ x = bm) (p := ⟨g, 3, none⟩) (Fr.setCell (S := fun x => x = g ∨ x = bm) (p := ⟨g, 5, none⟩) (Fr.setCell (S := fun x => x = g ∨ x = bm) (p := ⟨g, 4, none⟩) (Fr.refl _ W9) (fun _ => .inl rfl) _) (fun _ => .inl rfl) _) (fun _ => .inl rfl) _)
    · rw [HADD.out]; have := HP64.out.1; exact ⟨by first | (simp only; omega) | omega, by first | (simp only; omega) | omega⟩
    · rw [HADD.out]; have := HP64.out.2.1; exact ⟨by first | exact this.1 | (simp only [HSL.out]; exact ⟨by omega, by omega⟩) | exact ⟨by decide, by decide⟩, by first | exact this.2 | (simp only [HSL.out]; exact ⟨by omega, by omega⟩) | exact ⟨by decide, by decide⟩⟩
  by_cases hk20 : k = 20
  · subst hk20
    have hadd : s.add ⟨20, a, r, i, l, m, d⟩ = { s with L := s.L ++ [⟨20, a, r, i, l, m, d⟩], tat := 0, beg := 0, opn := fun _ _ => (0, 0) } := by unfold FS.add; simp
    have HADD := Lib.hid hadd
    clear hadd
    have y3 : W9.cell? ⟨g, 3, none⟩ = some (.map (some bm)) := HB9.out.cell 3
    have z3 : W9.frozen? ⟨g, 3, none⟩ = false := HB9.out.frozen 3
    have y4 : W9.cell? ⟨g, 4, none⟩ = some (.int .i64 s.tat) := HB9.out.cell 4
    have z4 : W9.frozen? ⟨g, 4, none⟩ = false := HB9.out.frozen 4
    have y5 : W9.cell? ⟨g, 5, none⟩ = some (.int .i64 s.beg) := HB9.out.cell 5
    have z5 : W9.frozen? ⟨g, 5, none⟩ = false := HB9.out.frozen 5
    go_wp2
    refine bodyPost_end (results_none rfl _ _ _) rfl ⟨rfl, HFN.out _ none D ?_ ?_ (fun b hb => by cases hb) (by rw [HADD.out]; exact fun _ _ _ _ => .inl ⟨rfl, rfl⟩) ?_ ?_ (by rw [HADD.out]; exact fun _ _ => ⟨i64z, i64z⟩) (by rfl)⟩
    · have hb := (((HB9.out.set 4 (.int .i64 0)).set 5 (.int .i64 0)).set 3 (.map none))
      rw [HADD.out]
      simpa [FS.cells, HSL.out] using hb
    · exact (Fr.setCell (S := fun x => x = g ∨ x = bm) (p := ⟨g, 3, none⟩) (Fr.setCell (S := fun x => x = g ∨ x = bm) (p := ⟨g, 5, none⟩) (Fr.setCell (S := fun x => x = g ∨ x = bm) (p := ⟨g, 4, none⟩) (Fr.refl _ W9) (fun _ => .inl rfl) _) (fun _ => .inl rfl) _) (fun _ => .inl rfl) _)
    · rw [HADD.out]; have := HP64.out.1; exact ⟨by first | (simp only; omega) | omega, by first | (simp only; omega) | omega⟩
    · rw [HADD.out]; have := HP64.out.2.1; exact ⟨by first | exact this.1 | (simp only [HSL.out]; exact ⟨by omega, by omega⟩) | exact ⟨by decide, by decide⟩, by first | exact this.2 | (simp only [HSL.out]; exact ⟨by omega, by omega⟩) | exact ⟨by decide, by decide⟩⟩
  by_cases hk21 : k = 21
  · subst hk21
    have hadd : s.add ⟨21, a, r, i, l, m, d⟩ = { s with L := s.L ++ [⟨21, a, r, i, l, m, d⟩], tat := 0, beg := 0, opn := fun _ _ => (0, 0) } := by unfold FS.add; simp
    have HADD := Lib.hid hadd
    clear hadd
    have y3 : W9.cell? ⟨g, 3, none⟩ = some (.map (some bm)) := HB9.out.cell 3
    have z3 : W9.frozen? ⟨g, 3, none⟩ = false := HB9.out.frozen 3
    have y4 : W9.cell? ⟨g, 4, none⟩ = some (.int .i64 s.tat) := HB9.out.cell 4
    have z4 : W9.frozen? ⟨g, 4, none⟩ = false := HB9.out.frozen 4
    have y5 : W9.cell? ⟨g, 5, none⟩ = some (.int .i64 s.beg) := HB9.out.cell 5
    have z5 : W9.frozen? ⟨g, 5, none⟩ = false := HB9.out.frozen 5
    go_wp2
    refine bodyPost_end (results_none rfl _ _ _) rfl ⟨rfl, HFN.out _ none D ?_ ?_ (fun b hb => by cases hb) (by rw [HADD.out]; exact fun _ _ _ _ => .inl ⟨rfl, rfl⟩) ?_ ?_ (by rw [HADD.out]; exact fun _ _ => ⟨i64z, i64z⟩) (by rfl)⟩
    · have hb := (((HB9.out.set 4 (.int .i64 0)).set 5 (.int .i64 0)).set 3 (.map none))
      rw [HADD.out]
      simpa [FS.cells, HSL.out] using hb
    · exact (Fr.setCell (S := fun x => x = g ∨ x = bm) (p := ⟨g, 3, none⟩) (Fr.setCell (S := fun x => x = g ∨ x = bm) (p := ⟨g, 5, none⟩) (Fr.setCell (S := fun x => x = g ∨ x = bm) (p := ⟨g, 4, none⟩) (Fr.refl _ W9) (fun _ => .inl rfl) _) (fun _ => .inl rfl) _) (fun _ => .inl rfl) _)
    · rw [HADD.out]; have := HP64.out.1; exact ⟨by first | (simp only; omega) | omega, by first | (simp only; omega) | omega⟩
    · rw [HADD.out]; have := HP64.out.2.1; exact ⟨by first | exact this.1 | (simp only [HSL.out]; exact ⟨by omega, by omega⟩) | exact ⟨by decide, by decide⟩, by first | exact this.2 | (simp only [HSL.out]; exact ⟨by omega, by omega⟩) | exact ⟨by decide, by decide⟩⟩
  by_cases hk22 : k = 22
  · subst hk22
    have hadd : s.add ⟨22, a, r, i, l, m, d⟩ = { s with L := s.L ++ [⟨22, a, r, i, l, m, d⟩], tat := 0, beg := 0, opn := fun _ _ => (0, 0) } := by unfold FS.add; simp
    have HADD := Lib.hid hadd
    clear hadd
    have y3 : W9.cell? ⟨g, 3, none⟩ = some (.map (some bm)) := HB9.out.cell 3
    have z3 : W9.frozen? ⟨g, 3, none⟩ = false := HB9.out.frozen 3
    have y4 : W9.cell? ⟨g, 4, none⟩ = some (.int .i64 s.tat) := HB9.out.cell 4
    have z4 : W9.frozen? ⟨g, 4, none⟩ = false := HB9.out.frozen 4
    have y5 : W9.cell? ⟨g, 5, none⟩ = some (.int .i64 s.beg) := HB9.out.cell 5
    have z5 : W9.frozen? ⟨g, 5, none⟩ = false := HB9.out.frozen 5
    go_wp2
    refine bodyPost_end (results_none rfl _ _ _) rfl ⟨rfl, HFN.out _ none D ?_ ?_ (fun b hb => by cases hb) (by rw [HADD.out]; exact fun _ _ _ _ => .inl ⟨rfl, rfl⟩) ?_ ?_ (by rw [HADD.out]; exact fun _ _ => ⟨i64z, i64z⟩) (by rfl)⟩
    · have hb := (((HB9.out.set 4 (.int .i64 0)).set 5 (.int .i64 0)).set 3 (.map none))
      rw [HADD.out]
      simpa [FS.cells, HSL.out] using hb
    · exact (Fr.setCell (S := fun x => x = g ∨ x = bm) (p := ⟨g, 3, none⟩) (Fr.setCell (S := fun x => x = g ∨ x = bm) (p := ⟨g, 5, none⟩) (Fr.setCell (S := fun x => x = g ∨ x = bm) (p := ⟨g, 4, none⟩) (Fr.refl _ W9) (fun _ => .inl rfl) _) (fun _ => .inl rfl) _) (fun _ => .inl rfl) _)
    · rw [HADD.out]; have := HP64.out.1; exact ⟨by first | (simp only; omega) | omega, by first | (simp only; omega) | omega⟩
    · rw [HADD.out]; have := HP64.out.2.1; exact ⟨by first | exact this.1 | (simp only [HSL.out]; exact ⟨by omega, by omega⟩) | exact ⟨by decide, by decide⟩, by first | exact this.2 | (simp only [HSL.out]; exact ⟨by omega, by omega⟩) | exact ⟨by decide, by decide⟩⟩
  by_cases hk23 : k = 23
  · subst hk23
    have hadd : s.add ⟨23, a, r, i, l, m, d⟩ = { s with L := s.L ++ [⟨23, a, r, i, l, m, d⟩], tat := 0, beg := 0, opn := fun _ _ => (0, 0) } := by unfold FS.add; simp
    have HADD := Lib.hid hadd
    clear hadd
    have y3 : W9.cell? ⟨g, 3, none⟩ = some (.map (some bm)) := HB9.out.cell 3
    have z3 : W9.frozen? ⟨g, 3, none⟩ = false := HB9.out.frozen 3
    have y4 : W9.cell? ⟨g, 4, none⟩ = some (.int .i64 s.tat) := HB9.out.cell 4
    have z4 : W9.frozen? ⟨g, 4, none⟩ = false := HB9.out.frozen 4
    have y5 : W9.cell? ⟨g, 5, none⟩ = some (.int .i64 s.beg) := HB9.out.cell 5
    have z5 : W9.frozen? ⟨g, 5, none⟩ = false := HB9.out.frozen 5
    go_wp2
    refine bodyPost_end (results_none rfl _ _ _) rfl ⟨rfl, HFN.out _ none D ?_ ?_ (fun b hb => by cases hb) (by rw [HADD.out]; exact fun _ _ _ _ => .inl ⟨rfl, rfl⟩) ?_ ?_ (by rw [HADD.out]; exact fun _ _ => ⟨i64z, i64z⟩) (by rfl)⟩
    · have hb := (((HB9.out.set 4 (.int .i64 0)).set 5 (.int .i64 0)).set 3 (.map none))
      rw [HADD.out]
      simpa [FS.cells, HSL.out] using hb
    · exact (Fr.setCell (S := fun x => x = g ∨ x = bm) (p := ⟨g, 3, none⟩) (Fr.setCell (S := fun x => x = g ∨ x = bm) (p := ⟨g, 5, none⟩) (Fr.setCell (S := fun x => x = g ∨ x = bm) (p := ⟨g, 4, none⟩) (Fr.refl _ W9) (fun _ => .inl rfl) _) (fun _ => .inl rfl) _) (fun _ => .inl rfl) _)
    · rw [HADD.out]; have := HP64.out.1; exact ⟨by first | (simp only; omega) | omega, by first | (simp only; omega) | omega⟩
    · rw [HADD.out]; have := HP64.out.2.1; exact ⟨by first | exact this.1 | (simp only [HSL.out]; exact ⟨by omega, by omega⟩) | exact ⟨by decide, by decide⟩, by first | exact this.2 | (simp only [HSL.out]; exact ⟨by omega, by omega⟩) | exact ⟨by decide, by decide⟩⟩
  by_cases hk7 : k = 7
  · subst hk7
    have hadd : s.add ⟨7, a, r, i, l, m, d⟩ = { s with L := s.L ++ [⟨7, a, r, i, l, m, d⟩], opn := upd s.opn 7 i (s.L.length + 1, 0) } := by unfold FS.add; simp
    have HADD := Lib.hid hadd
    clear hadd
    have HPU : Hid (∀ w', Fr (fun _ => False) W9 w' → ∃ w1, (Instr.mapUpdate 69 (.map (some bm)) (.agg #[.int .i64 7, .int .i64 i]) (.agg #[.int .i64 ((n : Int) + 1), .int .i64 0])).run Tryd.prog w' = .ok () w1 ∧ MV w1 97 bm (D.put (th 7 i) (.held (stF (((n : Int) + 1), 0)))) ∧ Fr (fun x => x = bm) w' w1) := Lib.hid (fun w' hf =>
      (HM9.out.fr hf (fun h => h)).update kFth tOpenF (by have := HSZ.out; have := HN.out; omega) (fth_of (show I64 7 from ⟨by decide, by decide⟩) HK64.out.2.1) (val := stF (((n : Int) + 1), 0)))
    go_wp2_with fail
    refine wp_region_Z [11] ((fun w' => Fr (fun _ => False) W9 w')) (by kernel_rfl) ((Fr.refl _ _).drew) (fun hHeld => ?_)
    refine anyZ_pure (i := 0) (v := ?_) (some 66) rfl rfl (by kernel_rfl) (by kernel_rfl) (by kernel_rfl) (by kernel_rfl) (fun _ _ _ h => h) (Or.inl ⟨by rfl, ?_⟩) (fun _ => hHeld) ?_
    rotate_left
    · intro w' _
      go_simp
      first | done | with_reducible rfl
    try simp only [Act.put, List.setIfInBounds_toArray, List.set_cons_zero, List.set_cons_succ]
    refine anyZ_pure (i := 1) (v := ?_) (some 67) rfl rfl (by kernel_rfl) (by kernel_rfl) (by kernel_rfl) (by kernel_rfl) (fun _ _ _ h => h) (Or.inl ⟨by rfl, ?_⟩) (fun _ => hHeld) ?_
    rotate_left
    · intro w' _
      go_simp
      first | done | with_reducible rfl
    try simp only [Act.put, List.setIfInBounds_toArray, List.set_cons_zero, List.set_cons_succ]
    refine anyZ_pure (i := 2) (v := ?_) (some 68) rfl rfl (by kernel_rfl) (by kernel_rfl) (by kernel_rfl) (by kernel_rfl) (fun _ _ _ h => h) (Or.inl ⟨by rfl, ?_⟩) (fun _ => hHeld) ?_
    rotate_left
    · intro w' _
      go_simp
      first | done | with_reducible rfl
    try simp only [Act.put, List.setIfInBounds_toArray, List.set_cons_zero, List.set_cons_succ]
    refine anyZ_read (i := 3) (v := ?_) (some 69) [11] rfl rfl (by kernel_rfl) (by kernel_rfl) (by kernel_rfl) (by kernel_rfl) (by kernel_rfl) (by kernel_rfl) (fun _ _ _ h => h) (Or.inl ⟨by rfl, ?_⟩) hHeld ?_
    rotate_left
    · intro w' hSw
      have q3 := (HB9.out.fr hSw (fun h => h)).cell 3; simp only [FS.cells, List.getElem?_toArray, List.getElem?_cons_zero, List.getElem?_cons_succ] at q3
      go_simp
      first | done | with_reducible rfl
    try simp only [Act.put, List.setIfInBounds_toArray, List.set_cons_zero, List.set_cons_succ]
    refine anyZ_pure (i := 4) (v := ?_) (some 70) rfl rfl (by kernel_rfl) (by kernel_rfl) (by kernel_rfl) (by kernel_rfl) (fun _ _ _ h => h) (Or.inl ⟨by rfl, ?_⟩) (fun _ => hHeld) ?_
    rotate_left
    · intro w' _
      go_simp
      first | done | with_reducible rfl
    try simp only [Act.put, List.setIfInBounds_toArray, List.set_cons_zero, List.set_cons_succ]
    refine anyZ_read (i := 5) (v := ?_) (some 71) [8, 11] rfl rfl (by kernel_rfl) (by kernel_rfl) (by kernel_rfl) (by kernel_rfl) (by kernel_rfl) (by kernel_rfl) (fun _ _ _ h => h) (Or.inl ⟨by rfl, ?_⟩) hHeld ?_
    rotate_left
    · intro w' hSw
      have qk := HK9.out.fr hSw (fun h => h); have k0 := qk.cell 0; have k2 := qk.cell 2; have k3 := qk.cell 3; simp only [List.getElem?_toArray, List.getElem?_cons_zero, List.getElem?_cons_succ] at k0 k2 k3
      go_simp
      first | done | with_reducible rfl
    try simp only [Act.put, List.setIfInBounds_toArray, List.set_cons_zero, List.set_cons_succ]
    refine anyZ_pure (i := 6) (v := ?_) (some 72) rfl rfl (by kernel_rfl) (by kernel_rfl) (by kernel_rfl) (by kernel_rfl) (fun _ _ _ h => h) (Or.inl ⟨by rfl, ?_⟩) (fun _ => hHeld) ?_
    rotate_left
    · intro w' _
      go_simp
      first | done | with_reducible rfl
    try simp only [Act.put, List.setIfInBounds_toArray, List.set_cons_zero, List.set_cons_succ]
    refine anyZ_read (i := 7) (v := ?_) (some 73) [8, 11] rfl rfl (by kernel_rfl) (by kernel_rfl) (by kernel_rfl) (by kernel_rfl) (by kernel_rfl) (by kernel_rfl) (fun _ _ _ h => h) (Or.inl ⟨by rfl, ?_⟩) hHeld ?_
    rotate_left
    · intro w' hSw
      have qk := HK9.out.fr hSw (fun h => h); have k0 := qk.cell 0; have k2 := qk.cell 2; have k3 := qk.cell 3; simp only [List.getElem?_toArray, List.getElem?_cons_zero, List.getElem?_cons_succ] at k0 k2 k3
      go_simp
      first | done | with_reducible rfl
    try simp only [Act.put, List.setIfInBounds_toArray, List.set_cons_zero, List.set_cons_succ]
    refine anyZ_pure (i := 8) (v := ?_) (some 74) rfl rfl (by kernel_rfl) (by kernel_rfl) (by kernel_rfl) (by kernel_rfl) (fun _ _ _ h => h) (Or.inl ⟨by rfl, ?_⟩) (fun _ => hHeld) ?_
    rotate_left
    · intro w' _
      go_simp
      first | done | with_reducible rfl
    try simp only [Act.put, List.setIfInBounds_toArray, List.set_cons_zero, List.set_cons_succ]
    refine anyZ_pure (i := 9) (v := ?_) (some 75) rfl rfl (by kernel_rfl) (by kernel_rfl) (by kernel_rfl) (by kernel_rfl) (fun _ _ _ h => h) (Or.inl ⟨by rfl, ?_⟩) (fun _ => hHeld) ?_
    rotate_left
    · intro w' _
      go_simp
      first | done | with_reducible rfl
    try simp only [Act.put, List.setIfInBounds_toArray, List.set_cons_zero, List.set_cons_succ]
    refine anyZ_pure (i := 10) (v := ?_) (some 76) rfl rfl (by kernel_rfl) (by kernel_rfl) (by kernel_rfl) (by kernel_rfl) (fun _ _ _ h => h) (Or.inl ⟨by rfl, ?_⟩) (fun _ => hHeld) ?_
    rotate_left
    · intro w' _
      go_simp
      first | done | with_reducible rfl
    try simp only [Act.put, List.setIfInBounds_toArray, List.set_cons_zero, List.set_cons_succ]
    refine anyZ_ready (rs := [11]) (by kernel_rfl) (by simp) ?_
    refine AllZ.last rfl (by kernel_rfl) (fun K hK => ?_) AllZ.nil
    obtain ⟨w1, hrun, hm1, hf1⟩ := HPU.out _ hHeld
    go_simp
    have HM1 := Lib.hid hm1
    have HF1 := Lib.hid ((hHeld.mono (T := fun k => k = bm) (fun _ _ h => h.elim)).trans hf1 (fun _ _ h => h))
    clear hm1 hf1 hrun
    refine hK.out _ _ ?_
    clear hK K
    try change anyZ _ _ _ _ _ _ _ _ (Act.put _ none _) _
    try simp only [Act.put, List.setIfInBounds_toArray, List.set_cons_zero, List.set_cons_succ]
    refine anyZ_done (by kernel_rfl) ?_ _

    clear HPU hHeld
    go_wp2
    refine bodyPost_end (results_none rfl _ _ _) rfl ⟨rfl, HFN.out _ (some bm) (D.put (th 7 i) (.held (stF (((n : Int) + 1), 0)))) ?_ (HF1.out.mono (fun _ _ e => .inr e)) ?_ ?_ ?_ ?_ ?_ (by rfl)⟩
    · have hb := HB9.out.fr HF1.out HGB.out.2.2.1
      rw [HADD.out]
      simpa [FS.cells, HSL.out] using hb
    · intro b hb; obtain rfl : bm = b := by simpa using hb
      exact ⟨HM1.out, by have h1 := size_put (k := th 7 i) (HM9.out.tidy kFth) (.held (stF (((n : Int) + 1), 0))); have := HSZ.out; split at h1 <;> omega⟩
    · rw [HADD.out]; have ho := (HOPN.out.put HM9.out (show I64 7 from ⟨by decide, by decide⟩) HK64.out.2.1 (((n : Int) + 1), 0))
      first | exact ho | (simp only [HSL.out]; exact ho)
    · rw [HADD.out]; have := HP64.out.1; exact ⟨by first | (simp only; omega) | omega, by first | (simp only; omega) | omega⟩
    · rw [HADD.out]; exact HP64.out.2.1
    · rw [HADD.out]; simp only [HSL.out]; exact (upd64 HP64.out.2.2 _ _ ⟨by first | exact HK64.out.2.2 | exact ⟨by omega, by omega⟩, by first | exact ⟨by omega, by omega⟩ | exact ⟨by decide, by decide⟩⟩)
  by_cases hk12 : k = 12
  · subst hk12
    have hadd : s.add ⟨12, a, r, i, l, m, d⟩ = { s with L := s.L ++ [⟨12, a, r, i, l, m, d⟩], opn := upd s.opn 12 i (s.L.length + 1, 0) } := by unfold FS.add; simp
    have HADD := Lib.hid hadd
    clear hadd
    have HPU : Hid (∀ w', Fr (fun _ => False) W9 w' → ∃ w1, (Instr.mapUpdate 69 (.map (some bm)) (.agg #[.int .i64 12, .int .i64 i]) (.agg #[.int .i64 ((n : Int) + 1), .int .i64 0])).run Tryd.prog w' = .ok () w1 ∧ MV w1 97 bm (D.put (th 12 i) (.held (stF (((n : Int) + 1), 0)))) ∧ Fr (fun x => x = bm) w' w1) := Lib.hid (fun w' hf =>
      (HM9.out.fr hf (fun h => h)).update kFth tOpenF (by have := HSZ.out; have := HN.out; omega) (fth_of (show I64 12 from ⟨by decide, by decide⟩) HK64.out.2.1) (val := stF (((n : Int) + 1), 0)))
    go_wp2_with fail
    refine wp_region_Z [11] ((fun w' => Fr (fun _ => False) W9 w')) (by kernel_rfl) ((Fr.refl _ _).drew) (fun hHeld => ?_)
    refine anyZ_pure (i := 0) (v := ?_) (some 66) rfl rfl (by kernel_rfl) (by kernel_rfl) (by kernel_rfl) (by kernel_rfl) (fun _ _ _ h => h) (Or.inl ⟨by rfl, ?_⟩) (fun _ => hHeld) ?_
    rotate_left
    · intro w' _
      go_simp
      first | done | with_reducible rfl
    try simp only [Act.put, List.setIfInBounds_toArray, List.set_cons_zero, List.set_cons_succ]
    refine anyZ_pure (i := 1) (v := ?_) (some 67) rfl rfl (by kernel_rfl) (by kernel_rfl) (by kernel_rfl) (by kernel_rfl) (fun _ _ _ h => h) (Or.inl ⟨by rfl, ?_⟩) (fun _ => hHeld) ?_
    rotate_left
    · intro w' _
      go_simp
      first | done | with_reducible rfl
    try simp only [Act.put, List.setIfInBounds_toArray, List.set_cons_zero, List.set_cons_succ]
    refine anyZ_pure (i := 2) (v := ?_) (some 68) rfl rfl (by kernel_rfl) (by kernel_rfl) (by kernel_rfl) (by kernel_rfl) (fun _ _ _ h => h) (Or.inl ⟨by rfl, ?_⟩) (fun _ => hHeld) ?_
    rotate_left
    · intro w' _
      go_simp
      first | done | with_reducible rfl
    try simp only [Act.put, List.setIfInBounds_toArray, List.set_cons_zero, List.set_cons_succ]
    refine anyZ_read (i := 3) (v := ?_) (some 69) [11] rfl rfl (by kernel_rfl) (by kernel_rfl) (by kernel_rfl) (by kernel_rfl) (by kernel_rfl) (by kernel_rfl) (fun _ _ _ h => h) (Or.inl ⟨by rfl, ?_⟩) hHeld ?_
    rotate_left
    · intro w' hSw
      have q3 := (HB9.out.fr hSw (fun h => h)).cell 3; simp only [FS.cells, List.getElem?_toArray, List.getElem?_cons_zero, List.getElem?_cons_succ] at q3
      go_simp
      first | done | with_reducible rfl
    try simp only [Act.put, List.setIfInBounds_toArray, List.set_cons_zero, List.set_cons_succ]
    refine anyZ_pure (i := 4) (v := ?_) (some 70) rfl rfl (by kernel_rfl) (by kernel_rfl) (by kernel_rfl) (by kernel_rfl) (fun _ _ _ h => h) (Or.inl ⟨by rfl, ?_⟩) (fun _ => hHeld) ?_
    rotate_left
    · intro w' _
      go_simp
      first | done | with_reducible rfl
    try simp only [Act.put, List.setIfInBounds_toArray, List.set_cons_zero, List.set_cons_succ]
    refine anyZ_read (i := 5) (v := ?_) (some 71) [8, 11] rfl rfl (by kernel_rfl) (by kernel_rfl) (by kernel_rfl) (by kernel_rfl) (by kernel_rfl) (by kernel_rfl) (fun _ _ _ h => h) (Or.inl ⟨by rfl, ?_⟩) hHeld ?_
    rotate_left
    · intro w' hSw
      have qk := HK9.out.fr hSw (fun h => h); have k0 := qk.cell 0; have k2 := qk.cell 2; have k3 := qk.cell 3; simp only [List.getElem?_toArray, List.getElem?_cons_zero, List.getElem?_cons_succ] at k0 k2 k3
      go_simp
      first | done | with_reducible rfl
    try simp only [Act.put, List.setIfInBounds_toArray, List.set_cons_zero, List.set_cons_succ]
    refine anyZ_pure (i := 6) (v := ?_) (some 72) rfl rfl (by kernel_rfl) (by kernel_rfl) (by kernel_rfl) (by kernel_rfl) (fun _ _ _ h => h) (Or.inl ⟨by rfl, ?_⟩) (fun _ => hHeld) ?_
    rotate_left
    · intro w' _
      go_simp
      first | done | with_reducible rfl
    try simp only [Act.put, List.setIfInBounds_toArray, List.set_cons_zero, List.set_cons_succ]
    refine anyZ_read (i := 7) (v := ?_) (some 73) [8, 11] rfl rfl (by kernel_rfl) (by kernel_rfl) (by kernel_rfl) (by kernel_rfl) (by kernel_rfl) (by kernel_rfl) (fun _ _ _ h => h) (Or.inl ⟨by rfl, ?_⟩) hHeld ?_
    rotate_left
    · intro w' hSw
      have qk := HK9.out.fr hSw (fun h => h); have k0 := qk.cell 0; have k2 := qk.cell 2; have k3 := qk.cell 3; simp only [List.getElem?_toArray, List.getElem?_cons_zero, List.getElem?_cons_succ] at k0 k2 k3
      go_simp
      first | done | with_reducible rfl
    try simp only [Act.put, List.setIfInBounds_toArray, List.set_cons_zero, List.set_cons_succ]
    refine anyZ_pure (i := 8) (v := ?_) (some 74) rfl rfl (by kernel_rfl) (by kernel_rfl) (by kernel_rfl) (by kernel_rfl) (fun _ _ _ h => h) (Or.inl ⟨by rfl, ?_⟩) (fun _ => hHeld) ?_
    rotate_left
    · intro w' _
      go_simp
      first | done | with_reducible rfl
    try simp only [Act.put, List.setIfInBounds_toArray, List.set_cons_zero, List.set_cons_succ]
    refine anyZ_pure (i := 9) (v := ?_) (some 75) rfl rfl (by kernel_rfl) (by kernel_rfl) (by kernel_rfl) (by kernel_rfl) (fun _ _ _ h => h) (Or.inl ⟨by rfl, ?_⟩) (fun _ => hHeld) ?_
    rotate_left
    · intro w' _
      go_simp
      first | done | with_reducible rfl
    try simp only [Act.put, List.setIfInBounds_toArray, List.set_cons_zero, List.set_cons_succ]
    refine anyZ_pure (i := 10) (v := ?_) (some 76) rfl rfl (by kernel_rfl) (by kernel_rfl) (by kernel_rfl) (by kernel_rfl) (fun _ _ _ h => h) (Or.inl ⟨by rfl, ?_⟩) (fun _ => hHeld) ?_
    rotate_left
    · intro w' _
      go_simp
      first | done | with_reducible rfl
    try simp only [Act.put, List.setIfInBounds_toArray, List.set_cons_zero, List.set_cons_succ]
    refine anyZ_ready (rs := [11]) (by kernel_rfl) (by simp) ?_
    refine AllZ.last rfl (by kernel_rfl) (fun K hK => ?_) AllZ.nil
    obtain ⟨w1, hrun, hm1, hf1⟩ := HPU.out _ hHeld
    go_simp
    have HM1 := Lib.hid hm1
    have HF1 := Lib.hid ((hHeld.mono (T := fun k => k = bm) (fun _ _ h => h.elim)).trans hf1 (fun _ _ h => h))
    clear hm1 hf1 hrun
    refine hK.out _ _ ?_
    clear hK K
    try change anyZ _ _ _ _ _ _ _ _ (Act.put _ none _) _
    try simp only [Act.put, List.setIfInBounds_toArray, List.set_cons_zero, List.set_cons_succ]
    refine anyZ_done (by kernel_rfl) ?_ _

    clear HPU hHeld
    go_wp2
    refine bodyPost_end (results_none rfl _ _ _) rfl ⟨rfl, HFN.out _ (some bm) (D.put (th 12 i) (.held (stF (((n : Int) + 1), 0)))) ?_ (HF1.out.mono (fun _ _ e => .inr e)) ?_ ?_ ?_ ?_ ?_ (by rfl)⟩
    · have hb := HB9.out.fr HF1.out HGB.out.2.2.1
      rw [HADD.out]
      simpa [FS.cells, HSL.out] using hb
    · intro b hb; obtain rfl : bm = b := by simpa using hb
      exact ⟨HM1.out, by have h1 := size_put (k := th 12 i) (HM9.out.tidy kFth) (.held (stF (((n : Int) + 1), 0))); have := HSZ.out; split at h1 <;> omega⟩
    · rw [HADD.out]; have ho := (HOPN.out.put HM9.out (show I64 12 from ⟨by decide, by decide⟩) HK64.out.2.1 (((n : Int) + 1), 0))
      first | exact ho | (simp only [HSL.out]; exact ho)
    · rw [HADD.out]; have := HP64.out.1; exact ⟨by first | (simp only; omega) | omega, by first | (simp only; omega) | omega⟩
    · rw [HADD.out]; exact HP64.out.2.1
    · rw [HADD.out]; simp only [HSL.out]; exact (upd64 HP64.out.2.2 _ _ ⟨by first | exact HK64.out.2.2 | exact ⟨by omega, by omega⟩, by first | exact ⟨by omega, by omega⟩ | exact ⟨by decide, by decide⟩⟩)
  by_cases hk17 : k = 17
  · subst hk17
    have hadd : s.add ⟨17, a, r, i, l, m, d⟩ = { s with L := s.L ++ [⟨17, a, r, i, l, m, d⟩], opn := upd s.opn 17 i (s.L.length + 1, 0) } := by unfold FS.add; simp
    have HADD := Lib.hid hadd
    clear hadd
    have HPU : Hid (∀ w', Fr (fun _ => False) W9 w' → ∃ w1, (Instr.mapUpdate 69 (.map (some bm)) (.agg #[.int .i64 17, .int .i64 i]) (.agg #[.int .i64 ((n : Int) + 1), .int .i64 0])).run Tryd.prog w' = .ok () w1 ∧ MV w1 97 bm (D.put (th 17 i) (.held (stF (((n : Int) + 1), 0)))) ∧ Fr (fun x => x = bm) w' w1) := Lib.hid (fun w' hf =>
      (HM9.out.fr hf (fun h => h)).update kFth tOpenF (by have := HSZ.out; have := HN.out; omega) (fth_of (show I64 17 from ⟨by decide, by decide⟩) HK64.out.2.1) (val := stF (((n : Int) + 1), 0)))
    go_wp2_with fail
    refine wp_region_Z [11] ((fun w' => Fr (fun _ => False) W9 w')) (by kernel_rfl) ((Fr.refl _ _).drew) (fun hHeld => ?_)
    refine anyZ_pure (i := 0) (v := ?_) (some 66) rfl rfl (by kernel_rfl) (by kernel_rfl) (by kernel_rfl) (by kernel_rfl) (fun _ _ _ h => h) (Or.inl ⟨by rfl, ?_⟩) (fun _ => hHeld) ?_
    rotate_left
    · intro w' _
      go_simp
      first | done | with_reducible rfl
    try simp only [Act.put, List.setIfInBounds_toArray, List.set_cons_zero, List.set_cons_succ]
    refine anyZ_pure (i := 1) (v := ?_) (some 67) rfl rfl (by kernel_rfl) (by kernel_rfl) (by kernel_rfl) (by kernel_rfl) (fun _ _ _ h => h) (Or.inl ⟨by rfl, ?_⟩) (fun _ => hHeld) ?_
    rotate_left
    · intro w' _
      go_simp
      first | done | with_reducible rfl
    try simp only [Act.put, List.setIfInBounds_toArray, List.set_cons_zero, List.set_cons_succ]
    refine anyZ_pure (i := 2) (v := ?_) (some 68) rfl rfl (by kernel_rfl) (by kernel_rfl) (by kernel_rfl) (by kernel_rfl) (fun _ _ _ h => h) (Or.inl ⟨by rfl, ?_⟩) (fun _ => hHeld) ?_
    rotate_left
    · intro w' _
      go_simp
      first | done | with_reducible rfl
    try simp only [Act.put, List.setIfInBounds_toArray, List.set_cons_zero, List.set_cons_succ]
    refine anyZ_read (i := 3) (v := ?_) (some 69) [11] rfl rfl (by kernel_rfl) (by kernel_rfl) (by kernel_rfl) (by kernel_rfl) (by kernel_rfl) (by kernel_rfl) (fun _ _ _ h => h) (Or.inl ⟨by rfl, ?_⟩) hHeld ?_
    rotate_left
    · intro w' hSw
      have q3 := (HB9.out.fr hSw (fun h => h)).cell 3; simp only [FS.cells, List.getElem?_toArray, List.getElem?_cons_zero, List.getElem?_cons_succ] at q3
      go_simp
      first | done | with_reducible rfl
    try simp only [Act.put, List.setIfInBounds_toArray, List.set_cons_zero, List.set_cons_succ]
    refine anyZ_pure (i := 4) (v := ?_) (some 70) rfl rfl (by kernel_rfl) (by kernel_rfl) (by kernel_rfl) (by kernel_rfl) (fun _ _ _ h => h) (Or.inl ⟨by rfl, ?_⟩) (fun _ => hHeld) ?_
    rotate_left
    · intro w' _
      go_simp
      first | done | with_reducible rfl
    try simp only [Act.put, List.setIfInBounds_toArray, List.set_cons_zero, List.set_cons_succ]
    refine anyZ_read (i := 5) (v := ?_) (some 71) [8, 11] rfl rfl (by kernel_rfl) (by kernel_rfl) (by kernel_rfl) (by kernel_rfl) (by kernel_rfl) (by kernel_rfl) (fun _ _ _ h => h) (Or.inl ⟨by rfl, ?_⟩) hHeld ?_
    rotate_left
    · intro w' hSw
      have qk := HK9.out.fr hSw (fun h => h); have k0 := qk.cell 0; have k2 := qk.cell 2; have k3 := qk.cell 3; simp only [List.getElem?_toArray, List.getElem?_cons_zero, List.getElem?_cons_succ] at k0 k2 k3
      go_simp
      first | done | with_reducible rfl
    try simp only [Act.put, List.setIfInBounds_toArray, List.set_cons_zero, List.set_cons_succ]
    refine anyZ_pure (i := 6) (v := ?_) (some 72) rfl rfl (by kernel_rfl) (by kernel_rfl) (by kernel_rfl) (by kernel_rfl) (fun _ _ _ h => h) (Or.inl ⟨by rfl, ?_⟩) (fun _ => hHeld) ?_
    rotate_left
    · intro w' _
      go_simp
      first | done | with_reducible rfl
    try simp only [Act.put, List.setIfInBounds_toArray, List.set_cons_zero, List.set_cons_succ]
    refine anyZ_read (i := 7) (v := ?_) (some 73) [8, 11] rfl rfl (by kernel_rfl) (by kernel_rfl) (by kernel_rfl) (by kernel_rfl) (by kernel_rfl) (by kernel_rfl) (fun _ _ _ h => h) (Or.inl ⟨by rfl, ?_⟩) hHeld ?_
    rotate_left
    · intro w' hSw
      have qk := HK9.out.fr hSw (fun h => h); have k0 := qk.cell 0; have k2 := qk.cell 2; have k3 := qk.cell 3; simp only [List.getElem?_toArray, List.getElem?_cons_zero, List.getElem?_cons_succ] at k0 k2 k3
      go_simp
      first | done | with_reducible rfl
    try simp only [Act.put, List.setIfInBounds_toArray, List.set_cons_zero, List.set_cons_succ]
    refine anyZ_pure (i := 8) (v := ?_) (some 74) rfl rfl (by kernel_rfl) (by kernel_rfl) (by kernel_rfl) (by kernel_rfl) (fun _ _ _ h => h) (Or.inl ⟨by rfl, ?_⟩) (fun _ => hHeld) ?_
    rotate_left
    · intro w' _
      go_simp
      first | done | with_reducible rfl
    try simp only [Act.put, List.setIfInBounds_toArray, List.set_cons_zero, List.set_cons_succ]
    refine anyZ_pure (i := 9) (v := ?_) (some 75) rfl rfl (by kernel_rfl) (by kernel_rfl) (by kernel_rfl) (by kernel_rfl) (fun _ _ _ h => h) (Or.inl ⟨by rfl, ?_⟩) (fun _ => hHeld) ?_
    rotate_left
    · intro w' _
      go_simp
      first | done | with_reducible rfl
    try simp only [Act.put, List.setIfInBounds_toArray, List.set_cons_zero, List.set_cons_succ]
    refine anyZ_pure (i := 10) (v := ?_) (some 76) rfl rfl (by kernel_rfl) (by kernel_rfl) (by kernel_rfl) (by kernel_rfl) (fun _ _ _ h => h) (Or.inl ⟨by rfl, ?_⟩) (fun _ => hHeld) ?_
    rotate_left
    · intro w' _
      go_simp
      first | done | with_reducible rfl
    try simp only [Act.put, List.setIfInBounds_toArray, List.set_cons_zero, List.set_cons_succ]
    refine anyZ_ready (rs := [11]) (by kernel_rfl) (by simp) ?_
    refine AllZ.last rfl (by kernel_rfl) (fun K hK => ?_) AllZ.nil
    obtain ⟨w1, hrun, hm1, hf1⟩ := HPU.out _ hHeld
    go_simp
    have HM1 := Lib.hid hm1
    have HF1 := Lib.hid ((hHeld.mono (T := fun k => k = bm) (fun _ _ h => h.elim)).trans hf1 (fun _ _ h => h))
    clear hm1 hf1 hrun
    refine hK.out _ _ ?_
    clear hK K
    try change anyZ _ _ _ _ _ _ _ _ (Act.put _ none _) _
    try simp only [Act.put, List.setIfInBounds_toArray, List.set_cons_zero, List.set_cons_succ]
    refine anyZ_done (by kernel_rfl) ?_ _

    clear HPU hHeld
    go_wp2
    refine bodyPost_end (results_none rfl _ _ _) rfl ⟨rfl, HFN.out _ (some bm) (D.put (th 17 i) (.held (stF (((n : Int) + 1), 0)))) ?_ (HF1.out.mono (fun _ _ e => .inr e)) ?_ ?_ ?_ ?_ ?_ (by rfl)⟩
    · have hb := HB9.out.fr HF1.out HGB.out.2.2.1
      rw [HADD.out]
      simpa [FS.cells, HSL.out] using hb
    · intro b hb; obtain rfl : bm = b := by simpa using hb
      exact ⟨HM1.out, by have h1 := size_put (k := th 17 i) (HM9.out.tidy kFth) (.held (stF (((n : Int) + 1), 0))); have := HSZ.out; split at h1 <;> omega⟩
    · rw [HADD.out]; have ho := (HOPN.out.put HM9.out (show I64 17 from ⟨by decide, by decide⟩) HK64.out.2.1 (((n : Int) + 1), 0))
      first | exact ho | (simp only [HSL.out]; exact ho)
    · rw [HADD.out]; have := HP64.out.1; exact ⟨by first | (simp only; omega) | omega, by first | (simp only; omega) | omega⟩
    · rw [HADD.out]; exact HP64.out.2.1
    · rw [HADD.out]; simp only [HSL.out]; exact (upd64 HP64.out.2.2 _ _ ⟨by first | exact HK64.out.2.2 | exact ⟨by omega, by omega⟩, by first | exact ⟨by omega, by omega⟩ | exact ⟨by decide, by decide⟩⟩)
  by_cases hk8 : k = 8
  · subst hk8
    have hadd : s.add ⟨8, a, r, i, l, m, d⟩ = { s with L := s.L ++ [⟨8, a, r, i, l, m, d⟩], opn := upd s.opn 7 i (r, s.L.length + 1) } := by unfold FS.add; simp
    have HADD := Lib.hid hadd
    clear hadd
    have HPU : Hid (∀ w', Fr (fun _ => False) W9 w' → ∃ w1, (Instr.mapUpdate 69 (.map (some bm)) (.agg #[.int .i64 7, .int .i64 i]) (.agg #[.int .i64 r, .int .i64 ((n : Int) + 1)])).run Tryd.prog w' = .ok () w1 ∧ MV w1 97 bm (D.put (th 7 i) (.held (stF (r, ((n : Int) + 1))))) ∧ Fr (fun x => x = bm) w' w1) := Lib.hid (fun w' hf =>
      (HM9.out.fr hf (fun h => h)).update kFth tOpenF (by have := HSZ.out; have := HN.out; omega) (fth_of (show I64 7 from ⟨by decide, by decide⟩) HK64.out.2.1) (val := stF (r, ((n : Int) + 1))))
    go_wp2_with fail
    refine wp_region_Z [11] ((fun w' => Fr (fun _ => False) W9 w')) (by kernel_rfl) ((Fr.refl _ _).drew) (fun hHeld => ?_)
    refine anyZ_pure (i := 0) (v := ?_) (some 79) rfl rfl (by kernel_rfl) (by kernel_rfl) (by kernel_rfl) (by kernel_rfl) (fun _ _ _ h => h) (Or.inl ⟨by rfl, ?_⟩) (fun _ => hHeld) ?_
    rotate_left
    · intro w' _
      go_simp
      first | done | with_reducible rfl
    try simp only [Act.put, List.setIfInBounds_toArray, List.set_cons_zero, List.set_cons_succ]
    refine anyZ_pure (i := 1) (v := ?_) (some 80) rfl rfl (by kernel_rfl) (by kernel_rfl) (by kernel_rfl) (by kernel_rfl) (fun _ _ _ h => h) (Or.inl ⟨by rfl, ?_⟩) (fun _ => hHeld) ?_
    rotate_left
    · intro w' _
      go_simp
      first | done | with_reducible rfl
    try simp only [Act.put, List.setIfInBounds_toArray, List.set_cons_zero, List.set_cons_succ]
    refine anyZ_pure (i := 2) (v := ?_) (some 81) rfl rfl (by kernel_rfl) (by kernel_rfl) (by kernel_rfl) (by kernel_rfl) (fun _ _ _ h => h) (Or.inl ⟨by rfl, ?_⟩) (fun _ => hHeld) ?_
    rotate_left
    · intro w' _
      go_simp
      first | done | with_reducible rfl
    try simp only [Act.put, List.setIfInBounds_toArray, List.set_cons_zero, List.set_cons_succ]
    refine anyZ_read (i := 3) (v := ?_) (some 82) [11] rfl rfl (by kernel_rfl) (by kernel_rfl) (by kernel_rfl) (by kernel_rfl) (by kernel_rfl) (by kernel_rfl) (fun _ _ _ h => h) (Or.inl ⟨by rfl, ?_⟩) hHeld ?_
    rotate_left
    · intro w' hSw
      have q3 := (HB9.out.fr hSw (fun h => h)).cell 3; simp only [FS.cells, List.getElem?_toArray, List.getElem?_cons_zero, List.getElem?_cons_succ] at q3
      go_simp
      first | done | with_reducible rfl
    try simp only [Act.put, List.setIfInBounds_toArray, List.set_cons_zero, List.set_cons_succ]
    refine anyZ_pure (i := 4) (v := ?_) (some 83) rfl rfl (by kernel_rfl) (by kernel_rfl) (by kernel_rfl) (by kernel_rfl) (fun _ _ _ h => h) (Or.inl ⟨by rfl, ?_⟩) (fun _ => hHeld) ?_
    rotate_left
    · intro w' _
      go_simp
      first | done | with_reducible rfl
    try simp only [Act.put, List.setIfInBounds_toArray, List.set_cons_zero, List.set_cons_succ]
    refine anyZ_read (i := 5) (v := ?_) (some 84) [6, 11] rfl rfl (by kernel_rfl) (by kernel_rfl) (by kernel_rfl) (by kernel_rfl) (by kernel_rfl) (by kernel_rfl) (fun _ _ _ h => h) (Or.inl ⟨by rfl, ?_⟩) hHeld ?_
    rotate_left
    · intro w' hSw
      have qk := HK9.out.fr hSw (fun h => h); have k0 := qk.cell 0; have k2 := qk.cell 2; have k3 := qk.cell 3; simp only [List.getElem?_toArray, List.getElem?_cons_zero, List.getElem?_cons_succ] at k0 k2 k3
      go_simp
      first | done | with_reducible rfl
    try simp only [Act.put, List.setIfInBounds_toArray, List.set_cons_zero, List.set_cons_succ]
    refine anyZ_pure (i := 6) (v := ?_) (some 85) rfl rfl (by kernel_rfl) (by kernel_rfl) (by kernel_rfl) (by kernel_rfl) (fun _ _ _ h => h) (Or.inl ⟨by rfl, ?_⟩) (fun _ => hHeld) ?_
    rotate_left
    · intro w' _
      go_simp
      first | done | with_reducible rfl
    try simp only [Act.put, List.setIfInBounds_toArray, List.set_cons_zero, List.set_cons_succ]
    refine anyZ_pure (i := 7) (v := ?_) (some 86) rfl rfl (by kernel_rfl) (by kernel_rfl) (by kernel_rfl) (by kernel_rfl) (fun _ _ _ h => h) (Or.inl ⟨by rfl, ?_⟩) (fun _ => hHeld) ?_
    rotate_left
    · intro w' _
      go_simp
      first | done | with_reducible rfl
    try simp only [Act.put, List.setIfInBounds_toArray, List.set_cons_zero, List.set_cons_succ]
    refine anyZ_read (i := 8) (v := ?_) (some 87) [10, 11] rfl rfl (by kernel_rfl) (by kernel_rfl) (by kernel_rfl) (by kernel_rfl) (by kernel_rfl) (by kernel_rfl) (fun _ _ _ h => h) (Or.inl ⟨by rfl, ?_⟩) hHeld ?_
    rotate_left
    · intro w' hSw
      have qk := HK9.out.fr hSw (fun h => h); have k0 := qk.cell 0; have k2 := qk.cell 2; have k3 := qk.cell 3; simp only [List.getElem?_toArray, List.getElem?_cons_zero, List.getElem?_cons_succ] at k0 k2 k3
      go_simp
      first | done | with_reducible rfl
    try simp only [Act.put, List.setIfInBounds_toArray, List.set_cons_zero, List.set_cons_succ]
    refine anyZ_pure (i := 9) (v := ?_) (some 88) rfl rfl (by kernel_rfl) (by kernel_rfl) (by kernel_rfl) (by kernel_rfl) (fun _ _ _ h => h) (Or.inl ⟨by rfl, ?_⟩) (fun _ => hHeld) ?_
    rotate_left
    · intro w' _
      go_simp
      first | done | with_reducible rfl
    try simp only [Act.put, List.setIfInBounds_toArray, List.set_cons_zero, List.set_cons_succ]
    refine anyZ_pure (i := 10) (v := ?_) (some 89) rfl rfl (by kernel_rfl) (by kernel_rfl) (by kernel_rfl) (by kernel_rfl) (fun _ _ _ h => h) (Or.inl ⟨by rfl, ?_⟩) (fun _ => hHeld) ?_
    rotate_left
    · intro w' _
      go_simp
      first | done | with_reducible rfl
    try simp only [Act.put, List.setIfInBounds_toArray, List.set_cons_zero, List.set_cons_succ]
    refine anyZ_ready (rs := [11]) (by kernel_rfl) (by simp) ?_
    refine AllZ.last rfl (by kernel_rfl) (fun K hK => ?_) AllZ.nil
    obtain ⟨w1, hrun, hm1, hf1⟩ := HPU.out _ hHeld
    go_simp
    have HM1 := Lib.hid hm1
    have HF1 := Lib.hid ((hHeld.mono (T := fun k => k = bm) (fun _ _ h => h.elim)).trans hf1 (fun _ _ h => h))
    clear hm1 hf1 hrun
    refine hK.out _ _ ?_
    clear hK K
    try change anyZ _ _ _ _ _ _ _ _ (Act.put _ none _) _
    try simp only [Act.put, List.setIfInBounds_toArray, List.set_cons_zero, List.set_cons_succ]
    refine anyZ_done (by kernel_rfl) ?_ _

    clear HPU hHeld
    go_wp2
    refine bodyPost_end (results_none rfl _ _ _) rfl ⟨rfl, HFN.out _ (some bm) (D.put (th 7 i) (.held (stF (r, ((n : Int) + 1))))) ?_ (HF1.out.mono (fun _ _ e => .inr e)) ?_ ?_ ?_ ?_ ?_ (by rfl)⟩
    · have hb := HB9.out.fr HF1.out HGB.out.2.2.1
      rw [HADD.out]
      simpa [FS.cells, HSL.out] using hb
    · intro b hb; obtain rfl : bm = b := by simpa using hb
      exact ⟨HM1.out, by have h1 := size_put (k := th 7 i) (HM9.out.tidy kFth) (.held (stF (r, ((n : Int) + 1)))); have := HSZ.out; split at h1 <;> omega⟩
    · rw [HADD.out]; have ho := (HOPN.out.put HM9.out (show I64 7 from ⟨by decide, by decide⟩) HK64.out.2.1 (r, ((n : Int) + 1)))
      first | exact ho | (simp only [HSL.out]; exact ho)
    · rw [HADD.out]; have := HP64.out.1; exact ⟨by first | (simp only; omega) | omega, by first | (simp only; omega) | omega⟩
    · rw [HADD.out]; exact HP64.out.2.1
    · rw [HADD.out]; simp only [HSL.out]; exact (upd64 HP64.out.2.2 _ _ ⟨by first | exact HK64.out.2.2 | exact ⟨by omega, by omega⟩, by first | exact ⟨by omega, by omega⟩ | exact ⟨by decide, by decide⟩⟩)
  by_cases hk9 : k = 9
  · subst hk9
    have hadd : s.add ⟨9, a, r, i, l, m, d⟩ = { s with L := s.L ++ [⟨9, a, r, i, l, m, d⟩], opn := upd s.opn 7 i (0, 0) } := by unfold FS.add; simp
    have HADD := Lib.hid hadd
    clear hadd
    have HPU : Hid (∀ w', Fr (fun _ => False) W9 w' → ∃ w1, (Builtin.delete_ #[69, 97] 0 #[.map (some bm), (.agg #[.int .i64 7, .int .i64 i])]).run Tryd.prog w' = .ok (.tuple #[]) w1 ∧ MV w1 97 bm (D.del (th 7 i)) ∧ Fr (fun x => x = bm) w' w1) := Lib.hid (fun w' hf =>
      (HM9.out.fr hf (fun h => h)).delete kFth tOpenF (fth_of (show I64 7 from ⟨by decide, by decide⟩) HK64.out.2.1) 0)
    go_wp2_with fail
    refine wp_region_Z [7] ((fun w' => Fr (fun _ => False) W9 w')) (by kernel_rfl) ((Fr.refl _ _).drew) (fun hHeld => ?_)
    refine anyZ_pure (i := 0) (v := ?_) (some 94) rfl rfl (by kernel_rfl) (by kernel_rfl) (by kernel_rfl) (by kernel_rfl) (fun _ _ _ h => h) (Or.inl ⟨by rfl, ?_⟩) (fun _ => hHeld) ?_
    rotate_left
    · intro w' _
      go_simp
      first | done | with_reducible rfl
    try simp only [Act.put, List.setIfInBounds_toArray, List.set_cons_zero, List.set_cons_succ]
    refine anyZ_pure (i := 1) (v := ?_) (some 95) rfl rfl (by kernel_rfl) (by kernel_rfl) (by kernel_rfl) (by kernel_rfl) (fun _ _ _ h => h) (Or.inl ⟨by rfl, ?_⟩) (fun _ => hHeld) ?_
    rotate_left
    · intro w' _
      go_simp
      first | done | with_reducible rfl
    try simp only [Act.put, List.setIfInBounds_toArray, List.set_cons_zero, List.set_cons_succ]
    refine anyZ_pure (i := 2) (v := ?_) (some 96) rfl rfl (by kernel_rfl) (by kernel_rfl) (by kernel_rfl) (by kernel_rfl) (fun _ _ _ h => h) (Or.inl ⟨by rfl, ?_⟩) (fun _ => hHeld) ?_
    rotate_left
    · intro w' _
      go_simp
      first | done | with_reducible rfl
    try simp only [Act.put, List.setIfInBounds_toArray, List.set_cons_zero, List.set_cons_succ]
    refine anyZ_read (i := 3) (v := ?_) (some 97) [7] rfl rfl (by kernel_rfl) (by kernel_rfl) (by kernel_rfl) (by kernel_rfl) (by kernel_rfl) (by kernel_rfl) (fun _ _ _ h => h) (Or.inl ⟨by rfl, ?_⟩) hHeld ?_
    rotate_left
    · intro w' hSw
      have q3 := (HB9.out.fr hSw (fun h => h)).cell 3; simp only [FS.cells, List.getElem?_toArray, List.getElem?_cons_zero, List.getElem?_cons_succ] at q3
      go_simp
      first | done | with_reducible rfl
    try simp only [Act.put, List.setIfInBounds_toArray, List.set_cons_zero, List.set_cons_succ]
    refine anyZ_pure (i := 4) (v := ?_) (some 98) rfl rfl (by kernel_rfl) (by kernel_rfl) (by kernel_rfl) (by kernel_rfl) (fun _ _ _ h => h) (Or.inl ⟨by rfl, ?_⟩) (fun _ => hHeld) ?_
    rotate_left
    · intro w' _
      go_simp
      first | done | with_reducible rfl
    try simp only [Act.put, List.setIfInBounds_toArray, List.set_cons_zero, List.set_cons_succ]
    refine anyZ_read (i := 5) (v := ?_) (some 99) [6, 7] rfl rfl (by kernel_rfl) (by kernel_rfl) (by kernel_rfl) (by kernel_rfl) (by kernel_rfl) (by kernel_rfl) (fun _ _ _ h => h) (Or.inl ⟨by rfl, ?_⟩) hHeld ?_
    rotate_left
    · intro w' hSw
      have qk := HK9.out.fr hSw (fun h => h); have k0 := qk.cell 0; have k2 := qk.cell 2; have k3 := qk.cell 3; simp only [List.getElem?_toArray, List.getElem?_cons_zero, List.getElem?_cons_succ] at k0 k2 k3
      go_simp
      first | done | with_reducible rfl
    try simp only [Act.put, List.setIfInBounds_toArray, List.set_cons_zero, List.set_cons_succ]
    refine anyZ_pure (i := 6) (v := ?_) (some 100) rfl rfl (by kernel_rfl) (by kernel_rfl) (by kernel_rfl) (by kernel_rfl) (fun _ _ _ h => h) (Or.inl ⟨by rfl, ?_⟩) (fun _ => hHeld) ?_
    rotate_left
    · intro w' _
      go_simp
      first | done | with_reducible rfl
    try simp only [Act.put, List.setIfInBounds_toArray, List.set_cons_zero, List.set_cons_succ]
    refine anyZ_ready (rs := [7]) (by kernel_rfl) (by simp) ?_
    refine AllZ.last rfl (by kernel_rfl) (fun K hK => ?_) AllZ.nil
    obtain ⟨w1, hrun, hm1, hf1⟩ := HPU.out _ hHeld
    go_simp
    have HM1 := Lib.hid hm1
    have HF1 := Lib.hid ((hHeld.mono (T := fun k => k = bm) (fun _ _ h => h.elim)).trans hf1 (fun _ _ h => h))
    clear hm1 hf1 hrun
    refine hK.out _ _ ?_
    clear hK K
    try change anyZ _ _ _ _ _ _ _ _ (Act.put _ none _) _
    try simp only [Act.put, List.setIfInBounds_toArray, List.set_cons_zero, List.set_cons_succ]
    refine anyZ_done (by kernel_rfl) ?_ _

    clear HPU hHeld
    go_wp2
    refine bodyPost_end (results_none rfl _ _ _) rfl ⟨rfl, HFN.out _ (some bm) (D.del (th 7 i)) ?_ (HF1.out.mono (fun _ _ e => .inr e)) ?_ ?_ ?_ ?_ ?_ (by rfl)⟩
    · have hb := HB9.out.fr HF1.out HGB.out.2.2.1
      rw [HADD.out]
      simpa [FS.cells, HSL.out] using hb
    · intro b hb; obtain rfl : bm = b := by simpa using hb
      exact ⟨HM1.out, by have h1 := size_del (k := th 7 i) (HM9.out.tidy kFth); have := HSZ.out; omega⟩
    · rw [HADD.out]; have ho := (HOPN.out.del (show I64 7 from ⟨by decide, by decide⟩) HK64.out.2.1)
      first | exact ho | (simp only [HSL.out]; exact ho)
    · rw [HADD.out]; have := HP64.out.1; exact ⟨by first | (simp only; omega) | omega, by first | (simp only; omega) | omega⟩
    · rw [HADD.out]; exact HP64.out.2.1
    · rw [HADD.out]; simp only [HSL.out]; exact (upd64 HP64.out.2.2 _ _ ⟨⟨by decide, by decide⟩, ⟨by decide, by decide⟩⟩)
  by_cases hk10 : k = 10
  · subst hk10
    have hadd : s.add ⟨10, a, r, i, l, m, d⟩ = { s with L := s.L ++ [⟨10, a, r, i, l, m, d⟩], opn := upd s.opn 7 i (0, 0) } := by unfold FS.add; simp
    have HADD := Lib.hid hadd
    clear hadd
    have HPU : Hid (∀ w', Fr (fun _ => False) W9 w' → ∃ w1, (Builtin.delete_ #[69, 97] 0 #[.map (some bm), (.agg #[.int .i64 7, .int .i64 i])]).run Tryd.prog w' = .ok (.tuple #[]) w1 ∧ MV w1 97 bm (D.del (th 7 i)) ∧ Fr (fun x => x = bm) w' w1) := Lib.hid (fun w' hf =>
      (HM9.out.fr hf (fun h => h)).delete kFth tOpenF (fth_of (show I64 7 from ⟨by decide, by decide⟩) HK64.out.2.1) 0)
    go_wp2_with fail
    refine wp_region_Z [7] ((fun w' => Fr (fun _ => False) W9 w')) (by kernel_rfl) ((Fr.refl _ _).drew) (fun hHeld => ?_)
    refine anyZ_pure (i := 0) (v := ?_) (some 94) rfl rfl (by kernel_rfl) (by kernel_rfl) (by kernel_rfl) (by kernel_rfl) (fun _ _ _ h => h) (Or.inl ⟨by rfl, ?_⟩) (fun _ => hHeld) ?_
    rotate_left
    · intro w' _
      go_simp
      first | done | with_reducible rfl
    try simp only [Act.put, List.setIfInBounds_toArray, List.set_cons_zero, List.set_cons_succ]
    refine anyZ_pure (i := 1) (v := ?_) (some 95) rfl rfl (by kernel_rfl) (by kernel_rfl) (by kernel_rfl) (by kernel_rfl) (fun _ _ _ h => h) (Or.inl ⟨by rfl, ?_⟩) (fun _ => hHeld) ?_
    rotate_left
    · intro w' _
      go_simp
      first | done | with_reducible rfl
    try simp only [Act.put, List.setIfInBounds_toArray, List.set_cons_zero, List.set_cons_succ]
    refine anyZ_pure (i := 2) (v := ?_) (some 96) rfl rfl (by kernel_rfl) (by kernel_rfl) (by kernel_rfl) (by kernel_rfl) (fun _ _ _ h => h) (Or.inl ⟨by rfl, ?_⟩) (fun _ => hHeld) ?_
    rotate_left
    · intro w' _
      go_simp
      first | done | with_reducible rfl
    try simp only [Act.put, List.setIfInBounds_toArray, List.set_cons_zero, List.set_cons_succ]
    refine anyZ_read (i := 3) (v := ?_) (some 97) [7] rfl rfl (by kernel_rfl) (by kernel_rfl) (by kernel_rfl) (by kernel_rfl) (by kernel_rfl) (by kernel_rfl) (fun _ _ _ h => h) (Or.inl ⟨by rfl, ?_⟩) hHeld ?_
    rotate_left
    · intro w' hSw
      have q3 := (HB9.out.fr hSw (fun h => h)).cell 3; simp only [FS.cells, List.getElem?_toArray, List.getElem?_cons_zero, List.getElem?_cons_succ] at q3
      go_simp
      first | done | with_reducible rfl
    try simp only [Act.put, List.setIfInBounds_toArray, List.set_cons_zero, List.set_cons_succ]
    refine anyZ_pure (i := 4) (v := ?_) (some 98) rfl rfl (by kernel_rfl) (by kernel_rfl) (by kernel_rfl) (by kernel_rfl) (fun _ _ _ h => h) (Or.inl ⟨by rfl, ?_⟩) (fun _ => hHeld) ?_
    rotate_left
    · intro w' _
      go_simp
      first | done | with_reducible rfl
    try simp only [Act.put, List.setIfInBounds_toArray, List.set_cons_zero, List.set_cons_succ]
    refine anyZ_read (i := 5) (v := ?_) (some 99) [6, 7] rfl rfl (by kernel_rfl) (by kernel_rfl) (by kernel_rfl) (by kernel_rfl) (by kernel_rfl) (by kernel_rfl) (fun _ _ _ h => h) (Or.inl ⟨by rfl, ?_⟩) hHeld ?_
    rotate_left
    · intro w' hSw
      have qk := HK9.out.fr hSw (fun h => h); have k0 := qk.cell 0; have k2 := qk.cell 2; have k3 := qk.cell 3; simp only [List.getElem?_toArray, List.getElem?_cons_zero, List.getElem?_cons_succ] at k0 k2 k3
      go_simp
      first | done | with_reducible rfl
    try simp only [Act.put, List.setIfInBounds_toArray, List.set_cons_zero, List.set_cons_succ]
    refine anyZ_pure (i := 6) (v := ?_) (some 100) rfl rfl (by kernel_rfl) (by kernel_rfl) (by kernel_rfl) (by kernel_rfl) (fun _ _ _ h => h) (Or.inl ⟨by rfl, ?_⟩) (fun _ => hHeld) ?_
    rotate_left
    · intro w' _
      go_simp
      first | done | with_reducible rfl
    try simp only [Act.put, List.setIfInBounds_toArray, List.set_cons_zero, List.set_cons_succ]
    refine anyZ_ready (rs := [7]) (by kernel_rfl) (by simp) ?_
    refine AllZ.last rfl (by kernel_rfl) (fun K hK => ?_) AllZ.nil
    obtain ⟨w1, hrun, hm1, hf1⟩ := HPU.out _ hHeld
    go_simp
    have HM1 := Lib.hid hm1
    have HF1 := Lib.hid ((hHeld.mono (T := fun k => k = bm) (fun _ _ h => h.elim)).trans hf1 (fun _ _ h => h))
    clear hm1 hf1 hrun
    refine hK.out _ _ ?_
    clear hK K
    try change anyZ _ _ _ _ _ _ _ _ (Act.put _ none _) _
    try simp only [Act.put, List.setIfInBounds_toArray, List.set_cons_zero, List.set_cons_succ]
    refine anyZ_done (by kernel_rfl) ?_ _

    clear HPU hHeld
    go_wp2
    refine bodyPost_end (results_none rfl _ _ _) rfl ⟨rfl, HFN.out _ (some bm) (D.del (th 7 i)) ?_ (HF1.out.mono (fun _ _ e => .inr e)) ?_ ?_ ?_ ?_ ?_ (by rfl)⟩
    · have hb := HB9.out.fr HF1.out HGB.out.2.2.1
      rw [HADD.out]
      simpa [FS.cells, HSL.out] using hb
    · intro b hb; obtain rfl : bm = b := by simpa using hb
      exact ⟨HM1.out, by have h1 := size_del (k := th 7 i) (HM9.out.tidy kFth); have := HSZ.out; omega⟩
    · rw [HADD.out]; have ho := (HOPN.out.del (show I64 7 from ⟨by decide, by decide⟩) HK64.out.2.1)
      first | exact ho | (simp only [HSL.out]; exact ho)
    · rw [HADD.out]; have := HP64.out.1; exact ⟨by first | (simp only; omega) | omega, by first | (simp only; omega) | omega⟩
    · rw [HADD.out]; exact HP64.out.2.1
    · rw [HADD.out]; simp only [HSL.out]; exact (upd64 HP64.out.2.2 _ _ ⟨⟨by decide, by decide⟩, ⟨by decide, by decide⟩⟩)
  by_cases hk11 : k = 11
  · subst hk11
    have hadd : s.add ⟨11, a, r, i, l, m, d⟩ = { s with L := s.L ++ [⟨11, a, r, i, l, m, d⟩], opn := upd s.opn 7 i (0, 0) } := by unfold FS.add; simp
    have HADD := Lib.hid hadd
    clear hadd
    have HPU : Hid (∀ w', Fr (fun _ => False) W9 w' → ∃ w1, (Builtin.delete_ #[69, 97] 0 #[.map (some bm), (.agg #[.int .i64 7, .int .i64 i])]).run Tryd.prog w' = .ok (.tuple #[]) w1 ∧ MV w1 97 bm (D.del (th 7 i)) ∧ Fr (fun x => x = bm) w' w1) := Lib.hid (fun w' hf =>
      (HM9.out.fr hf (fun h => h)).delete kFth tOpenF (fth_of (show I64 7 from ⟨by decide, by decide⟩) HK64.out.2.1) 0)
    go_wp2_with fail
    refine wp_region_Z [7] ((fun w' => Fr (fun _ => False) W9 w')) (by kernel_rfl) ((Fr.refl _ _).drew) (fun hHeld => ?_)
    refine anyZ_pure (i := 0) (v := ?_) (some 94) rfl rfl (by kernel_rfl) (by kernel_rfl) (by kernel_rfl) (by kernel_rfl) (fun _ _ _ h => h) (Or.inl ⟨by rfl, ?_⟩) (fun _ => hHeld) ?_
    rotate_left
    · intro w' _
      go_simp
      first | done | with_reducible rfl
    try simp only [Act.put, List.setIfInBounds_toArray, List.set_cons_zero, List.set_cons_succ]
    refine anyZ_pure (i := 1) (v := ?_) (some 95) rfl rfl (by kernel_rfl) (by kernel_rfl) (by kernel_rfl) (by kernel_rfl) (fun _ _ _ h => h) (Or.inl ⟨by rfl, ?_⟩) (fun _ => hHeld) ?_
    rotate_left
    · intro w' _
      go_simp
      first | done | with_reducible rfl
    try simp only [Act.put, List.setIfInBounds_toArray, List.set_cons_zero, List.set_cons_succ]
    refine anyZ_pure (i := 2) (v := ?_) (some 96) rfl rfl (by kernel_rfl) (by kernel_rfl) (by kernel_rfl) (by kernel_rfl) (fun _ _ _ h => h) (Or.inl ⟨by rfl, ?_⟩) (fun _ => hHeld) ?_
    rotate_left
    · intro w' _
      go_simp
      first | done | with_reducible rfl
    try simp only [Act.put, List.setIfInBounds_toArray, List.set_cons_zero, List.set_cons_succ]
    refine anyZ_read (i := 3) (v := ?_) (some 97) [7] rfl rfl (by kernel_rfl) (by kernel_rfl) (by kernel_rfl) (by kernel_rfl) (by kernel_rfl) (by kernel_rfl) (fun _ _ _ h => h) (Or.inl ⟨by rfl, ?_⟩) hHeld ?_
    rotate_left
    · intro w' hSw
      have q3 := (HB9.out.fr hSw (fun h => h)).cell 3; simp only [FS.cells, List.getElem?_toArray, List.getElem?_cons_zero, List.getElem?_cons_succ] at q3
      go_simp
      first | done | with_reducible rfl
    try simp only [Act.put, List.setIfInBounds_toArray, List.set_cons_zero, List.set_cons_succ]
    refine anyZ_pure (i := 4) (v := ?_) (some 98) rfl rfl (by kernel_rfl) (by kernel_rfl) (by kernel_rfl) (by kernel_rfl) (fun _ _ _ h => h) (Or.inl ⟨by rfl, ?_⟩) (fun _ => hHeld) ?_
    rotate_left
    · intro w' _
      go_simp
      first | done | with_reducible rfl
    try simp only [Act.put, List.setIfInBounds_toArray, List.set_cons_zero, List.set_cons_succ]
    refine anyZ_read (i := 5) (v := ?_) (some 99) [6, 7] rfl rfl (by kernel_rfl) (by kernel_rfl) (by kernel_rfl) (by kernel_rfl) (by kernel_rfl) (by kernel_rfl) (fun _ _ _ h => h) (Or.inl ⟨by rfl, ?_⟩) hHeld ?_
    rotate_left
    · intro w' hSw
      have qk := HK9.out.fr hSw (fun h => h); have k0 := qk.cell 0; have k2 := qk.cell 2; have k3 := qk.cell 3; simp only [List.getElem?_toArray, List.getElem?_cons_zero, List.getElem?_cons_succ] at k0 k2 k3
      go_simp
      first | done | with_reducible rfl
    try simp only [Act.put, List.setIfInBounds_toArray, List.set_cons_zero, List.set_cons_succ]
    refine anyZ_pure (i := 6) (v := ?_) (some 100) rfl rfl (by kernel_rfl) (by kernel_rfl) (by kernel_rfl) (by kernel_rfl) (fun _ _ _ h => h) (Or.inl ⟨by rfl, ?_⟩) (fun _ => hHeld) ?_
    rotate_left
    · intro w' _
      go_simp
      first | done | with_reducible rfl
    try simp only [Act.put, List.setIfInBounds_toArray, List.set_cons_zero, List.set_cons_succ]
    refine anyZ_ready (rs := [7]) (by kernel_rfl) (by simp) ?_
    refine AllZ.last rfl (by kernel_rfl) (fun K hK => ?_) AllZ.nil
    obtain ⟨w1, hrun, hm1, hf1⟩ := HPU.out _ hHeld
    go_simp
    have HM1 := Lib.hid hm1
    have HF1 := Lib.hid ((hHeld.mono (T := fun k => k = bm) (fun _ _ h => h.elim)).trans hf1 (fun _ _ h => h))
    clear hm1 hf1 hrun
    refine hK.out _ _ ?_
    clear hK K
    try change anyZ _ _ _ _ _ _ _ _ (Act.put _ none _) _
    try simp only [Act.put, List.setIfInBounds_toArray, List.set_cons_zero, List.set_cons_succ]
    refine anyZ_done (by kernel_rfl) ?_ _

    clear HPU hHeld
    go_wp2
    refine bodyPost_end (results_none rfl _ _ _) rfl ⟨rfl, HFN.out _ (some bm) (D.del (th 7 i)) ?_ (HF1.out.mono (fun _ _ e => .inr e)) ?_ ?_ ?_ ?_ ?_ (by rfl)⟩
    · have hb := HB9.out.fr HF1.out HGB.out.2.2.1
      rw [HADD.out]
      simpa [FS.cells, HSL.out] using hb
    · intro b hb; obtain rfl : bm = b := by simpa using hb
      exact ⟨HM1.out, by have h1 := size_del (k := th 7 i) (HM9.out.tidy kFth); have := HSZ.out; omega⟩
    · rw [HADD.out]; have ho := (HOPN.out.del (show I64 7 from ⟨by decide, by decide⟩) HK64.out.2.1)
      first | exact ho | (simp only [HSL.out]; exact ho)
    · rw [HADD.out]; have := HP64.out.1; exact ⟨by first | (simp only; omega) | omega, by first | (simp only; omega) | omega⟩
    · rw [HADD.out]; exact HP64.out.2.1
    · rw [HADD.out]; simp only [HSL.out]; exact (upd64 HP64.out.2.2 _ _ ⟨⟨by decide, by decide⟩, ⟨by decide, by decide⟩⟩)
  by_cases hk13 : k = 13
  · subst hk13
    have hadd : s.add ⟨13, a, r, i, l, m, d⟩ = { s with L := s.L ++ [⟨13, a, r, i, l, m, d⟩], opn := upd s.opn 12 i (0, 0) } := by unfold FS.add; simp
    have HADD := Lib.hid hadd
    clear hadd
    have HPU : Hid (∀ w', Fr (fun _ => False) W9 w' → ∃ w1, (Builtin.delete_ #[69, 97] 0 #[.map (some bm), (.agg #[.int .i64 12, .int .i64 i])]).run Tryd.prog w' = .ok (.tuple #[]) w1 ∧ MV w1 97 bm (D.del (th 12 i)) ∧ Fr (fun x => x = bm) w' w1) := Lib.hid (fun w' hf =>
      (HM9.out.fr hf (fun h => h)).delete kFth tOpenF (fth_of (show I64 12 from ⟨by decide, by decide⟩) HK64.out.2.1) 0)
    go_wp2_with fail
    refine wp_region_Z [7] ((fun w' => Fr (fun _ => False) W9 w')) (by kernel_rfl) ((Fr.refl _ _).drew) (fun hHeld => ?_)
    refine anyZ_pure (i := 0) (v := ?_) (some 104) rfl rfl (by kernel_rfl) (by kernel_rfl) (by kernel_rfl) (by kernel_rfl) (fun _ _ _ h => h) (Or.inl ⟨by rfl, ?_⟩) (fun _ => hHeld) ?_
    rotate_left
    · intro w' _
      go_simp
      first | done | with_reducible rfl
    try simp only [Act.put, List.setIfInBounds_toArray, List.set_cons_zero, List.set_cons_succ]
    refine anyZ_pure (i := 1) (v := ?_) (some 105) rfl rfl (by kernel_rfl) (by kernel_rfl) (by kernel_rfl) (by kernel_rfl) (fun _ _ _ h => h) (Or.inl ⟨by rfl, ?_⟩) (fun _ => hHeld) ?_
    rotate_left
    · intro w' _
      go_simp
      first | done | with_reducible rfl
    try simp only [Act.put, List.setIfInBounds_toArray, List.set_cons_zero, List.set_cons_succ]
    refine anyZ_pure (i := 2) (v := ?_) (some 106) rfl rfl (by kernel_rfl) (by kernel_rfl) (by kernel_rfl) (by kernel_rfl) (fun _ _ _ h => h) (Or.inl ⟨by rfl, ?_⟩) (fun _ => hHeld) ?_
    rotate_left
    · intro w' _
      go_simp
      first | done | with_reducible rfl
    try simp only [Act.put, List.setIfInBounds_toArray, List.set_cons_zero, List.set_cons_succ]
    refine anyZ_read (i := 3) (v := ?_) (some 107) [7] rfl rfl (by kernel_rfl) (by kernel_rfl) (by kernel_rfl) (by kernel_rfl) (by kernel_rfl) (by kernel_rfl) (fun _ _ _ h => h) (Or.inl ⟨by rfl, ?_⟩) hHeld ?_
    rotate_left
    · intro w' hSw
      have q3 := (HB9.out.fr hSw (fun h => h)).cell 3; simp only [FS.cells, List.getElem?_toArray, List.getElem?_cons_zero, List.getElem?_cons_succ] at q3
      go_simp
      first | done | with_reducible rfl
    try simp only [Act.put, List.setIfInBounds_toArray, List.set_cons_zero, List.set_cons_succ]
    refine anyZ_pure (i := 4) (v := ?_) (some 108) rfl rfl (by kernel_rfl) (by kernel_rfl) (by kernel_rfl) (by kernel_rfl) (fun _ _ _ h => h) (Or.inl ⟨by rfl, ?_⟩) (fun _ => hHeld) ?_
    rotate_left
    · intro w' _
      go_simp
      first | done | with_reducible rfl
    try simp only [Act.put, List.setIfInBounds_toArray, List.set_cons_zero, List.set_cons_succ]
    refine anyZ_read (i := 5) (v := ?_) (some 109) [6, 7] rfl rfl (by kernel_rfl) (by kernel_rfl) (by kernel_rfl) (by kernel_rfl) (by kernel_rfl) (by kernel_rfl) (fun _ _ _ h => h) (Or.inl ⟨by rfl, ?_⟩) hHeld ?_
    rotate_left
    · intro w' hSw
      have qk := HK9.out.fr hSw (fun h => h); have k0 := qk.cell 0; have k2 := qk.cell 2; have k3 := qk.cell 3; simp only [List.getElem?_toArray, List.getElem?_cons_zero, List.getElem?_cons_succ] at k0 k2 k3
      go_simp
      first | done | with_reducible rfl
    try simp only [Act.put, List.setIfInBounds_toArray, List.set_cons_zero, List.set_cons_succ]
    refine anyZ_pure (i := 6) (v := ?_) (some 110) rfl rfl (by kernel_rfl) (by kernel_rfl) (by kernel_rfl) (by kernel_rfl) (fun _ _ _ h => h) (Or.inl ⟨by rfl, ?_⟩) (fun _ => hHeld) ?_
    rotate_left
    · intro w' _
      go_simp
      first | done | with_reducible rfl
    try simp only [Act.put, List.setIfInBounds_toArray, List.set_cons_zero, List.set_cons_succ]
    refine anyZ_ready (rs := [7]) (by kernel_rfl) (by simp) ?_
    refine AllZ.last rfl (by kernel_rfl) (fun K hK => ?_) AllZ.nil
    obtain ⟨w1, hrun, hm1, hf1⟩ := HPU.out _ hHeld
    go_simp
    have HM1 := Lib.hid hm1
    have HF1 := Lib.hid ((hHeld.mono (T := fun k => k = bm) (fun _ _ h => h.elim)).trans hf1 (fun _ _ h => h))
    clear hm1 hf1 hrun
    refine hK.out _ _ ?_
    clear hK K
    try change anyZ _ _ _ _ _ _ _ _ (Act.put _ none _) _
    try simp only [Act.put, List.setIfInBounds_toArray, List.set_cons_zero, List.set_cons_succ]
    refine anyZ_done (by kernel_rfl) ?_ _

    clear HPU hHeld
    go_wp2
    refine bodyPost_end (results_none rfl _ _ _) rfl ⟨rfl, HFN.out _ (some bm) (D.del (th 12 i)) ?_ (HF1.out.mono (fun _ _ e => .inr e)) ?_ ?_ ?_ ?_ ?_ (by rfl)⟩
    · have hb := HB9.out.fr HF1.out HGB.out.2.2.1
      rw [HADD.out]
      simpa [FS.cells, HSL.out] using hb
    · intro b hb; obtain rfl : bm = b := by simpa using hb
      exact ⟨HM1.out, by have h1 := size_del (k := th 12 i) (HM9.out.tidy kFth); have := HSZ.out; omega⟩
    · rw [HADD.out]; have ho := (HOPN.out.del (show I64 12 from ⟨by decide, by decide⟩) HK64.out.2.1)
      first | exact ho | (simp only [HSL.out]; exact ho)
    · rw [HADD.out]; have := HP64.out.1; exact ⟨by first | (simp only; omega) | omega, by first | (simp only; omega) | omega⟩
    · rw [HADD.out]; exact HP64.out.2.1
    · rw [HADD.out]; simp only [HSL.out]; exact (upd64 HP64.out.2.2 _ _ ⟨⟨by decide, by decide⟩, ⟨by decide, by decide⟩⟩)
  by_cases hk14 : k = 14
  · subst hk14
    have hadd : s.add ⟨14, a, r, i, l, m, d⟩ = { s with L := s.L ++ [⟨14, a, r, i, l, m, d⟩], opn := upd s.opn 12 i (0, 0) } := by unfold FS.add; simp
    have HADD := Lib.hid hadd
    clear hadd
    have HPU : Hid (∀ w', Fr (fun _ => False) W9 w' → ∃ w1, (Builtin.delete_ #[69, 97] 0 #[.map (some bm), (.agg #[.int .i64 12, .int .i64 i])]).run Tryd.prog w' = .ok (.tuple #[]) w1 ∧ MV w1 97 bm (D.del (th 12 i)) ∧ Fr (fun x => x = bm) w' w1) := Lib.hid (fun w' hf =>
      (HM9.out.fr hf (fun h => h)).delete kFth tOpenF (fth_of (show I64 12 from ⟨by decide, by decide⟩) HK64.out.2.1) 0)
    go_wp2_with fail
    refine wp_region_Z [7] ((fun w' => Fr (fun _ => False) W9 w')) (by kernel_rfl) ((Fr.refl _ _).drew) (fun hHeld => ?_)
    refine anyZ_pure (i := 0) (v := ?_) (some 104) rfl rfl (by kernel_rfl) (by kernel_rfl) (by kernel_rfl) (by kernel_rfl) (fun _ _ _ h => h) (Or.inl ⟨by rfl, ?_⟩) (fun _ => hHeld) ?_
    rotate_left
    · intro w' _
      go_simp
      first | done | with_reducible rfl
    try simp only [Act.put, List.setIfInBounds_toArray, List.set_cons_zero, List.set_cons_succ]
    refine anyZ_pure (i := 1) (v := ?_) (some 105) rfl rfl (by kernel_rfl) (by kernel_rfl) (by kernel_rfl) (by kernel_rfl) (fun _ _ _ h => h) (Or.inl ⟨by rfl, ?_⟩) (fun _ => hHeld) ?_
    rotate_left
    · intro w' _
      go_simp
      first | done | with_reducible rfl
    try simp only [Act.put, List.setIfInBounds_toArray, List.set_cons_zero, List.set_cons_succ]
    refine anyZ_pure (i := 2) (v := ?_) (some 106) rfl rfl (by kernel_rfl) (by kernel_rfl) (by kernel_rfl) (by kernel_rfl) (fun _ _ _ h => h) (Or.inl ⟨by rfl, ?_⟩) (fun _ => hHeld) ?_
    rotate_left
    · intro w' _
      go_simp
      first | done | with_reducible rfl
    try simp only [Act.put, List.setIfInBounds_toArray, List.set_cons_zero, List.set_cons_succ]
    refine anyZ_read (i := 3) (v := ?_) (some 107) [7] rfl rfl (by kernel_rfl) (by kernel_rfl) (by kernel_rfl) (by kernel_rfl) (by kernel_rfl) (by kernel_rfl) (fun _ _ _ h => h) (Or.inl ⟨by rfl, ?_⟩) hHeld ?_
    rotate_left
    · intro w' hSw
      have q3 := (HB9.out.fr hSw (fun h => h)).cell 3; simp only [FS.cells, List.getElem?_toArray, List.getElem?_cons_zero, List.getElem?_cons_succ] at q3
      go_simp
      first | done | with_reducible rfl
    try simp only [Act.put, List.setIfInBounds_toArray, List.set_cons_zero, List.set_cons_succ]
    refine anyZ_pure (i := 4) (v := ?_) (some 108) rfl rfl (by kernel_rfl) (by kernel_rfl) (by kernel_rfl) (by kernel_rfl) (fun _ _ _ h => h) (Or.inl ⟨by rfl, ?_⟩) (fun _ => hHeld) ?_
    rotate_left
    · intro w' _
      go_simp
      first | done | with_reducible rfl
    try simp only [Act.put, List.setIfInBounds_toArray, List.set_cons_zero, List.set_cons_succ]
    refine anyZ_read (i := 5) (v := ?_) (some 109) [6, 7] rfl rfl (by kernel_rfl) (by kernel_rfl) (by kernel_rfl) (by kernel_rfl) (by kernel_rfl) (by kernel_rfl) (fun _ _ _ h => h) (Or.inl ⟨by rfl, ?_⟩) hHeld ?_
    rotate_left
    · intro w' hSw
      have qk := HK9.out.fr hSw (fun h => h); have k0 := qk.cell 0; have k2 := qk.cell 2; have k3 := qk.cell 3; simp only [List.getElem?_toArray, List.getElem?_cons_zero, List.getElem?_cons_succ] at k0 k2 k3
      go_simp
      first | done | with_reducible rfl
    try simp only [Act.put, List.setIfInBounds_toArray, List.set_cons_zero, List.set_cons_succ]
    refine anyZ_pure (i := 6) (v := ?_) (some 110) rfl rfl (by kernel_rfl) (by kernel_rfl) (by kernel_rfl) (by kernel_rfl) (fun _ _ _ h => h) (Or.inl ⟨by rfl, ?_⟩) (fun _ => hHeld) ?_
    rotate_left
    · intro w' _
      go_simp
      first | done | with_reducible rfl
    try simp only [Act.put, List.setIfInBounds_toArray, List.set_cons_zero, List.set_cons_succ]
    refine anyZ_ready (rs := [7]) (by kernel_rfl) (by simp) ?_
    refine AllZ.last rfl (by kernel_rfl) (fun K hK => ?_) AllZ.nil
    obtain ⟨w1, hrun, hm1, hf1⟩ := HPU.out _ hHeld
    go_simp
    have HM1 := Lib.hid hm1
    have HF1 := Lib.hid ((hHeld.mono (T := fun k => k = bm) (fun _ _ h => h.elim)).trans hf1 (fun _ _ h => h))
    clear hm1 hf1 hrun
    refine hK.out _ _ ?_
    clear hK K
    try change anyZ _ _ _ _ _ _ _ _ (Act.put _ none _) _
    try simp only [Act.put, List.setIfInBounds_toArray, List.set_cons_zero, List.set_cons_succ]
    refine anyZ_done (by kernel_rfl) ?_ _

    clear HPU hHeld
    go_wp2
    refine bodyPost_end (results_none rfl _ _ _) rfl ⟨rfl, HFN.out _ (some bm) (D.del (th 12 i)) ?_ (HF1.out.mono (fun _ _ e => .inr e)) ?_ ?_ ?_ ?_ ?_ (by rfl)⟩
    · have hb := HB9.out.fr HF1.out HGB.out.2.2.1
      rw [HADD.out]
      simpa [FS.cells, HSL.out] using hb
    · intro b hb; obtain rfl : bm = b := by simpa using hb
      exact ⟨HM1.out, by have h1 := size_del (k := th 12 i) (HM9.out.tidy kFth); have := HSZ.out; omega⟩
    · rw [HADD.out]; have ho := (HOPN.out.del (show I64 12 from ⟨by decide, by decide⟩) HK64.out.2.1)
      first | exact ho | (simp only [HSL.out]; exact ho)
    · rw [HADD.out]; have := HP64.out.1; exact ⟨by first | (simp only; omega) | omega, by first | (simp only; omega) | omega⟩
    · rw [HADD.out]; exact HP64.out.2.1
    · rw [HADD.out]; simp only [HSL.out]; exact (upd64 HP64.out.2.2 _ _ ⟨⟨by decide, by decide⟩, ⟨by decide, by decide⟩⟩)
  by_cases hk18 : k = 18
  · subst hk18
    have hadd : s.add ⟨18, a, r, i, l, m, d⟩ = { s with L := s.L ++ [⟨18, a, r, i, l, m, d⟩], opn := upd s.opn 17 i (0, 0) } := by unfold FS.add; simp
    have HADD := Lib.hid hadd
    clear hadd
    have HPU : Hid (∀ w', Fr (fun _ => False) W9 w' → ∃ w1, (Builtin.delete_ #[69, 97] 0 #[.map (some bm), (.agg #[.int .i64 17, .int .i64 i])]).run Tryd.prog w' = .ok (.tuple #[]) w1 ∧ MV w1 97 bm (D.del (th 17 i)) ∧ Fr (fun x => x = bm) w' w1) := Lib.hid (fun w' hf =>
      (HM9.out.fr hf (fun h => h)).delete kFth tOpenF (fth_of (show I64 17 from ⟨by decide, by decide⟩) HK64.out.2.1) 0)
    go_wp2_with fail
    refine wp_region_Z [7] ((fun w' => Fr (fun _ => False) W9 w')) (by kernel_rfl) ((Fr.refl _ _).drew) (fun hHeld => ?_)
    refine anyZ_pure (i := 0) (v := ?_) (some 113) rfl rfl (by kernel_rfl) (by kernel_rfl) (by kernel_rfl) (by kernel_rfl) (fun _ _ _ h => h) (Or.inl ⟨by rfl, ?_⟩) (fun _ => hHeld) ?_
    rotate_left
    · intro w' _
      go_simp
      first | done | with_reducible rfl
    try simp only [Act.put, List.setIfInBounds_toArray, List.set_cons_zero, List.set_cons_succ]
    refine anyZ_pure (i := 1) (v := ?_) (some 114) rfl rfl (by kernel_rfl) (by kernel_rfl) (by kernel_rfl) (by kernel_rfl) (fun _ _ _ h => h) (Or.inl ⟨by rfl, ?_⟩) (fun _ => hHeld) ?_
    rotate_left
    · intro w' _
      go_simp
      first | done | with_reducible rfl
    try simp only [Act.put, List.setIfInBounds_toArray, List.set_cons_zero, List.set_cons_succ]
    refine anyZ_pure (i := 2) (v := ?_) (some 115) rfl rfl (by kernel_rfl) (by kernel_rfl) (by kernel_rfl) (by kernel_rfl) (fun _ _ _ h => h) (Or.inl ⟨by rfl, ?_⟩) (fun _ => hHeld) ?_
    rotate_left
    · intro w' _
      go_simp
      first | done | with_reducible rfl
    try simp only [Act.put, List.setIfInBounds_toArray, List.set_cons_zero, List.set_cons_succ]
    refine anyZ_read (i := 3) (v := ?_) (some 116) [7] rfl rfl (by kernel_rfl) (by kernel_rfl) (by kernel_rfl) (by kernel_rfl) (by kernel_rfl) (by kernel_rfl) (fun _ _ _ h => h) (Or.inl ⟨by rfl, ?_⟩) hHeld ?_
    rotate_left
    · intro w' hSw
      have q3 := (HB9.out.fr hSw (fun h => h)).cell 3; simp only [FS.cells, List.getElem?_toArray, List.getElem?_cons_zero, List.getElem?_cons_succ] at q3
      go_simp
      first | done | with_reducible rfl
    try simp only [Act.put, List.setIfInBounds_toArray, List.set_cons_zero, List.set_cons_succ]
    refine anyZ_pure (i := 4) (v := ?_) (some 117) rfl rfl (by kernel_rfl) (by kernel_rfl) (by kernel_rfl) (by kernel_rfl) (fun _ _ _ h => h) (Or.inl ⟨by rfl, ?_⟩) (fun _ => hHeld) ?_
    rotate_left
    · intro w' _
      go_simp
      first | done | with_reducible rfl
    try simp only [Act.put, List.setIfInBounds_toArray, List.set_cons_zero, List.set_cons_succ]
    refine anyZ_read (i := 5) (v := ?_) (some 118) [6, 7] rfl rfl (by kernel_rfl) (by kernel_rfl) (by kernel_rfl) (by kernel_rfl) (by kernel_rfl) (by kernel_rfl) (fun _ _ _ h => h) (Or.inl ⟨by rfl, ?_⟩) hHeld ?_
    rotate_left
    · intro w' hSw
      have qk := HK9.out.fr hSw (fun h => h); have k0 := qk.cell 0; have k2 := qk.cell 2; have k3 := qk.cell 3; simp only [List.getElem?_toArray, List.getElem?_cons_zero, List.getElem?_cons_succ] at k0 k2 k3
      go_simp
      first | done | with_reducible rfl
    try simp only [Act.put, List.setIfInBounds_toArray, List.set_cons_zero, List.set_cons_succ]
    refine anyZ_pure (i := 6) (v := ?_) (some 119) rfl rfl (by kernel_rfl) (by kernel_rfl) (by kernel_rfl) (by kernel_rfl) (fun _ _ _ h => h) (Or.inl ⟨by rfl, ?_⟩) (fun _ => hHeld) ?_
    rotate_left
    · intro w' _
      go_simp
      first | done | with_reducible rfl
    try simp only [Act.put, List.setIfInBounds_toArray, List.set_cons_zero, List.set_cons_succ]
    refine anyZ_ready (rs := [7]) (by kernel_rfl) (by simp) ?_
    refine AllZ.last rfl (by kernel_rfl) (fun K hK => ?_) AllZ.nil
    obtain ⟨w1, hrun, hm1, hf1⟩ := HPU.out _ hHeld
    go_simp
    have HM1 := Lib.hid hm1
    have HF1 := Lib.hid ((hHeld.mono (T := fun k => k = bm) (fun _ _ h => h.elim)).trans hf1 (fun _ _ h => h))
    clear hm1 hf1 hrun
    refine hK.out _ _ ?_
    clear hK K
    try change anyZ _ _ _ _ _ _ _ _ (Act.put _ none _) _
    try simp only [Act.put, List.setIfInBounds_toArray, List.set_cons_zero, List.set_cons_succ]
    refine anyZ_done (by kernel_rfl) ?_ _

    clear HPU hHeld
    go_wp2
    refine bodyPost_end (results_none rfl _ _ _) rfl ⟨rfl, HFN.out _ (some bm) (D.del (th 17 i)) ?_ (HF1.out.mono (fun _ _ e => .inr e)) ?_ ?_ ?_ ?_ ?_ (by rfl)⟩
    · have hb := HB9.out.fr HF1.out HGB.out.2.2.1
      rw [HADD.out]
      simpa [FS.cells, HSL.out] using hb
    · intro b hb; obtain rfl : bm = b := by simpa using hb
      exact ⟨HM1.out, by have h1 := size_del (k := th 17 i) (HM9.out.tidy kFth); have := HSZ.out; omega⟩
    · rw [HADD.out]; have ho := (HOPN.out.del (show I64 17 from ⟨by decide, by decide⟩) HK64.out.2.1)
      first | exact ho | (simp only [HSL.out]; exact ho)
    · rw [HADD.out]; have := HP64.out.1; exact ⟨by first | (simp only; omega) | omega, by first | (simp only; omega) | omega⟩
    · rw [HADD.out]; exact HP64.out.2.1
    · rw [HADD.out]; simp only [HSL.out]; exact (upd64 HP64.out.2.2 _ _ ⟨⟨by decide, by decide⟩, ⟨by decide, by decide⟩⟩)
  have hadd : s.add ⟨k, a, r, i, l, m, d⟩ = { s with L := s.L ++ [⟨k, a, r, i, l, m, d⟩] } := by
    unfold FS.add
    simp only [hk2, hk3, hk4, hk5, hk6, hk7, hk12, hk17, hk8, hk9, hk10, hk11, hk13, hk14, hk18, hk16, hk19, hk20, hk21, hk22, hk23, if_false, or_self, if_neg, not_false_eq_true]
  have hcl : closesK k = false := by unfold closesK; simp; omega
  have HADD := Lib.hid hadd
  have HCL := Lib.hid hcl
  have d2 : (k == 2) = false := by simp; omega
  have d3 : (k == 3) = false := by simp; omega
  have d4 : (k == 4) = false := by simp; omega
  have d5 : (k == 5) = false := by simp; omega
  have d6 : (k == 6) = false := by simp; omega
  have d7 : (k == 7) = false := by simp; omega
  have d12 : (k == 12) = false := by simp; omega
  have d17 : (k == 17) = false := by simp; omega
  have d8 : (k == 8) = false := by simp; omega
  have d9 : (k == 9) = false := by simp; omega
  have d10 : (k == 10) = false := by simp; omega
  have d11 : (k == 11) = false := by simp; omega
  have d13 : (k == 13) = false := by simp; omega
  have d14 : (k == 14) = false := by simp; omega
  have d18 : (k == 18) = false := by simp; omega
  have d16 : (k == 16) = false := by simp; omega
  have d19 : (k == 19) = false := by simp; omega
  have d20 : (k == 20) = false := by simp; omega
  have d21 : (k == 21) = false := by simp; omega
  have d22 : (k == 22) = false := by simp; omega
  have d23 : (k == 23) = false := by simp; omega
  clear hadd hcl hk2 hk3 hk4 hk5 hk6 hk7 hk12 hk17 hk8 hk9 hk10 hk11 hk13 hk14 hk18 hk16 hk19 hk20 hk21 hk22 hk23
  go_wp2
  refine bodyPost_end (results_none rfl _ _ _) rfl ⟨rfl, HFN.out _ (some bm) D ?_ (Fr.refl _ _) (fun b hb => ?_) (by rw [HADD.out]; exact HOPN.out) ?_ ?_ (by rw [HADD.out]; exact HP64.out.2.2) (by rw [HCL.out]; rfl)⟩
  · rw [HADD.out]; exact HB9.out
  · obtain rfl : bm = b := by simpa using hb
    exact ⟨HM9.out, by have := HSZ.out; omega⟩
  · rw [HADD.out]; have := HP64.out.1; exact ⟨by first | (simp only; omega) | omega, by first | (simp only; omega) | omega⟩
  · rw [HADD.out]; exact HP64.out.2.1
end Go.Proofs.YtkinbcmnfpkncaaDoor
