/- The log's dropFrom, dropTo, Add, alike. -/
import Derived.Test.YtainkckcipdknaaQe
namespace Go.Proofs.Ytainkckcipdknaa
open Go.RowKit

theorem run_clearE {w : World} {b off m c : Nat} {cur : Array Value} (hb : Bk w b 51 cur) (h0 : 0 < m) (hfit : off + m * 2 ≤ cur.size) :
    ∃ zs : List Value, zs.length = m * 2 ∧ ∀ ty, (Builtin.clear_ #[22] ty #[.slice (some ⟨b, off, none⟩) m c]).run Try.prog w = .ok (.tuple #[]) (w.setCells b off zs) := by
  have hz : (zeroValue 51).run Try.prog w = .ok (.agg #[.int .i64 0, .slice none 0 0]) w := by simp [go_sem]
  obtain ⟨k, rfl⟩ : ∃ k, m = k + 1 := ⟨m - 1, by omega⟩
  have hl : (Builtin.zeroCells (Value.agg #[.int .i64 0, .slice none 0 0]).cells (k + 1)).toList.length = (k + 1) * 2 := by
    rw [Array.length_toList, size_zeroCells]; rfl
  have h1 : ∀ u ∈ (Builtin.zeroCells (Value.agg #[.int .i64 0, .slice none 0 0]).cells (k + 1)).toList, u.oneCell' = true := by
    intro u hu
    simp only [Builtin.zeroCells, Array.toList_map, List.mem_map] at hu
    obtain ⟨i, _, rfl⟩ := hu
    have hi : i % (Value.agg #[.int .i64 0, .slice none 0 0]).cells.size < 2 := Nat.mod_lt _ (by decide)
    generalize i % (Value.agg #[.int .i64 0, .slice none 0 0]).cells.size = j at hi
    match j, hi with
    | 0, _ => rfl
    | 1, _ => rfl
  refine ⟨_, hl, fun ty => ?_⟩
  have hst := run_storeCells_cells (P := Try.prog) b off _ 0 w (fun j hj => hb.there (by rw [hl] at hj; omega)) (fun j hj => hb.frozen _) h1
  simp only [Nat.add_zero] at hst
  simp [Builtin.clear_, run_underlying Try.underlying22, hz, hst]

/-- The parts of a row of entries at an address. -/
theorem Row.parts {w : World} {T : TypeId} {n m b off c : Nat} {cs : List Value} (h : Row w T 2 (.slice (some ⟨b, off, none⟩) m c) n cs) : ∃ cur, Bk w b T cur ∧ n ≤ c ∧ c ≤ maxLen ∧ off + c * 2 ≤ cur.size ∧ (∀ j, j < cs.length → cur[off + j]? = cs[j]?) ∧ cs.length = n * 2 ∧ m = n := by
  obtain ⟨h1, h2⟩ := h
  rcases h2 with ⟨e, _⟩ | ⟨b', off', cap, cur, e, hb, hnc, hcm, hsz, hc⟩
  · cases e
  injection e with e1 e2 e3
  injection e1 with e1
  injection e1 with e1 e4
  subst e1 e4 e3
  exact ⟨cur, hb, hnc, hcm, hsz, hc, h1, e2⟩
theorem Row.mk' {w : World} {T : TypeId} {n b off c : Nat} {cs : List Value} {cur : Array Value} (hb : Bk w b T cur) (hnc : n ≤ c) (hcm : c ≤ maxLen) (hsz : off + c * 2 ≤ cur.size) (hc : ∀ j, j < cs.length → cur[off + j]? = cs[j]?) (hl : cs.length = n * 2) : Row w T 2 (.slice (some ⟨b, off, none⟩) n c) n cs :=
  ⟨hl, .inr ⟨b, off, c, cur, rfl, hb, hnc, hcm, hsz, hc⟩⟩
/-- The first k, whatever the others have become. -/
theorem Row.front {w w' : World} {T : TypeId} {k n m b off c : Nat} {ps : List EL} {zs : List Value} (h : Row w T 2 (.slice (some ⟨b, off, none⟩) m c) n (elc ps)) (hk : k ≤ n) (hf : Fr (fun _ => False) (w.setCells b (off + k * 2) zs) w') (hz : zs.length = (n - k) * 2) : Row w' T 2 (.slice (some ⟨b, off, none⟩) k c) k (elc (ps.take k)) := by
  obtain ⟨cur, hb, hnc, hcm, hsz, hc, hl, rfl⟩ := h.parts
  have e1 : (elc (ps.take k)).length = k * 2 := by rw [← elc_take, List.length_take, hl]; omega
  refine Row.mk' ((hb.setCells zs _).fr hf (fun h => h)) (by omega) hcm (by rw [lay_size]; exact hsz) (fun j hj => ?_) e1
  rw [lay_out _ _ _ _ (.inl (by omega)), hc j (by omega), ← elc_take, List.getElem?_take_of_lt (by omega)]
/-- What is behind the first k, whatever these have become. -/
theorem Row.back {w w' : World} {T : TypeId} {k n m b off c : Nat} {ps : List EL} {zs : List Value} (h : Row w T 2 (.slice (some ⟨b, off, none⟩) m c) n (elc ps)) (hk : k ≤ n) (hf : Fr (fun _ => False) (w.setCells b off zs) w') (hz : zs.length = k * 2) : Row w' T 2 (.slice (some ⟨b, off + k * 2, none⟩) (n - k) (c - k)) (n - k) (elc (ps.drop k)) := by
  obtain ⟨cur, hb, hnc, hcm, hsz, hc, hl, rfl⟩ := h.parts
  have e1 : (elc (ps.drop k)).length = (m - k) * 2 := by rw [← elc_drop, List.length_drop, hl]; omega
  refine Row.mk' ((hb.setCells zs _).fr hf (fun h => h)) (by omega) (by omega) (by rw [lay_size]; omega) (fun j hj => ?_) e1
  rw [lay_out _ _ _ _ (.inr (by omega)), Nat.add_assoc, hc (k * 2 + j) (by omega), ← elc_drop, List.getElem?_drop]

set_option maxRecDepth 100000 in
set_option maxHeartbeats 4000000 in
theorem dropFrom_any {w : World} {g : Nat} {s : LG} {F : Nat → Prop} {k : Nat} (h : Lg 65 51 w g s F) (hk : k < s.l.length) (i : Int) (hi : i = (s.ix : Int) + 1 + (k : Int)) :
    Calls Try.prog 43 #[.pointer (some ⟨g, 0, none⟩), .int .i64 i] w fun e w' => e = .returned (.tuple #[]) ∧ Lg 65 51 w' g ⟨s.ix, s.tm, s.l.take k⟩ F ∧ Fr F w w' := by
  have C1 := lgFirst h
  obtain ⟨v, ps, h1, h2, h3⟩ := h
  obtain ⟨A, c, rfl, hnc, hcm, hA⟩ := h1.form
  obtain ⟨b, off, rfl⟩ := hA (by omega)
  have c2 := h1.c2
  have b1 := h1.ok.i1
  have b2 := h1.ok.l1
  have hll := h1.ll
  obtain ⟨cur, hb, _, _, hsz, _, _, _⟩ := h1.own.row.parts
  have hbg : b ≠ g := Bk.ne hb h1.blk (by decide)
  obtain ⟨zs, hz1, hz2⟩ := run_clearE (c := c - k) (m := s.l.length - k) (off := off + k * 2) hb (by omega) (by omega)
  have hz2 := hz2 0
  have H1 := Lib.hid h1
  have H2 := Lib.hid h2
  have H3 := Lib.hid h3
  have HZ := Lib.hid hz1
  have HLL := Lib.hid hll
  have HBG := Lib.hid hbg
  have HB := Lib.hid hb
  have HK := Lib.hid hk
  obtain ⟨fi, hfi⟩ : ∃ fi : Nat, s.ix + 1 = fi := ⟨_, rfl⟩
  rw [show (s.ix : Int) + 1 = (fi : Int) by omega] at C1 hi
  subst hi
  obtain ⟨n, hn⟩ : ∃ n, s.l.length = n := ⟨_, rfl⟩
  have HN := Lib.hid hn
  rw [hn] at hz2 c2 hnc b1 b2 hk
  have hfib : (fi : Int) ≤ 20000000000001 := by omega
  have hcb : (c : Int) ≤ 9223372036854775807 := by unfold maxLen at hcm; omega
  have hkn : (k : Int) < (n : Int) := by omega
  have hnb : (n : Int) ≤ 5000000000000 := by omega
  have hkc : (k : Int) ≤ (c : Int) := by omega
  have hncI : (n : Int) ≤ (c : Int) := by omega
  have e1 : (fi : Int) + (k : Int) - (fi : Int) = (k : Int) := by omega
  have hlf : w.cell? ⟨g, 2, none⟩ = (w.setCells b (off + k * 2) zs).cell? ⟨g, 2, none⟩ := by
    have hf := Fr.setCells (g := b) (S := fun x => x = b) zs (off + k * 2) (Fr.refl _ w) (fun _ => rfl)
    exact (hf.cell (p := ⟨g, 2, none⟩) h1.blk.lt (fun e => hbg e.symm)).symm
  have hff : (w.setCells b (off + k * 2) zs).frozen? ⟨g, 2, none⟩ = false := by
    have hf := Fr.setCells (g := b) (S := fun x => x = b) zs (off + k * 2) (Fr.refl _ w) (fun _ => rfl)
    exact (h1.blk.fr hf (fun e => hbg e.symm)).frozen 2
  have c3 := hlf.symm.trans c2
  have HFS : Hid (Fr (fun x => x = b) w (w.setCells b (off + k * 2) zs)) := Lib.hid (Fr.setCells (g := b) (S := fun x => x = b) zs (off + k * 2) (Fr.refl _ w) (fun _ => rfl))
  have HROW := Lib.hid (fun w' (hf : Fr (fun _ => False) (w.setCells b (off + k * 2) zs) w') => h1.own.row.front (k := k) (by omega) hf (by rw [hz1, hll]))
  clear h1 h2 h3 hA hb hz1 hll hn hfi hbg hlf hsz hcm hk
  go_enter Try.func43, Try.ntmps43
  go_wp2_with fail
  refine C1.mono ?_; rintro e w1 ⟨rfl, rfl⟩
  go_wp2
  refine bodyPost_end (results_none rfl _ _ _) rfl ⟨rfl, ?_⟩
  obtain ⟨W, hW⟩ : ∃ W, w.setCells b (off + k * 2) zs = W := ⟨_, rfl⟩
  rw [hW] at HFS HROW ⊢
  have hfs : Fr (fun x => x = b ∨ x = g) w (W.setCell ⟨g, 2, none⟩ (.slice (some ⟨b, off, none⟩) k c)) :=
    Fr.setCell (S := fun x => x = b ∨ x = g) (p := ⟨g, 2, none⟩) (HFS.out.mono (fun _ _ e => .inl e)) (fun _ => .inr rfl) _
  have hfg : Fr (fun x => x = g) W (W.setCell ⟨g, 2, none⟩ (.slice (some ⟨b, off, none⟩) k c)) := Fr.setCell (S := fun x => x = g) (p := ⟨g, 2, none⟩) (Fr.refl _ _) (fun _ => rfl) _
  have hrow := HROW.out W (Fr.refl _ _)
  have hrow2 := hrow.fr hfg (fun x e e2 => HBG.out (by rw [← e2]; simpa [Value.ownBlock] using e))
  have hll := HLL.out
  have hN := HN.out
  have hlt : (ps.take k).length = k := by rw [List.length_take]; omega
  have hin : ∀ x, (x = b ∨ x = g) → F x := fun x e => by
    rcases e with rfl | rfl
    · exact H2.out _ (.inr (.inl rfl))
    · exact H2.out _ (.inl rfl)
  have hblk : Bk (W.setCell ⟨g, 2, none⟩ (.slice (some ⟨b, off, none⟩) k c)) g 65 #[.int .i64 (s.ix : Int), .int .i64 s.tm, .slice (some ⟨b, off, none⟩) k c] := by
    simpa using (H1.out.blk.fr HFS.out (fun e => HBG.out e.symm)).set 2 (.slice (some ⟨b, off, none⟩) k c)
  refine ⟨⟨_, ps.take k, ⟨⟨by have := H1.out.ok.i1; have := HK.out; simp only [List.length_take]; omega, by have := H1.out.ok.l1; simp only [List.length_take]; omega⟩, hblk, ⟨by rw [hlt]; exact hrow2, fun p hp => ?_⟩, by simp only; rw [H1.out.l, List.map_take]⟩, fun x hx => ?_, fun x hx => Nat.lt_of_lt_of_le (H3.out x hx) hfs.size⟩, hfs.mono (fun x _ e => hin x e)⟩
  · have hpp := List.mem_of_mem_take hp
    refine (H1.out.own.each p hpp).fr hfs (fun x e e2 => ?_)
    rcases e2 with rfl | rfl
    · exact H1.out.own.apart (by decide) hpp rfl e
    · exact (H1.out.own.each p hpp).own.ne H1.out.blk (by decide) e
  · rcases hx with rfl | e | ⟨p, hp, e⟩
    · exact hin _ (.inr rfl)
    · exact hin _ (.inl (by simpa [Value.ownBlock, eq_comm] using e))
    · exact H2.out _ (.inr (.inr ⟨p, List.mem_of_mem_take hp, e⟩))

/-- What dropTo leaves. -/
theorem dropTo_fin {w w1 W : World} {g b off off2 n c cc k ix : Nat} {tt : Int} {s : LG} {ps : List EL} {F : Nat → Prop} (h : LogM 65 51 w g s (.slice (some ⟨b, off, none⟩) s.l.length c) ps)
    (h2 : ∀ x, LB g (.slice (some ⟨b, off, none⟩) s.l.length c) ps x → F x) (h3 : ∀ x, F x → x < w.heap.size) (hf1 : Fr (fun _ => False) w w1) (hfs : Fr (fun x => x = b) w1 W) (hbg : b ≠ g) (hn : s.l.length = n) (hk : k ≤ n) (hix : s.ix = ix)
    (hbk : Bk W g 65 #[.int .i64 (ix : Int), .int .i64 s.tm, .slice (some ⟨b, off, none⟩) n c]) (hrow : Row W 51 2 (.slice (some ⟨b, off2, none⟩) (n - k) cc) (n - k) (elc (ps.drop k))) (htt : s.term ((ix : Int) + (k : Int)) = tt) :
    Lg 65 51 (((W.setCell ⟨g, 0, none⟩ (.int .i64 ((ix : Int) + (k : Int)))).setCell ⟨g, 1, none⟩ (.int .i64 tt)).setCell ⟨g, 2, none⟩ (.slice (some ⟨b, off2, none⟩) (n - k) cc)) g ⟨s.ix + k, s.term ((ix : Int) + (k : Int)), s.l.drop k⟩ F ∧
      Fr F w (((W.setCell ⟨g, 0, none⟩ (.int .i64 ((ix : Int) + (k : Int)))).setCell ⟨g, 1, none⟩ (.int .i64 tt)).setCell ⟨g, 2, none⟩ (.slice (some ⟨b, off2, none⟩) (n - k) cc)) := by
  have hg3 : ∀ (W : World) (a b' c' : Value), Fr (fun x => x = g) W (((W.setCell ⟨g, 0, none⟩ a).setCell ⟨g, 1, none⟩ b').setCell ⟨g, 2, none⟩ c') := fun W a b' c' =>
    Fr.setCell (S := fun x => x = g) (p := ⟨g, 2, none⟩) (Fr.setCell (S := fun x => x = g) (p := ⟨g, 1, none⟩) (Fr.setCell (S := fun x => x = g) (p := ⟨g, 0, none⟩) (Fr.refl _ _) (fun _ => rfl) _) (fun _ => rfl) _) (fun _ => rfl) _
  have hfg := hg3 W (.int .i64 ((ix : Int) + (k : Int))) (.int .i64 tt) (.slice (some ⟨b, off2, none⟩) (n - k) cc)
  have hblk : Bk (((W.setCell ⟨g, 0, none⟩ (.int .i64 ((ix : Int) + (k : Int)))).setCell ⟨g, 1, none⟩ (.int .i64 tt)).setCell ⟨g, 2, none⟩ (.slice (some ⟨b, off2, none⟩) (n - k) cc)) g 65 #[.int .i64 ((ix : Int) + (k : Int)), .int .i64 tt, .slice (some ⟨b, off2, none⟩) (n - k) cc] := by
    simpa using ((hbk.set 0 (.int .i64 ((ix : Int) + (k : Int)))).set 1 (.int .i64 tt)).set 2 (.slice (some ⟨b, off2, none⟩) (n - k) cc)
  generalize (((W.setCell ⟨g, 0, none⟩ (.int .i64 ((ix : Int) + (k : Int)))).setCell ⟨g, 1, none⟩ (.int .i64 tt)).setCell ⟨g, 2, none⟩ (.slice (some ⟨b, off2, none⟩) (n - k) cc)) = W9 at *
  have hfa : Fr (fun x => x = b ∨ x = g) w W9 := (hf1.mono (fun _ _ e => e.elim)).trans (T := fun x => x = b ∨ x = g) ((hfs.mono (T := fun x => x = b ∨ x = g) (fun _ _ e => .inl e)).trans hfg (fun _ _ e => .inr e)) (fun _ _ e => e)
  have hin : ∀ x, (x = b ∨ x = g) → F x := fun x e => by
    rcases e with rfl | rfl
    · exact h2 _ (.inr (.inl rfl))
    · exact h2 _ (.inl rfl)
  have hll := h.ll
  have hld : (ps.drop k).length = n - k := by rw [List.length_drop]; omega
  refine ⟨⟨.slice (some ⟨b, off2, none⟩) (n - k) cc, ps.drop k, ⟨⟨by have := h.ok.i1; simp only [List.length_drop]; omega, by have := h.ok.l1; simp only [List.length_drop]; omega⟩, ?_, ⟨?_, fun p hp => ?_⟩, by simp only; rw [h.l, List.map_drop]⟩, fun x hx => ?_, fun x hx => Nat.lt_of_lt_of_le (h3 x hx) hfa.size⟩, hfa.mono (fun x _ e => hin x e)⟩
  · rw [htt]
    simp only [Int.natCast_add, hix]
    exact hblk
  · rw [hld]
    exact hrow.fr hfg (fun x e e2 => hbg (by rw [← e2]; simpa [Value.ownBlock] using e))
  · have hpp := List.mem_of_mem_drop hp
    refine (h.own.each p hpp).fr hfa (fun x e e2 => ?_)
    rcases e2 with rfl | rfl
    · exact h.own.apart (by decide) hpp rfl e
    · exact (h.own.each p hpp).own.ne h.blk (by decide) e
  · rcases hx with rfl | e | ⟨p, hp, e⟩
    · exact hin _ (.inr rfl)
    · exact hin _ (.inl (by simpa [Value.ownBlock, eq_comm] using e))
    · exact h2 _ (.inr (.inr ⟨p, List.mem_of_mem_drop hp, e⟩))

set_option maxRecDepth 100000 in
set_option maxHeartbeats 4000000 in
theorem dropTo_any {w : World} {g : Nat} {s : LG} {F : Nat → Prop} {k : Nat} (h : Lg 65 51 w g s F) (hk0 : 0 < k) (hk : k ≤ s.l.length) (i : Int) (hi : i = (s.ix : Int) + (k : Int)) :
    Calls Try.prog 45 #[.pointer (some ⟨g, 0, none⟩), .int .i64 i] w fun e w' => e = .returned (.tuple #[]) ∧ Lg 65 51 w' g ⟨s.ix + k, s.term i, s.l.drop k⟩ F ∧ Fr F w w' := by
  have C1 := lgTerm h i (by omega) (by have := h.ok.i1; omega)
  obtain ⟨v, ps, h1, h2, h3⟩ := h
  obtain ⟨A, c, rfl, hnc, hcm, hA⟩ := h1.form
  obtain ⟨b, off, rfl⟩ := hA (by omega)
  have b1 := h1.ok.i1
  have b2 := h1.ok.l1
  have hll := h1.ll
  have hhas : s.has i = true := by unfold LG.has; simp; omega
  have HT : Hid (0 ≤ s.term i → s.term i ≤ 9223372036854775807 → True) := Lib.hid (fun _ _ => trivial)
  have his := LG.is_of_has hhas
  rw [his] at C1
  obtain ⟨tt, htt⟩ : ∃ tt, s.term i = tt := ⟨_, rfl⟩
  have HTT := Lib.hid htt
  rw [htt] at C1
  have HB0 : Hid (∀ W, Fr (fun _ => False) w W → ∃ zs : List Value, zs.length = k * 2 ∧ (Builtin.clear_ #[22] 0 #[.slice (some ⟨b, off, none⟩) k k]).run Try.prog W = .ok (.tuple #[]) (W.setCells b off zs)) := Lib.hid (fun W hf => by
    obtain ⟨cur, hb, _, _, hsz, _, _, _⟩ := (h1.fr0 hf).own.row.parts
    obtain ⟨zs, hz1, hz2⟩ := run_clearE (c := k) (m := k) (off := off) hb (by omega) (by omega)
    exact ⟨zs, hz1, hz2 0⟩)
  obtain ⟨cur, hb, _, _, hsz, _, _, _⟩ := h1.own.row.parts
  have hbg : b ≠ g := Bk.ne hb h1.blk (by decide)
  have H1 := Lib.hid h1
  have H2 := Lib.hid h2
  have H3 := Lib.hid h3
  have HLL := Lib.hid hll
  have HBG := Lib.hid hbg
  have HK := Lib.hid hk
  have HTB : Hid (0 ≤ tt ∧ tt ≤ 9223372036854775807 → True) := Lib.hid (fun _ => trivial)
  obtain ⟨n, hn⟩ : ∃ n, s.l.length = n := ⟨_, rfl⟩
  have HN := Lib.hid hn
  rw [hn] at hnc b1 b2 hk
  obtain ⟨ix, hix⟩ : ∃ ix, s.ix = ix := ⟨_, rfl⟩
  have HIX := Lib.hid hix
  rw [hix] at hi b1
  subst hi
  have hcb : (c : Int) ≤ 9223372036854775807 := by unfold maxLen at hcm; omega
  have hkn : (k : Int) ≤ (n : Int) := by omega
  have hnb : (n : Int) ≤ 5000000000000 := by omega
  have hkc : (k : Int) ≤ (c : Int) := by omega
  have hncI : (n : Int) ≤ (c : Int) := by omega
  have hixb : (ix : Int) ≤ 20000000000000 := by omega
  have e1 : (ix : Int) + (k : Int) - (ix : Int) = (k : Int) := by omega
  clear h1 h2 h3 hA hb hll hn hbg hsz hcm hhas his htt hix hk HT HTB
  go_enter Try.func45, Try.ntmps45
  go_wp2_with fail
  refine C1.mono ?_; rintro e w1 ⟨rfl, hf1⟩
  have h1 := H1.out.fr0 hf1
  obtain ⟨zs, hz1, hz2⟩ := HB0.out w1 hf1
  have c0 : w1.cell? ⟨g, 0, none⟩ = some (.int .i64 (ix : Int)) := by rw [← HIX.out]; exact h1.c0
  have c2 : w1.cell? ⟨g, 2, none⟩ = some (.slice (some ⟨b, off, none⟩) n c) := by rw [h1.c2, HN.out]
  have HFS : Hid (Fr (fun x => x = b) w1 (w1.setCells b off zs)) := Lib.hid (Fr.setCells (g := b) (S := fun x => x = b) zs off (Fr.refl _ w1) (fun _ => rfl))
  have hbk := h1.blk.fr HFS.out (fun e => HBG.out e.symm)
  rw [HIX.out, HN.out] at hbk
  have k0 : (w1.setCells b off zs).cell? ⟨g, 0, none⟩ = some (.int .i64 (ix : Int)) := hbk.cell 0
  have k1 : (w1.setCells b off zs).cell? ⟨g, 1, none⟩ = some (.int .i64 s.tm) := hbk.cell 1
  have k2 : (w1.setCells b off zs).cell? ⟨g, 2, none⟩ = some (.slice (some ⟨b, off, none⟩) n c) := hbk.cell 2
  have f0 := hbk.frozen 0
  have f1 := hbk.frozen 1
  have f2 := hbk.frozen 2
  have HROW := Lib.hid (fun w' (hf : Fr (fun _ => False) (w1.setCells b off zs) w') => h1.own.row.back (k := k) (by rw [HLL.out]; exact HK.out) hf hz1)
  have HROWF := Lib.hid (fun w' (hf : Fr (fun _ => False) (w1.setCells b (off + 0 * 2) zs) w') (hz : zs.length = (s.l.length - 0) * 2) => h1.own.row.front (k := 0) (by omega) hf (by rw [HLL.out]; exact hz))
  have HZL := Lib.hid hz1
  have HBK := Lib.hid hbk
  have HF1 := Lib.hid hf1
  have HM1 := Lib.hid h1
  clear h1 hz1 hbk hf1 HB0
  by_cases hck : c = k
  · go_wp2
    refine bodyPost_end (results_none rfl _ _ _) rfl ⟨rfl, ?_⟩
    have hnk : n = k := by have := HK.out; have := HN.out; omega
    obtain ⟨W, hW⟩ : ∃ W, w1.setCells b off zs = W := ⟨_, rfl⟩
    rw [hW] at HFS HROW HBK ⊢
    refine dropTo_fin (c := c) (off := off) H1.out H2.out H3.out HF1.out HFS.out HBG.out HN.out (by omega) HIX.out HBK.out ?_ HTT.out
    obtain ⟨cur', hb', _, _, hsz', _, _, _⟩ := (HROWF.out W (by rw [Nat.zero_mul, Nat.add_zero, hW]; exact Fr.refl _ _) (by rw [HZL.out, HN.out, hnk]; omega)).parts
    have e9 : (elc (ps.drop k)).length = 0 := by
      rw [← elc_drop, List.length_drop, elc_len]; have := HLL.out; have := HN.out; omega
    exact Row.mk' hb' (by omega) (by unfold maxLen; omega) (by omega) (fun j hj => by omega) (by omega)
  · go_wp2
    refine bodyPost_end (results_none rfl _ _ _) rfl ⟨rfl, ?_⟩
    obtain ⟨W, hW⟩ : ∃ W, w1.setCells b off zs = W := ⟨_, rfl⟩
    rw [hW] at HFS HROW HBK ⊢
    have hrow := HROW.out W (Fr.refl _ _)
    rw [HLL.out, HN.out] at hrow
    exact dropTo_fin (c := c) (off := off) H1.out H2.out H3.out HF1.out HFS.out HBG.out HN.out (by have := HK.out; have := HN.out; omega) HIX.out HBK.out hrow HTT.out
end Go.Proofs.Ytainkckcipdknaa
