/- flow: lay. -/
import Derived.Test.YtkinbcmnfpkncaaDoorXc
import Derived.Test.YtkinbcmnfpkncaaDoorXd
namespace Go.Proofs.YtkinbcmnfpkncaaDoor
open Go.RowKit Go.Maps

def Ev.at (e : Ev) (now : Int) : Ev := { e with a := now }
def FS.lay1 (now : Int) (x : FS × List Ou) (e : Ev) : FS × List Ou := (x.1.add (e.at now), x.2 ++ (if ((x.1.add (e.at now)).out (e.at now)).k = 0 then [] else [(x.1.add (e.at now)).out (e.at now)]))
def FS.lay (s : FS) (now : Int) (l : List Ev) : FS × List Ou := l.foldl (FS.lay1 now) (s, [])
theorem FS.lay_snoc (s : FS) (now : Int) (l : List Ev) (e : Ev) : s.lay now (l ++ [e]) = FS.lay1 now (s.lay now l) e := by unfold FS.lay; rw [List.foldl_append]; rfl
theorem FS.lay_len (s : FS) (now : Int) : ∀ (l : List Ev), (s.lay now l).1.L.length = s.L.length + l.length := fun l => by
  unfold FS.lay
  suffices h : ∀ (l : List Ev) (x : FS × List Ou), (l.foldl (FS.lay1 now) x).1.L.length = x.1.L.length + l.length from h l (s, [])
  intro l
  induction l with
  | nil => intro x; simp
  | cons e l ih => intro x; simp only [List.foldl_cons, ih, List.length_cons]; simp only [FS.lay1, FS.add_L, List.length_append, List.length_singleton]; omega
/-- Events that may be laid behind n others. -/
def layOk : Nat → List Ev → Prop
  | _, [] => True
  | n, e :: l => (0 ≤ e.n ∧ e.n ≤ 1099511627776) ∧ (e.k = 8 → 1 ≤ e.r ∧ e.r ≤ n + 1) ∧ (l ≠ [] → closesK e.k = false) ∧ layOk (n + 1) l
theorem layOk_at : ∀ {l : List Ev} {n i : Nat}, layOk n l → i < l.length → (0 ≤ (l.getD i default).n ∧ (l.getD i default).n ≤ 1099511627776) ∧ ((l.getD i default).k = 8 → 1 ≤ (l.getD i default).r ∧ (l.getD i default).r ≤ ((n + i + 1 : Nat) : Int)) ∧ (i + 1 < l.length → closesK (l.getD i default).k = false)
  | [], _, _, _, h => by simp at h
  | e :: l, n, 0, h, _ => ⟨h.1, fun hk => by have := h.2.1 hk; simpa using this, fun hl => h.2.2.1 (by intro e; subst e; simp at hl)⟩
  | e :: l, n, i + 1, h, hi => by
    have := layOk_at (i := i) h.2.2.2 (by simpa using hi)
    refine ⟨by simpa using this.1, fun hk => ?_, fun hl => ?_⟩
    · have h2 := this.2.1 (by simpa using hk)
      simp only [List.getD_cons_succ]
      refine ⟨h2.1, ?_⟩
      have h3 := h2.2
      push_cast at h3 ⊢; omega
    · simpa using this.2.2 (by simpa using hl)

/-! ### rows of what comes out -/
theorem teO : TE Tryd.prog 26 50 8 80 (.agg #[.int .i64 0, .int .i64 0, .int .i64 0, .int .i64 0, .int .i64 0, .int .i64 0, .int .i64 0, .slice none 0 0]) := ⟨Tryd.underlying26, by kernel_rfl, rfl, by omega⟩
theorem sl1O {w' : World} {g : Nat} {cs : List Value} (hl : cs.length = 8) (h : Bk w' g 50 cs.toArray) : Sl w' 8 (.slice (some ⟨g, 0, none⟩) 1 1) 1 cs :=
  Sl.at rfl (by rw [hl]) (fun j u hu => by rw [Nat.zero_add, h.cell]; simpa using hu)
def olc (os : List OL) : List Value := os.flatMap OL.cells
structure OwnO (w : World) (v : Value) (os : List OL) : Prop where
  row : Row w 50 8 v os.length (olc os)
  each : ∀ x ∈ os, Own8 w 5 x.bv x.o.d
def OB (v : Value) (os : List OL) (k : Nat) : Prop := v.ownBlock = some k ∨ ∃ x ∈ os, x.bv.ownBlock = some k
theorem OwnO.nil (w : World) : OwnO w (.slice none 0 0) [] := ⟨Row.nil _ _ _, fun p hp => by cases hp⟩
theorem OwnO.fr {S : Nat → Prop} {w w' : World} {v : Value} {os : List OL} (h : OwnO w v os) (hf : Fr S w w') (hS : ∀ k, OB v os k → ¬ S k) : OwnO w' v os :=
  ⟨h.row.fr hf (fun k e => hS k (.inl e)), fun p hp => (h.each p hp).fr hf (fun k e => hS k (.inr ⟨p, hp, e⟩))⟩
theorem OwnO.fr0 {w w' : World} {v : Value} {os : List OL} (h : OwnO w v os) (hf : Fr (fun _ => False) w w') : OwnO w' v os := h.fr hf (fun _ _ h => h)
theorem OwnO.bk {w : World} {v : Value} {os : List OL} (h : OwnO w v os) {k : Nat} (hk : OB v os k) : ∃ t cur, Bk w k t cur ∧ (t = 50 ∨ t = 5) := by
  rcases hk with e | ⟨q, hq, e⟩
  · obtain ⟨cur, hb⟩ := h.row.bk e; exact ⟨_, cur, hb, .inl rfl⟩
  · obtain ⟨cur, hb⟩ := own8_bk (h.each q hq) e; exact ⟨_, cur, hb, .inr rfl⟩
/-- A row of them is apart from a run's own blocks. -/
theorem OwnO.apart {w : World} {v : Value} {os : List OL} (h : OwnO w v os) {g bm : Nat} {A : Option Addr} {n c : Nat} {cs : Array Value} {D : DV} {ps : List VL} (hb : Bk w g 73 cs) (hm : MV w 97 bm D) (hr : OwnV w 75 (.slice A n c) ps) : ∀ k, OB v os k → ¬ AF g bm (.slice A n c) k := fun k hk e => by
  obtain ⟨t, cur, hk9, ht9⟩ := h.bk hk
  rcases e with rfl | rfl | e
  · rcases ht9 with rfl | rfl
    · exact Bk.ne hk9 hb (by decide) rfl
    · exact Bk.ne hk9 hb (by decide) rfl
  · exact hm.ne hk9 rfl
  · obtain ⟨cur2, hb2⟩ := hr.row.bk e
    rcases ht9 with rfl | rfl
    · exact Bk.ne hk9 hb2 (by decide) rfl
    · exact Bk.ne hk9 hb2 (by decide) rfl
theorem OwnO.put {w w' : World} {v : Value} {os : List OL} {x : OL} {A6 : Option Addr} {c6 m : Nat} (h : OwnO w v os) (hp : Own8 w 5 x.bv x.o.d) (hr : Row w' 50 8 (.slice A6 (m + 1) c6) (m + 1) (olc os ++ x.cells)) (hm : os.length = m) (hf : Fr (fun g => v.ownBlock = some g) w w') : OwnO w' (.slice A6 (m + 1) c6) (os ++ [x]) := by
  have hne : (50 : TypeId) ≠ 5 := by decide
  have hh : ∀ {y : OL}, Own8 w 5 y.bv y.o.d → Own8 w' 5 y.bv y.o.d := fun {y} hy => hy.fr hf (fun k hk e => by
    obtain ⟨cur, hb⟩ := h.row.bk e
    exact hy.ne hb (fun e => hne e.symm) hk)
  refine ⟨?_, fun q hq => ?_⟩
  · rw [show (os ++ [x]).length = m + 1 by simp [hm], show olc (os ++ [x]) = olc os ++ x.cells by simp [olc]]
    exact hr
  · rcases List.mem_append.1 hq with hq | hq
    · exact hh (h.each q hq)
    · simp at hq; subst hq; exact hh hp
/-- What a call that lays events tells. -/
structure LayR (w w' : World) (g bm : Nat) (A : Option Addr) (n c : Nat) (ps : List VL) (A' : Option Addr) (n' c' : Nat) (ps' : List VL) (mo' : Option Nat) (D' : DV) (s' : FS) (v : Value) (os : List OL) : Prop where
  fl : FlM w' g A' n' c' ps' mo' D' s'
  fr : Fr (AF g bm (.slice A n c)) w w'
  mv : Moved w (.slice A n c) (.slice A' n' c')
  nb : ∀ k, VB (.slice A' n' c') ps' k → VB (.slice A n c) ps k ∨ w.heap.size ≤ k
  ou : OwnO w' v os
  on : ∀ k, OB v os k → w.heap.size ≤ k
  mo : mo' = none ∨ mo' = some bm

set_option maxRecDepth 100000 in
set_option maxHeartbeats 16000000 in
theorem layF_any {w : World} {g bm : Nat} {A : Option Addr} {n c : Nat} {ps : List VL} {D : DV} {s : FS} (h : FlM w g A n c ps (some bm) D s) (now : Int) (hnow : 0 ≤ now ∧ now ≤ 1099511627776) (Al : Option Addr) (nl cl : Nat) (ls : List VL) {G : Nat → Prop} (hv : Vs w Al nl ls G) (hG : ∀ k, G k → ¬ AF g bm (.slice A n c) k) (hn : n + nl ≤ 4096) (hok : layOk n (ls.map VL.e)) :
    Calls Tryd.prog 29 #[.pointer (some ⟨g, 0, none⟩), .int .i64 now, .slice Al nl cl] w fun e w' => ∃ A' c' ps' mo' D' Ao mo co os, e = .returned (.tuple #[.slice Ao mo co, .int .i64 0]) ∧ os.length = mo ∧ os.map OL.o = (s.lay now (ls.map VL.e)).2 ∧ LayR w w' g bm A n c ps A' (n + nl) c' ps' mo' D' (s.lay now (ls.map VL.e)).1 (.slice Ao mo co) os ∧ ((∀ e ∈ ls.map VL.e, closesK e.k = false) → mo' = some bm) := by
  have HH := Lib.hid h
  have HV := Lib.hid hv
  have HGG := Lib.hid hG
  have HOK := Lib.hid hok
  have HNOW := Lib.hid hnow
  have HL := Lib.hid hv.len
  have hnI : (n : Int) + (nl : Int) ≤ 4096 := by omega
  have HN := Lib.hid hn
  have y2 : w.cell? ⟨g, 2, none⟩ = some (.slice A n c) := h.blk.cell 2
  have wa : IntKind.i64.wrap ((n : Int) + (nl : Int)) = (n : Int) + (nl : Int) := IntWalk.i64_in _ (by omega)
  have d0 : decide ((4096 : Int) < (n : Int) + (nl : Int)) = false := decide_eq_false (by omega)
  have HGL : Hid (g < w.heap.size ∧ bm < w.heap.size) := Lib.hid ⟨h.blk.lt, (h.map bm rfl).1.lt⟩
  have H0 : Hid (LayR w w g bm A n c ps A n c ps (some bm) D s (.slice none 0 0) []) := Lib.hid ⟨h, Fr.refl _ _, Moved.refl _ _, fun k hk => .inl hk, OwnO.nil _, fun k hk => hk.elim (fun e => by cases e) (fun ⟨q, hq, _⟩ => by cases hq), .inr rfl⟩
  clear h hv hG hok hnow hn
  go_enter Tryd.func29, Tryd.ntmps29
  go_wp2_with fail
  clear y2 wa d0
  go_loopw [23, 8] (fun i v wr => ∃ (k m : Nat) (A' : Option Addr) (c' : Nat) (ps' : List VL) (mo' : Option Nat) (D' : DV) (Ao : Option Addr) (co : Nat) (os : List OL), i = .int .i64 (k : Int) ∧ v = .slice Ao m co ∧ k ≤ nl ∧ m ≤ k ∧ Hid (os.length = m ∧ os.map OL.o = (s.lay now ((ls.take k).map VL.e)).2 ∧ LayR w wr g bm A n c ps A' (n + k) c' ps' mo' D' (s.lay now ((ls.take k).map VL.e)).1 (.slice Ao m co) os ∧ (k < nl → mo' = some bm) ∧ ((∀ e ∈ (ls.take k).map VL.e, closesK e.k = false) → mo' = some bm))) (fun i _ _ => nl - (intOf i).toNat)
  case atStart => exact ⟨0, 0, A, c, ps, some bm, D, none, 0, [], rfl, rfl, Nat.zero_le _, Nat.le_refl _, ⟨rfl, rfl, H0.out, fun _ => rfl, fun _ => rfl⟩⟩
  case round =>
    obtain ⟨k, m, A', c', ps', mo', D', Ao, co, os, rfl, rfl, hk, hmk, HK⟩ := hrel
    clear H0
    have hk0 : (0 : Int) ≤ (k : Int) := by omega
    by_cases hlt : k < nl
    · have hlt' : (k : Int) < (nl : Int) := by omega
      have hkI : (k : Int) ≤ 4096 := by omega
      have w1 : IntKind.i64.wrap ((k : Int) + 1) = (k : Int) + 1 := IntWalk.i64_in _ (by omega)
      obtain rfl : mo' = some bm := HK.out.2.2.2.1 hlt
      have HLR := Lib.hid HK.out.2.2.1
      have HLEN := Lib.hid HK.out.1
      have HOS := Lib.hid HK.out.2.1
      clear HK
      have HTK : Hid (ls.take (k + 1) = ls.take k ++ [ls.getD k default]) := Lib.hid (take_succ_getD (by rw [HL.out]; exact hlt))
      have HAT0 := layOk_at (i := k) HOK.out (by rw [List.length_map, HL.out]; exact hlt)
      rw [getD_map VL.e (by rw [HL.out]; exact hlt), List.length_map, HL.out] at HAT0
      have HAT := Lib.hid HAT0
      clear HAT0
      obtain ⟨b, off, rfl, -, hcs, hrd⟩ := (HV.out.fr HLR.out.fr HGG.out).at hlt
      generalize ls.getD k default = q at *
      obtain ⟨si, hsi⟩ : ∃ si, s.lay now ((ls.take k).map VL.e) = si := ⟨_, rfl⟩
      have HNX : Hid (s.lay now ((ls.take (k + 1)).map VL.e) = FS.lay1 now si q.e) := Lib.hid (by rw [HTK.out, List.map_append, List.map_singleton, FS.lay_snoc, hsi])
      rw [hsi] at HLR HOS
      clear hsi
      have q0 : wr.cell? ⟨b, off + k * 7, none⟩ = some (.int .i64 q.e.k) := hcs 0 _ rfl
      have q1 : wr.cell? ⟨b, off + k * 7 + 1, none⟩ = some (.int .i64 q.e.a) := hcs 1 _ rfl
      have q2 : wr.cell? ⟨b, off + k * 7 + 2, none⟩ = some (.int .i64 q.e.r) := hcs 2 _ rfl
      have q3 : wr.cell? ⟨b, off + k * 7 + 3, none⟩ = some (.int .i64 q.e.i) := hcs 3 _ rfl
      have q4 : wr.cell? ⟨b, off + k * 7 + 4, none⟩ = some (.int .i64 q.e.l) := hcs 4 _ rfl
      have q5 : wr.cell? ⟨b, off + k * 7 + 5, none⟩ = some (.int .i64 q.e.n) := hcs 5 _ rfl
      have q6 : wr.cell? ⟨b, off + k * 7 + 6, none⟩ = some (.slice q.A q.e.d.length q.c) := hcs 6 _ rfl
      have hbl := World.block_lt_of_cell? wr _ q0
      have HRD : Hid (Rd8 wr q.A q.e.d) := Lib.hid hrd.rd
      have HQOK : Hid (N64 q.e.k ∧ N64 q.e.r ∧ N64 q.e.i ∧ N64 q.e.l ∧ N64 q.e.n ∧ q.e.d.length ≤ 140737488355328) := Lib.hid ⟨hrd.ok.k, hrd.ok.r, hrd.ok.i, hrd.ok.l, hrd.ok.n, hrd.ok.d⟩
      clear hcs hrd
      obtain ⟨g4, hg4⟩ : ∃ g4, wr.heap.size = g4 := ⟨_, rfl⟩
      have HG4 := Lib.hid hg4
      obtain ⟨e9, he9⟩ : ∃ e9 : Ev, q.e.at now = e9 := ⟨_, rfl⟩
      obtain ⟨qe, hqe⟩ : ∃ qe, q.e = qe := ⟨_, rfl⟩
      have HQK : Hid (qe.k = q.e.k) := Lib.hid (by rw [hqe])
      have HQE := Lib.hid hqe
      clear hqe
      have HE9 : Hid (e9.k = q.e.k ∧ e9.a = now ∧ e9.r = q.e.r ∧ e9.i = q.e.i ∧ e9.l = q.e.l ∧ e9.n = q.e.n ∧ e9.d = q.e.d) := Lib.hid (by rw [← he9]; exact ⟨rfl, rfl, rfl, rfl, rfl, rfl, rfl⟩)
      have HNX2 : Hid (FS.lay1 now si q.e = (si.1.add e9, si.2 ++ (if ((si.1.add e9).out e9).k = 0 then [] else [(si.1.add e9).out e9]))) := Lib.hid (by unfold FS.lay1; rw [he9])
      clear he9
      generalize q.e.k = x0 at *
      generalize q.e.a = x1 at *
      generalize q.e.r = x2 at *
      generalize q.e.i = x3 at *
      generalize q.e.l = x4 at *
      generalize q.e.n = x5 at *
      generalize hd6 : q.e.d = d at *
      obtain ⟨dl, hdl⟩ : ∃ dl, d.length = dl := ⟨_, rfl⟩
      have HDL := Lib.hid hdl
      rw [hdl] at q6
      clear hdl hd6
      generalize q.A = pA at *
      generalize q.c = pc at *
      obtain ⟨W4, hW4⟩ : ∃ W4, wr.alloc (.cells #[.int .i64 x0, .int .i64 x1, .int .i64 x2, .int .i64 x3, .int .i64 x4, .int .i64 x5, .slice pA dl pc] 75) = W4 := ⟨_, rfl⟩
      have F4 : Hid (Fr (fun _ => False) wr W4) := Lib.hid (by rw [← hW4]; exact (Fr.refl _ _).alloc _)
      have K4 : Hid (Bk W4 g4 75 #[.int .i64 x0, .int .i64 x1, .int .i64 x2, .int .i64 x3, .int .i64 x4, .int .i64 x5, .slice pA dl pc]) := Lib.hid (by rw [← hW4, ← hg4]; exact Bk.new _ _ _)
      have m6 : W4.cell? ⟨g4, 6, none⟩ = some (.slice pA dl pc) := K4.out.cell 6
      have CC := Lib.hid (clone_any pA dl pc d W4 (HRD.out.fr F4.out (fun _ _ _ h => h)) HDL.out (by have := HQOK.out.2.2.2.2.2; have := HDL.out; omega))
      go_wp2_with fail
      clear hW4 hg4 q0 q1 q2 q3 q4 q5 q6 m6
      refine CC.out.mono ?_; rintro e w5 ⟨A7, c7, rfl, ho7, hf7, hn7⟩
      have HO7 := Lib.hid ho7
      have HF7 := Lib.hid (F4.out.trans hf7 (fun _ _ h => h))
      have HN7 : Hid (∀ k, (Value.slice A7 dl c7).ownBlock = some k → W4.heap.size ≤ k) := Lib.hid hn7
      have K5 := Lib.hid (K4.out.fr hf7 (fun h => h))
      clear ho7 hf7 hn7 CC
      have z1 : w5.cell? ⟨g4, 1, none⟩ = some (.int .i64 x1) := K5.out.cell 1
      have z6 : w5.cell? ⟨g4, 6, none⟩ = some (.slice pA dl pc) := K5.out.cell 6
      have f1 : w5.frozen? ⟨g4, 1, none⟩ = false := K5.out.frozen 1
      have f6 : w5.frozen? ⟨g4, 6, none⟩ = false := K5.out.frozen 6
      obtain ⟨W6, hW6⟩ : ∃ W6, (w5.setCell ⟨g4, 1, none⟩ (.int .i64 now)).setCell ⟨g4, 6, none⟩ (.slice A7 dl c7) = W6 := ⟨_, rfl⟩
      have K6 : Hid (Bk W6 g4 75 #[.int .i64 x0, .int .i64 now, .int .i64 x2, .int .i64 x3, .int .i64 x4, .int .i64 x5, .slice A7 dl c7]) := Lib.hid (by rw [← hW6]; exact (K5.out.set 1 (.int .i64 now)).set 6 (.slice A7 dl c7))
      have S56 : Hid (Fr (fun x => x = g4) w5 W6) := Lib.hid (by rw [← hW6]; exact Fr.setCell (S := fun x => x = g4) (p := ⟨g4, 6, none⟩) (Fr.setCell (S := fun x => x = g4) (p := ⟨g4, 1, none⟩) (Fr.refl _ _) (fun _ => rfl) _) (fun _ => rfl) _)
      have F6 : Hid (Fr (fun _ => False) wr W6) := Lib.hid (HF7.out.trans S56.out (fun x hx e => by have e' : x = g4 := e; have := HG4.out; omega))
      obtain ⟨p, hp⟩ : ∃ p : VL, p = ⟨e9, A7, c7⟩ := ⟨_, rfl⟩
      have HPE : Hid (p.e = e9 ∧ p.val = .agg #[.int .i64 x0, .int .i64 now, .int .i64 x2, .int .i64 x3, .int .i64 x4, .int .i64 x5, .slice A7 dl c7] ∧ p.bv = .slice A7 dl c7) := Lib.hid (by
        obtain ⟨h0, h1, h2, h3, h4, h5, h6⟩ := HE9.out
        rw [hp]
        unfold VL.val VL.cells VL.bv
        simp only [h0, h1, h2, h3, h4, h5, h6, HDL.out]
        refine ⟨?_, ?_, ?_⟩ <;> first | trivial | rfl)
      have HOW : Hid (OwV W6 p) := Lib.hid ⟨by
          rw [HPE.out.2.2, HPE.out.1, HE9.out.2.2.2.2.2.2]
          exact HO7.out.fr S56.out (fun k hk e => by
            have e' : k = g4 := e
            have := HN7.out k hk; have := K4.out.lt; omega), by
          obtain ⟨h0, h1, h2, h3, h4, h5, h6⟩ := HE9.out
          have hq := HQOK.out
          exact ⟨by rw [HPE.out.1, h0]; exact hq.1, by rw [HPE.out.1, h1]; have := HNOW.out; exact ⟨by omega, by omega⟩, by rw [HPE.out.1, h2]; exact hq.2.1, by rw [HPE.out.1, h3]; exact hq.2.2.1, by rw [HPE.out.1, h4]; exact hq.2.2.2.1, by rw [HPE.out.1, h5]; exact hq.2.2.2.2.1, by rw [HPE.out.1, h6]; exact hq.2.2.2.2.2⟩⟩
      have HEB : Hid (evB p.e) := Lib.hid (by
        obtain ⟨h0, h1, h2, h3, h4, h5, h6⟩ := HE9.out
        rw [HPE.out.1]
        unfold evB
        rw [h1, h5]
        exact ⟨HNOW.out.1, HNOW.out.2, HAT.out.1.1, HAT.out.1.2⟩)
      have HPB : Hid (∀ k, p.bv.ownBlock = some k → w.heap.size ≤ k) := Lib.hid (fun k hk => by
        rw [HPE.out.2.2] at hk
        have := HN7.out k hk; have := HLR.out.fr.size; have := F4.out.size; omega)
      have CA := Lib.hid (addF_any (HLR.out.fl.fr F6.out (fun _ _ h => h)) p HOW.out HEB.out (by have := HN.out; omega))
      rw [HPE.out.2.1, HPE.out.1] at CA
      have c0 : W6.cell? ⟨g4, 0, none⟩ = some (.int .i64 x0) := K6.out.cell 0
      have c1 : W6.cell? ⟨g4, 1, none⟩ = some (.int .i64 now) := K6.out.cell 1
      have c2 : W6.cell? ⟨g4, 2, none⟩ = some (.int .i64 x2) := K6.out.cell 2
      have c3 : W6.cell? ⟨g4, 3, none⟩ = some (.int .i64 x3) := K6.out.cell 3
      have c4 : W6.cell? ⟨g4, 4, none⟩ = some (.int .i64 x4) := K6.out.cell 4
      have c5 : W6.cell? ⟨g4, 5, none⟩ = some (.int .i64 x5) := K6.out.cell 5
      have c6 : W6.cell? ⟨g4, 6, none⟩ = some (.slice A7 dl c7) := K6.out.cell 6
      clear hp
      go_wp2_with fail
      clear hW6 z1 z6 f1 f6 c0 c1 c2 c3 c4 c5 c6
      refine CA.out.mono ?_; rintro e w7 ⟨rfl, A8, c8, mo8, D8, har⟩
      have HAR := Lib.hid har
      clear har CA
      have HAP : Hid (∀ x, AF g bm (.slice A' (n + k) c') x → x < g4) := Lib.hid (fun x hx => by
        rcases hx with rfl | rfl | e
        · have := HLR.out.fl.blk.lt; have := HG4.out; omega
        · have := (HLR.out.fl.map _ rfl).1.lt; have := HG4.out; omega
        · have := HLR.out.fl.own.row.lt e; have := HG4.out; omega)
      have K7 := Lib.hid (K6.out.fr HAR.out.fr (fun e => by have := HAP.out _ e; omega))
      have HOU7 : Hid (OwnO w7 (.slice Ao m co) os) := Lib.hid ((HLR.out.ou.fr0 F6.out).fr HAR.out.fr (HLR.out.ou.fr0 F6.out |>.apart (HLR.out.fl.blk.fr F6.out (fun h => h)) ((HLR.out.fl.map _ rfl).1.fr F6.out (fun h => h)) (HLR.out.fl.own.fr0 F6.out)))
      have HPR : Hid (RdV w7 (fun k => p.bv.ownBlock = some k) p) := Lib.hid (HAR.out.fl.own.each p (by simp)).rdE
      have CO := Lib.hid (outF_any HAR.out.fl (by omega) p HPR.out HEB.out (fun h8 => by
        rw [HPE.out.1, HE9.out.2.2.1]
        rw [HPE.out.1, HE9.out.1] at h8
        exact HAT.out.2.1 h8))
      rw [HPE.out.2.1, HPE.out.1] at CO
      have c0 : w7.cell? ⟨g4, 0, none⟩ = some (.int .i64 x0) := K7.out.cell 0
      have c1 : w7.cell? ⟨g4, 1, none⟩ = some (.int .i64 now) := K7.out.cell 1
      have c2 : w7.cell? ⟨g4, 2, none⟩ = some (.int .i64 x2) := K7.out.cell 2
      have c3 : w7.cell? ⟨g4, 3, none⟩ = some (.int .i64 x3) := K7.out.cell 3
      have c4 : w7.cell? ⟨g4, 4, none⟩ = some (.int .i64 x4) := K7.out.cell 4
      have c5 : w7.cell? ⟨g4, 5, none⟩ = some (.int .i64 x5) := K7.out.cell 5
      have c6 : w7.cell? ⟨g4, 6, none⟩ = some (.slice A7 dl c7) := K7.out.cell 6
      clear K7
      go_wp2_with fail
      clear c0 c1 c2 c3 c4 c5 c6
      refine CO.out.mono ?_; rintro e w8 ⟨x, rfl, hxo, ho8, hn8, hf8⟩
      -- what stands behind the round
      have HTOT : Hid (Fr (AF g bm (.slice A n c)) w w7) := Lib.hid ((HLR.out.fr.trans F6.out (fun _ _ h => h.elim)).trans HAR.out.fr (fun y hy e => by
        rcases e with e | e | e
        · exact .inl e
        · exact .inr (.inl e)
        · rcases HLR.out.mv with e2 | ⟨z, e2, hz⟩
          · exact .inr (.inr (e2 ▸ e))
          · rw [e2] at e; injection e with e; omega))
      have HMV : Hid (Moved w (.slice A n c) (.slice A8 (n + k + 1) c8)) := Lib.hid (by
        have h1 : Moved wr (.slice A' (n + k) c') (.slice A8 (n + k + 1) c8) := HAR.out.mv.elim .inl (fun ⟨z, e, hz⟩ => .inr ⟨z, e, Nat.le_trans F6.out.size hz⟩)
        exact HLR.out.mv.trans h1 HLR.out.fr.size)
      have HNB : Hid (∀ y, VB (.slice A8 (n + k + 1) c8) (ps' ++ [p]) y → VB (.slice A n c) ps y ∨ w.heap.size ≤ y) := Lib.hid (fun y hy => by
        rcases hy with e | ⟨r, hr, e⟩
        · rcases HMV.out with e2 | ⟨z, e2, hz⟩
          · exact .inl (.inl (e2 ▸ e))
          · rw [e2] at e; injection e with e; exact .inr (by omega)
        · rcases List.mem_append.1 hr with hr | hr
          · exact HLR.out.nb y (.inr ⟨r, hr, e⟩)
          · simp at hr; subst hr; exact .inr (HPB.out y e))
      have HMO : Hid (k + 1 < nl → mo8 = some bm) := Lib.hid (fun hkl => by
        have hc := HAT.out.2.2 (by omega)
        have := HAR.out.cl
        rw [HE9.out.1, hc] at this
        simpa using this)
      have HMC : Hid ((∀ e ∈ (ls.take (k + 1)).map VL.e, closesK e.k = false) → mo8 = some bm) := Lib.hid (fun hall => by
        have hc := hall qe (by rw [HTK.out, ← HQE.out]; simp)
        have := HAR.out.cl
        rw [HE9.out.1, ← HQK.out, hc] at this
        simpa using this)
      have HMO2 : Hid (mo8 = none ∨ mo8 = some bm) := Lib.hid (by
        have := HAR.out.cl
        split at this
        · exact .inl this
        · exact .inr this)
      have HF8 := Lib.hid hf8
      have HO8 := Lib.hid ho8
      have HN8 : Hid (∀ k, x.bv.ownBlock = some k → w.heap.size ≤ k) := Lib.hid (fun k hk => Nat.le_trans HTOT.out.size (hn8 k hk))
      have HXO := Lib.hid hxo
      clear hf8 ho8 hn8 hxo CO
      have hxv : x.val = .agg #[.int .i64 x.o.k, .int .i64 x.o.l, .int .i64 x.o.r, .int .i64 x.o.t, .int .i64 x.o.a, .int .i64 x.o.i, .int .i64 x.o.n, .slice x.A x.o.d.length x.c] := rfl
      have HXC : Hid (x.cells = [.int .i64 x.o.k, .int .i64 x.o.l, .int .i64 x.o.r, .int .i64 x.o.t, .int .i64 x.o.a, .int .i64 x.o.i, .int .i64 x.o.n, .slice x.A x.o.d.length x.c]) := Lib.hid rfl
      rw [hxv]
      have HKX : Hid (x.o.k = ((si.1.add e9).out e9).k) := Lib.hid (by rw [HXO.out])
      clear hxv
      generalize hx0 : x.o.k = o0 at *
      generalize x.o.l = o1 at *
      generalize x.o.r = o2 at *
      generalize x.o.t = o3 at *
      generalize x.o.a = o4 at *
      generalize x.o.i = o5 at *
      generalize x.o.n = o6 at *
      generalize x.o.d.length = ol at *
      generalize x.A = xA at *
      generalize x.c = xc at *
      clear hx0
      obtain ⟨g9, hg9⟩ : ∃ g9, w8.heap.size = g9 := ⟨_, rfl⟩
      obtain ⟨W9, hW9⟩ : ∃ W9, w8.alloc (.cells #[.int .i64 o0, .int .i64 o1, .int .i64 o2, .int .i64 o3, .int .i64 o4, .int .i64 o5, .int .i64 o6, .slice xA ol xc] 50) = W9 := ⟨_, rfl⟩
      have F9 : Hid (Fr (fun _ => False) w7 W9) := Lib.hid (by rw [← hW9]; exact HF8.out.alloc _)
      have K9 : Hid (Bk W9 g9 50 #[.int .i64 o0, .int .i64 o1, .int .i64 o2, .int .i64 o3, .int .i64 o4, .int .i64 o5, .int .i64 o6, .slice xA ol xc]) := Lib.hid (by rw [← hW9, ← hg9]; exact Bk.new _ _ _)
      have F89 : Hid (Fr (fun _ => False) w8 W9) := Lib.hid (by rw [← hW9]; exact (Fr.refl _ _).alloc _)
      have v0 : W9.cell? ⟨g9, 0, none⟩ = some (.int .i64 o0) := K9.out.cell 0
      have v1 : W9.cell? ⟨g9, 1, none⟩ = some (.int .i64 o1) := K9.out.cell 1
      have v2 : W9.cell? ⟨g9, 2, none⟩ = some (.int .i64 o2) := K9.out.cell 2
      have v3 : W9.cell? ⟨g9, 3, none⟩ = some (.int .i64 o3) := K9.out.cell 3
      have v4 : W9.cell? ⟨g9, 4, none⟩ = some (.int .i64 o4) := K9.out.cell 4
      have v5 : W9.cell? ⟨g9, 5, none⟩ = some (.int .i64 o5) := K9.out.cell 5
      have v6 : W9.cell? ⟨g9, 6, none⟩ = some (.int .i64 o6) := K9.out.cell 6
      have v7 : W9.cell? ⟨g9, 7, none⟩ = some (.slice xA ol xc) := K9.out.cell 7
      have HB9 : Hid (LayR w W9 g bm A n c ps A8 (n + k + 1) c8 (ps' ++ [p]) mo8 D8 (si.1.add e9) (.slice Ao m co) os) := Lib.hid ⟨HAR.out.fl.fr F9.out (fun _ _ h => h), HTOT.out.trans F9.out (fun _ _ h => h.elim), HMV.out, HNB.out, HOU7.out.fr0 F9.out, HLR.out.on, HMO2.out⟩
      clear HOU7 HAR HMV HNB HMO2 HTOT HLR
      by_cases hz : o0 = 0
      · have d0 : (o0 == 0) = true := by simpa using hz
        have d1 : (o0 != 0) = false := by rw [bne, d0]; rfl
        have HZ : Hid (((si.1.add e9).out e9).k = 0) := Lib.hid (by rw [← HKX.out]; exact hz)
        clear hz
        go_wp2
        clear hW9 hg9
        go_roundw
        case rel => exact ⟨k + 1, m, A8, c8, ps' ++ [p], mo8, D8, Ao, co, os, by first | rfl | (go_num; done) | (congr 1; omega), rfl, by omega, by omega, ⟨HLEN.out, by rw [HNX.out, HNX2.out, if_pos HZ.out, List.append_nil]; exact HOS.out, by rw [HNX.out, HNX2.out]; exact HB9.out, HMO.out, HMC.out⟩⟩
        case measure => (simp [intOf]) <;> omega
      · have d0 : (o0 == 0) = false := by simpa using hz
        have d1 : (o0 != 0) = true := by rw [bne, d0]; rfl
        have HZ : Hid (¬ ((si.1.add e9).out e9).k = 0) := Lib.hid (by rw [← HKX.out]; exact hz)
        have HXW : Hid (Own8 W9 5 x.bv x.o.d) := Lib.hid (by rw [HXO.out]; exact HO8.out.fr F89.out (fun _ _ h => h))
        clear hz
        go_wp2_with (at_builtin; (refine wpList_appendR teO rfl (.tmp 42) (.tmp 44) rfl (.slice Ao m co) m (olc os) rfl (by have h9 := (HB9.out.ou.fr0 ((Fr.refl _ W9).alloc (.cells #[.int .i64 o0, .int .i64 o1, .int .i64 o2, .int .i64 o3, .int .i64 o4, .int .i64 o5, .int .i64 o6, .slice xA ol xc] 50))).row; rw [HLEN.out] at h9; exact h9) _ 1 [.int .i64 o0, .int .i64 o1, .int .i64 o2, .int .i64 o3, .int .i64 o4, .int .i64 o5, .int .i64 o6, .slice xA ol xc] rfl (sl1O rfl (Bk.new _ _ _)) (by intro u hu; simp at hu; rcases hu with rfl | rfl | rfl | rfl | rfl | rfl | rfl | rfl <;> rfl) (by unfold maxLen; omega) (by omega) ?_; intro A6 c6 w6 hr6 hf6 hm6; have FA : Fr (fun _ => False) W9 (W9.alloc (.cells #[.int .i64 o0, .int .i64 o1, .int .i64 o2, .int .i64 o3, .int .i64 o4, .int .i64 o5, .int .i64 o6, .slice xA ol xc] 50)) := (Fr.refl _ _).alloc _; have HP6 : Hid (OwnO w6 (.slice A6 (m + 1) c6) (os ++ [x])) := Lib.hid ((HB9.out.ou.fr0 FA).put (HXW.out.fr FA (fun _ _ h => h)) (by rw [HXC.out]; exact hr6) HLEN.out hf6); have HR6 : Hid (Fr (fun z => (Value.slice Ao m co).ownBlock = some z) W9 w6) := Lib.hid ((FA.mono (fun _ _ h => h.elim)).trans hf6 (fun _ _ h => h)); have HM6 : Hid (Moved W9 (.slice Ao m co) (.slice A6 (m + 1) c6)) := Lib.hid (hm6.elim .inl (fun ⟨z, e, hz⟩ => .inr ⟨z, e, Nat.le_trans FA.size hz⟩)); clear hr6 hf6 hm6 FA))
        clear hW9 hg9
        go_roundw
        case rel =>
          refine ⟨k + 1, m + 1, A8, c8, ps' ++ [p], mo8, D8, A6, c6, os ++ [x], by first | rfl | (go_num; done) | (congr 1; omega), rfl, by omega, by omega, ⟨by simp [HLEN.out], ?_, ?_, HMO.out, HMC.out⟩⟩
          · rw [HNX.out, HNX2.out, if_neg HZ.out, List.map_append, HOS.out, List.map_singleton, HXO.out]
          · rw [HNX.out, HNX2.out]
            have hb := HB9.out
            refine ⟨hb.fl.fr HR6.out (fun y hy e => ?_), hb.fr.trans HR6.out (fun y hy e => by have := hb.on y (.inl e); omega), hb.mv, hb.nb, HP6.out, fun y hy => ?_, hb.mo⟩
            · obtain ⟨cur, hbk⟩ := hb.ou.row.bk e
              rcases hy with rfl | e2 | e2
              · exact Bk.ne hbk hb.fl.blk (by decide) rfl
              · exact (hb.fl.map _ e2).1.ne hbk rfl
              · obtain ⟨t, cur2, hb2, ht2⟩ := hb.fl.own.bk e2
                rcases ht2 with rfl | rfl
                · exact Bk.ne hbk hb2 (by decide) rfl
                · exact Bk.ne hbk hb2 (by decide) rfl
            · rcases hy with e | ⟨r, hr, e⟩
              · rcases HM6.out with e2 | ⟨z, e2, hz⟩
                · exact hb.on y (.inl (e2 ▸ e))
                · rw [e2] at e; injection e with e; have := hb.fr.size; omega
              · rcases List.mem_append.1 hr with hr | hr
                · exact hb.on y (.inr ⟨r, hr, e⟩)
                · simp at hr; subst hr; exact HN8.out y e
        case measure => (simp [intOf]) <;> omega
    · obtain rfl : k = nl := by omega
      have hlt' : ¬ (k : Int) < (k : Int) := by omega
      have HZ := Lib.hid HK.out
      clear hlt HK
      go_wp2
      go_ret2
      obtain ⟨z1, z2, z3, z4, z5⟩ := HZ.out
      rw [List.take_of_length_le (by rw [HL.out]; exact Nat.le_refl _)] at z2 z3 z5
      exact ⟨A', c', ps', mo', D', Ao, m, co, rfl, os, z1, z2, z3, by simpa using z5⟩
end Go.Proofs.YtkinbcmnfpkncaaDoor
