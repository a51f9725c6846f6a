/- flow: what FlowTurns calls, by what is known of the run in plain words. -/
import Derived.Test.YtkinbcmnfpkncaaDoorXv
namespace Go.Proofs.YtkinbcmnfpkncaaDoor
open Go.RowKit Go.Maps

/-- t turns were in vain; the next task waits. -/
structure Turned (t : Nat) (s : FS) : Prop where
  len : s.L.length = 2 + 3 * t
  tat : s.tat = 2 + 3 * (t : Int)
  beg : s.beg = 0
  trn : s.turn = t
  late : s.late = false
  st : statL s.L = 1
  fst : (s.L.getD 0 default).l = 0
  last : (s.L.getD (1 + 3 * t) default).a ≤ ((t - 1 : Nat) : Int)
  chk : Bo.new.check s.L = none
  bk : BkS t (bookOf s.L)
/-- It is begun. -/
structure TurnB (t : Nat) (s : FS) : Prop where
  len : s.L.length = 3 + 3 * t
  tat : s.tat = 2 + 3 * (t : Int)
  beg : s.beg = 3 + 3 * (t : Int)
  trn : s.turn = t
  late : s.late = false
  st : statL s.L = 1
  fst : (s.L.getD 0 default).l = 0
  last : (s.L.getD (2 + 3 * t) default).a ≤ t
  chk : Bo.new.check s.L = none
  bk : BkB t (bookOf s.L)
theorem turned0 : Turned 0 sL1 := ⟨rfl, rfl, rfl, rfl, rfl, rfl, rfl, by decide, bkS0.1, bkS0.2⟩
theorem Turned.begun {t : Nat} {s : FS} (h : Turned t s) (ht : t ≤ 100) : TurnB t (s.lay t [evN 3 (2 + 3 * (t : Int)) 0 0]).1 := by
  have hL : (s.lay t [evN 3 (2 + 3 * (t : Int)) 0 0]).1.L = s.L ++ [⟨3, t, 2 + 3 * (t : Int), 0, 0, 0, []⟩] := by simp [FS.lay, FS.lay1, FS.add, FS.out, Ev.at, evN]
  obtain ⟨b1, b2⟩ := h.bk.begun ht
  obtain ⟨c1, c2⟩ := stands_snoc h.chk b1
  refine ⟨?_, ?_, ?_, ?_, ?_, ?_, ?_, ?_, ?_, ?_⟩
  · rw [hL]; simp [h.len]; omega
  · simp [FS.lay, FS.lay1, FS.add, FS.out, Ev.at, evN, h.tat]
  · simp [FS.lay, FS.lay1, FS.add, FS.out, Ev.at, evN, h.len]; omega
  · simp [FS.lay, FS.lay1, FS.add, FS.out, Ev.at, evN, h.trn]
  · simp [FS.lay, FS.lay1, FS.add, FS.out, Ev.at, evN, h.late]
  · rw [hL, statL_snoc]; rfl
  · rw [hL, getD_snoc_lt (by have := h.len; omega)]; exact h.fst
  · rw [hL, getD_snoc_eq (by have := h.len; omega)]; exact Int.le_refl _
  · rw [hL]; exact c1
  · rw [hL, c2]; exact b2
theorem TurnB.vain {t : Nat} {s : FS} (h : TurnB t s) (ht : t ≤ 100) (k n : Int) (hk : k = 5 ∨ k = 6) (hn : 0 ≤ n ∧ n ≤ 10) : Turned (t + 1) (s.lay t (s.vain k n)).1 ∧ (s.lay t (s.vain k n)).2 = [⟨1, 0, 5 + 3 * (t : Int), t + 1, 0, 0, 0, []⟩] := by
  have hs : s.vain k n = [⟨k, 0, 3 + 3 * (t : Int), 0, 0, n, []⟩, ⟨2, 0, 0, 0, 0, (t : Int) + 1, []⟩] := by unfold FS.vain evN evS; rw [h.beg, h.fst, h.trn]
  rw [hs]
  have hL : (s.lay t [⟨k, 0, 3 + 3 * (t : Int), 0, 0, n, []⟩, ⟨2, 0, 0, 0, 0, (t : Int) + 1, []⟩]).1.L = (s.L ++ [⟨k, t, 3 + 3 * (t : Int), 0, 0, n, []⟩]) ++ [⟨2, t, 0, 0, 0, (t : Int) + 1, []⟩] := by
    rcases hk with rfl | rfl <;> simp [FS.lay, FS.lay1, FS.add, FS.out, Ev.at]
  obtain ⟨b1, b2⟩ := h.bk.ended ht k n (.inr hk) hn
  obtain ⟨c1, c2⟩ := stands_snoc h.chk b1
  obtain ⟨b3, b4⟩ := b2.next ht
  obtain ⟨c3, c4⟩ := stands_snoc c1 (by rw [c2]; exact b3)
  refine ⟨⟨?_, ?_, ?_, ?_, ?_, ?_, ?_, ?_, ?_, ?_⟩, ?_⟩
  · rw [hL]; simp [h.len]; omega
  · rcases hk with rfl | rfl <;> (simp [FS.lay, FS.lay1, FS.add, FS.out, Ev.at, h.len]; try omega)
  · rcases hk with rfl | rfl <;> simp [FS.lay, FS.lay1, FS.add, FS.out, Ev.at]
  · rcases hk with rfl | rfl <;> simp [FS.lay, FS.lay1, FS.add, FS.out, Ev.at, h.trn]
  · rcases hk with rfl | rfl <;> simp [FS.lay, FS.lay1, FS.add, FS.out, Ev.at]
  · rw [hL, statL_snoc]; rfl
  · rw [hL, getD_snoc_lt (by simp [h.len]), getD_snoc_lt (by have := h.len; omega)]; exact h.fst
  · rw [hL, getD_snoc_eq (by simp [h.len]; omega)]; show (t : Int) ≤ ((t + 1 - 1 : Nat) : Int); omega
  · rw [hL]; exact c3
  · rw [hL, c4, c2]; exact b4
  · rcases hk with rfl | rfl <;> (simp [FS.lay, FS.lay1, FS.add, FS.out, Ev.at, h.len, h.trn]; try omega)
/-- It begins. -/
theorem beginsK {w0 w : World} {g bm : Nat} {s : FS} {t : Nat} (h : Kept w0 w g bm s) (hc : Turned t s) (ht : t ≤ 100) :
    Calls Tryd.prog 15 #[.pointer (some ⟨g, 0, none⟩), .int .i64 (2 + 3 * (t : Int)), .int .i64 t, .int .i64 t] w fun e w' => (∃ v, e = .returned (.tuple #[v, .int .i64 0])) ∧ ∃ s', TurnB t s' ∧ Kept w0 w' g bm s' := by
  obtain ⟨A, c, ps, D, h1, h2, h3⟩ := h
  refine (decides_ok h1 (by rw [hc.len]; omega) (2 + 3 * (t : Int)) t t (2 + 3 * (t : Int)) (by unfold FS.taskAt; rw [hc.tat, hc.trn, hc.beg, if_pos ⟨rfl, rfl⟩]) (by omega) ⟨by omega, by omega⟩ ⟨by omega, by omega⟩ (by have := hc.last; rw [hc.len]; rw [show 2 + 3 * t - 1 = 1 + 3 * t by omega]; omega) hc.st (by rw [hc.len]; omega)).mono ?_
  rintro e w' ⟨A', c', ps', mo', D', Ao, mo, co, os, rfl, -, -, h4, h5⟩
  obtain rfl := h5 (by intro e he; simp [evN] at he; subst he; rfl)
  exact ⟨⟨_, rfl⟩, _, hc.begun ht, Kept.lay h2 h3 h4⟩
/-- One task comes out. -/
def OneTask (w' : World) (v : Value) (p t : Int) (b : Nat) : Prop := ∃ off co, v = .slice (some ⟨b, off, none⟩) 1 co ∧ w'.cell? ⟨b, off, none⟩ = some (.int .i64 1) ∧ w'.cell? ⟨b, off + 2, none⟩ = some (.int .i64 p) ∧ w'.cell? ⟨b, off + 3, none⟩ = some (.int .i64 t)
theorem KeptB.of {w0 w w' : World} {g bm : Nat} {A : Option Addr} {n c : Nat} {ps : List VL} {A' : Option Addr} {n' c' : Nat} {ps' : List VL} {D' : DV} {s' : FS} {b off co m : Nat} {os : List OL} (hf : Fr (fun _ => False) w0 w) (ha : ∀ y, AF g bm (.slice A n c) y → w0.heap.size ≤ y) (h : LayR w w' g bm A n c ps A' n' c' ps' (some bm) D' s' (.slice (some ⟨b, off, none⟩) m co) os) : KeptB w0 w' g bm s' b := by
  have hap := h.ou.apart h.fl.blk (h.fl.map bm rfl).1 h.fl.own b (.inl rfl)
  obtain ⟨A2, c2, ps2, D2, k1, k2, k3⟩ := Kept.lay hf ha h
  obtain rfl := h.fl.lenL
  have hmv := h.mv
  refine ⟨A', c', ps', D', h.fl, k2, fun y e => ?_, hap⟩
  rcases e with rfl | rfl | e
  · exact ha _ (.inl rfl)
  · exact ha _ (.inr (.inl rfl))
  · rcases hmv with e2 | ⟨z, e2, hz⟩
    · exact ha _ (.inr (.inr (e2 ▸ e)))
    · rw [e2] at e; injection e with e; have := hf.size; omega
/-- It is missed. -/
theorem missK {w0 w : World} {g bm : Nat} {s : FS} {t : Nat} (h : Kept w0 w g bm s) (hc : TurnB t s) (ht : t ≤ 100) :
    Calls Tryd.prog 17 #[.pointer (some ⟨g, 0, none⟩), .int .i64 3, .int .i64 (2 + 3 * (t : Int)), .int .i64 t, .int .i64 t] w fun e w' => ∃ v b, e = .returned (.tuple #[v, .int .i64 0]) ∧ OneTask w' v (5 + 3 * (t : Int)) (t + 1) b ∧ ∃ s', Turned (t + 1) s' ∧ KeptB w0 w' g bm s' b := by
  obtain ⟨A, c, ps, D, h1, h2, h3⟩ := h
  refine (fire_late h1 (by rw [hc.len]; omega) (2 + 3 * (t : Int)) t t (2 + 3 * (t : Int)) (by unfold FS.taskAt; rw [hc.tat, hc.trn, if_pos ⟨rfl, rfl⟩]) (by rw [hc.beg]; omega) ⟨by omega, by omega⟩ (by have := hc.last; rw [hc.len]; rwa [show 3 + 3 * t - 1 = 2 + 3 * t by omega]) hc.st (by rw [hc.len]; omega)).mono ?_
  rintro e w' ⟨A', c', ps', mo', D', Ao, mo, co, os, rfl, hl, ho, h4, h5⟩
  obtain rfl := h5 (by intro e he; simp [FS.vain, evS, evN] at he; rcases he with rfl | rfl <;> rfl)
  obtain ⟨hv, hvo⟩ := hc.vain ht 5 0 (.inl rfl) ⟨by omega, by omega⟩
  rw [hvo] at ho
  obtain ⟨rfl, x, rfl, hx⟩ := one_of hl ho
  obtain ⟨b, off, rfl, hcs⟩ := h4.ou.one
  refine ⟨_, b, rfl, ⟨off, co, rfl, ?_, ?_, ?_⟩, _, hv, KeptB.of h2 h3 h4⟩
  · have := hcs 0 _ rfl; rw [hx] at this; exact this
  · have := hcs 2 _ rfl; rw [hx] at this; exact this
  · have := hcs 3 _ rfl; rw [hx] at this; exact this
/-- It is refused: what it was ended with may not be. -/
theorem badK {w0 w : World} {g bm : Nat} {s : FS} {t : Nat} (h : Kept w0 w g bm s) (hc : TurnB t s) (ht : t ≤ 100) (k : Int) (hk : (kd k).may = false) :
    Calls Tryd.prog 24 #[.pointer (some ⟨g, 0, none⟩), .int .i64 (2 + 3 * (t : Int)), .int .i64 t, .slice (some ⟨w.heap.size, 0, none⟩) 1 1, .int .i64 t] (kdW w k) fun e w' => ∃ v b, e = .returned (.tuple #[v, .int .i64 22]) ∧ OneTask w' v (5 + 3 * (t : Int)) (t + 1) b ∧ ∃ s', Turned (t + 1) s' ∧ KeptB w0 w' g bm s' b := by
  obtain ⟨A, c, ps, D, h1, h2, h3⟩ := h
  have hf := kdW_fr w k
  refine (Decide_bad (h1.fr hf (fun _ _ h => h)) (by rw [hc.len]; omega) (2 + 3 * (t : Int)) t t (2 + 3 * (t : Int)) (by unfold FS.taskAt; rw [hc.tat, hc.trn, if_pos ⟨rfl, rfl⟩]) (by rw [hc.beg]; omega) ⟨by omega, by omega⟩ (by have := hc.last; rw [hc.len]; rwa [show 3 + 3 * t - 1 = 2 + 3 * t by omega]) hc.st (by rw [hc.len]; omega) (kd k) hk w.heap.size 0 1 (kdW_at w k)).mono ?_
  rintro e w' ⟨A', c', ps', D', Ao, mo, co, os, rfl, hl, ho, h4⟩
  obtain ⟨hv, hvo⟩ := hc.vain ht 6 1 (.inr rfl) ⟨by omega, by omega⟩
  rw [hvo] at ho
  obtain ⟨rfl, x, rfl, hx⟩ := one_of hl ho
  obtain ⟨b, off, rfl, hcs⟩ := h4.ou.one
  refine ⟨_, b, rfl, ⟨off, co, rfl, ?_, ?_, ?_⟩, _, hv, KeptB.of (h2.trans hf (fun _ _ h => h)) h3 h4⟩
  · have := hcs 0 _ rfl; rw [hx] at this; exact this
  · have := hcs 2 _ rfl; rw [hx] at this; exact this
  · have := hcs 3 _ rfl; rw [hx] at this; exact this
theorem KeptB.fr {w0 w w' : World} {g bm : Nat} {s : FS} {b : Nat} (h : KeptB w0 w g bm s b) (hf : Fr (fun _ => False) w w') : KeptB w0 w' g bm s b := by
  obtain ⟨A, c, ps, D, h1, h2, h3, h4⟩ := h
  exact ⟨A, c, ps, D, h1.fr hf (fun _ _ h => h), h2.trans hf (fun _ _ h => h), h3, h4⟩
/-- The elder one is stale. -/
theorem staleK {w0 w : World} {g bm : Nat} {s : FS} {t : Nat} (h : Kept w0 w g bm s) (hc : Turned (t + 1) s) (ht : t ≤ 100) :
    Calls Tryd.prog 15 #[.pointer (some ⟨g, 0, none⟩), .int .i64 (2 + 3 * (t : Int)), .int .i64 t, .int .i64 t] w fun e w' => e = .returned (.tuple #[.slice none 0 0, .int .i64 21]) ∧ Fr (fun _ => False) w w' := by
  obtain ⟨A, c, ps, D, h1, h2, h3⟩ := h
  refine decides_stale h1 (by rw [hc.len]; omega) (2 + 3 * (t : Int)) t t 0 0 (by unfold FS.taskAt; rw [hc.tat, hc.trn, if_neg (by push_cast; omega)]) (.inl rfl) ⟨by omega, by omega⟩ (by have := hc.last; rw [hc.len]; rw [show 2 + 3 * (t + 1) - 1 = 1 + 3 * (t + 1) by omega]; omega) hc.st
end Go.Proofs.YtkinbcmnfpkncaaDoor
