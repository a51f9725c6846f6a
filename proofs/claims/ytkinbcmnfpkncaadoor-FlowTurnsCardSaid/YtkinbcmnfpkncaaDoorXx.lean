/- flow: the end of a run behind t turns (FlowTurns). -/
import Derived.Test.YtkinbcmnfpkncaaDoorXw
namespace Go.Proofs.YtkinbcmnfpkncaaDoor
open Go.RowKit Go.Maps

theorem TurnB.closed {t : Nat} {s : FS} (h : TurnB t s) (ht : t ≤ 100) : (s.lay t [evN 4 s.beg 0 0, closeE (kd 5) []]).1.L.length = 5 + 3 * t ∧ statL (s.lay t [evN 4 s.beg 0 0, closeE (kd 5) []]).1.L = 2 ∧ Bo.new.check (s.lay t [evN 4 s.beg 0 0, closeE (kd 5) []]).1.L = none ∧ (s.lay t [evN 4 s.beg 0 0, closeE (kd 5) []]).2.length = 1 := by
  have hL : (s.lay t [evN 4 s.beg 0 0, closeE (kd 5) []]).1.L = (s.L ++ [⟨4, t, 3 + 3 * (t : Int), 0, 0, 0, []⟩]) ++ [⟨20, t, 0, 0, 0, 0, []⟩] := by
    simp [FS.lay, FS.lay1, FS.add, FS.out, Ev.at, evN, closeE, closeK, kd, h.beg]
  obtain ⟨b1, b2⟩ := h.bk.ended ht 4 0 (.inl rfl) ⟨by omega, by omega⟩
  obtain ⟨c1, c2⟩ := stands_snoc h.chk b1
  obtain ⟨c3, -⟩ := stands_snoc c1 (by rw [c2]; exact b2.closes ht)
  refine ⟨?_, ?_, ?_, (lay_closes s t 5 ⟨by omega, by omega⟩).2⟩
  · rw [hL]; simp [h.len]; omega
  · rw [hL, statL_snoc]; rfl
  · rw [hL]; exact c3
/-- It closes; what is there is a history. -/
theorem endK {w0 w : World} {g bm : Nat} {s : FS} {t : Nat} (h : Kept w0 w g bm s) (hM : MadeT w0) (hc : TurnB t s) (ht : t ≤ 100) :
    Calls Tryd.prog 24 #[.pointer (some ⟨g, 0, none⟩), .int .i64 (2 + 3 * (t : Int)), .int .i64 t, .slice (some ⟨w.heap.size, 0, none⟩) 1 1, .int .i64 t] (kdW w 5) fun e w' => (∃ v, e = .returned (.tuple #[v, .int .i64 0])) ∧ Fr (fun _ => False) w0 w' ∧ ∃ A c ps mo D s', FlM w' g A s'.L.length c ps mo D s' ∧ s'.L.length = 5 + 3 * t ∧ statL s'.L = 2 ∧ Bo.new.check s'.L = none := by
  obtain ⟨A, c, ps, D, h1, h2, h3⟩ := h
  have hf := kdW_fr w 5
  have h9 := h1.fr hf (fun _ _ h => h)
  obtain ⟨e1, e2, e3, e4⟩ := hc.closed ht
  refine (Decide_close h9 (by rw [hc.len]; omega) (hM.fr (h2.trans hf (fun _ _ h => h)) (fun h => h)) (2 + 3 * (t : Int)) t t (2 + 3 * (t : Int)) (by unfold FS.taskAt; rw [hc.tat, hc.trn, if_pos ⟨rfl, rfl⟩]) (by rw [hc.beg]; omega) hc.late ⟨by omega, by omega⟩ (by have := hc.last; rw [hc.len]; rwa [show 3 + 3 * t - 1 = 2 + 3 * t by omega]) hc.st (by rw [hc.len]; omega) (G := fun _ => False) (kd 5) [] (.inl rfl) rfl (Rd8.nil _ _) rfl (by show (0 : Nat) ≤ 140737488355328; omega) (fun ad e => by cases e) i64z i64z i64z ⟨Int.le_refl _, by show (0 : Int) ≤ 1099511627776; omega⟩ (fun _ h => h.elim) (fun _ h => h.elim) w.heap.size 0 1 (kdW_at w 5)).mono ?_
  rintro e w' ⟨A', c', ps', mo', D', Ao, mo, co, os, rfl, hl, ho, h4, h5⟩
  refine ⟨⟨_, rfl⟩, (h2.trans hf (fun _ _ h => h)).trans h4.fr (fun y hy e => by have := h3 y e; omega), A', c', ps', mo', D', _, ?_, e1, e2, e3⟩
  have := h4.fl
  rwa [← h4.fl.lenL] at this
end Go.Proofs.YtkinbcmnfpkncaaDoor
