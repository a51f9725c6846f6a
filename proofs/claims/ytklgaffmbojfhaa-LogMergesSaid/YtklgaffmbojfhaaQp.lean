/- LogMerges: what the log keeps. -/
import Derived.Test.YtklgaffmbojfhaaQo
namespace Go.Proofs.Ytklgaffmbojfhaa
open Go.RowKit

theorem riseL_drop : ∀ {m : Int} {l : List En} {k : Nat}, riseL m l = true → k < l.length → m ≤ (l.getD k default).t ∧ riseL (l.getD k default).t (l.drop (k + 1)) = true
  | m, [], k, _, hk => by simp at hk
  | m, e :: l, 0, h, _ => by
    unfold riseL at h
    simp at h
    exact ⟨h.1, h.2⟩
  | m, e :: l, k + 1, h, hk => by
    unfold riseL at h
    simp at h
    obtain ⟨h1, h2⟩ := riseL_drop (k := k) h.2 (by simpa using hk)
    exact ⟨Int.le_trans h.1 h1, h2⟩
theorem riseL_take : ∀ {m : Int} {l : List En} (j : Nat), riseL m l = true → riseL m (l.take j) = true
  | _, [], _, _ => by simp [riseL]
  | _, _ :: _, 0, _ => by simp [riseL]
  | m, e :: l, j + 1, h => by
    unfold riseL at h
    simp at h
    rw [List.take_succ_cons]
    unfold riseL
    rw [riseL_take j h.2]
    simp [h.1]
theorem rise_piece {l : List En} (h : rise 0 l = true) (fr m : Nat) (hf : fr ≤ l.length) : rise ((⟨0, 0, l⟩ : LG).term (fr : Int)) ((l.drop fr).take m) = true := by
  have h' : riseL 1 l = true := h
  rcases Nat.eq_zero_or_pos fr with rfl | h0
  · rw [show (⟨0, 0, l⟩ : LG).term ((0 : Nat) : Int) = 0 from (⟨0, 0, l⟩ : LG).term_self]
    exact riseL_take m h'
  · have ht : (⟨0, 0, l⟩ : LG).term (fr : Int) = (l.getD (fr - 1) default).t := by
      have := LG.term_nat (s := ⟨0, 0, l⟩) h0 hf
      simpa using this
    rw [ht]
    obtain ⟨h1, h2⟩ := riseL_drop (k := fr - 1) h' (by omega)
    unfold rise
    rw [show max (l.getD (fr - 1) default).t 1 = (l.getD (fr - 1) default).t by omega]
    rw [show fr - 1 + 1 = fr by omega] at h2
    exact riseL_take m h2
theorem LG.like_spec {s : LG} : ∀ {l : List En} {i : Int} {j : Nat}, j < s.like i l → s.mat (i + 1 + (j : Int)) (l.getD j default).t = true
  | [], _, _, h => by simp [LG.like] at h
  | e :: l, i, j, h => by
    unfold LG.like at h
    split at h
    · rename_i hm
      cases j with
      | zero => simpa using hm
      | succ j =>
        have h1 := LG.like_spec (s := s) (l := l) (i := i + 1) (j := j) (by omega)
        rw [show i + 1 + ((j + 1 : Nat) : Int) = i + 1 + 1 + (j : Int) by omega]
        simpa using h1
    · omega
theorem getD_app_l {a b : List En} {j : Nat} (h : j < a.length) : (a ++ b).getD j default = a.getD j default := by
  simp [List.getD, List.getElem?_append_left h]
theorem getD_app_r {a b : List En} {j : Nat} (h : a.length ≤ j) : (a ++ b).getD j default = b.getD (j - a.length) default := by
  simp [List.getD, List.getElem?_append_right h]
theorem getD_take {l : List En} {a j : Nat} (h : j < a) : (l.take a).getD j default = l.getD j default := by
  simp [List.getD, List.getElem?_take_of_lt h]
theorem getD_drop' {l : List En} {a j : Nat} : (l.drop a).getD j default = l.getD (a + j) default := by
  simp [List.getD]

/-- What holds of the log: each entry is its own first one there, or the leader's. -/
structure MI (mine theirs : List En) (L : Nat) (s : LG) : Prop where
  ix : s.ix = 0
  len : s.l.length ≤ L
  prov : ∀ j, j < s.l.length → (j < mine.length ∧ s.l.getD j default = mine.getD j default) ∨ s.l.getD j default = theirs.getD j default
theorem MI.start (mine theirs : List En) (L : Nat) (h : mine.length ≤ L) : MI mine theirs L ⟨0, 0, mine⟩ := ⟨rfl, h, fun _ hj => .inl ⟨hj, rfl⟩⟩
theorem MI.merge {mine theirs : List En} {L : Nat} {s : LG} (hI : MI mine theirs L s) {fr m : Nat} (hfm : fr + m ≤ theirs.length) (hL : theirs.length ≤ L) (hm : s.mok (fr : Int) ((theirs.drop fr).take m) = true) :
    MI mine theirs L (s.merge (fr : Int) ((theirs.drop fr).take m)) ∧ ∀ k, fr ≤ k → k < fr + m → k < (s.merge (fr : Int) ((theirs.drop fr).take m)).l.length ∧ ((s.merge (fr : Int) ((theirs.drop fr).take m)).l.getD k default).t = (theirs.getD k default).t := by
  obtain ⟨pc, hpc⟩ : ∃ pc, (theirs.drop fr).take m = pc := ⟨_, rfl⟩
  have hpl : pc.length = m := by rw [← hpc, List.length_take, List.length_drop]; omega
  have hpg : ∀ j, j < m → pc.getD j default = theirs.getD (fr + j) default := fun j hj => by rw [← hpc, getD_take hj, getD_drop']
  rw [hpc] at hm ⊢
  have his : s.is (fr : Int) = true := by unfold LG.mok at hm; simp at hm; exact hm.1
  have hfl := LG.is_iff.1 his
  rw [hI.ix] at hfl
  have hli := LG.is_iff.1 (LG.like_is (l := pc) his)
  rw [hI.ix] at hli
  have hle := LG.like_le (s := s) (l := pc) (i := (fr : Int))
  have old : ∀ k, fr ≤ k → k < fr + s.like (fr : Int) pc → k < s.l.length ∧ (s.l.getD k default).t = (theirs.getD k default).t := fun k h1 h2 => by
    have hsp := LG.like_spec (s := s) (l := pc) (i := (fr : Int)) (j := k - fr) (by omega)
    rw [show (fr : Int) + 1 + ((k - fr : Nat) : Int) = (s.ix : Int) + ((k + 1 : Nat) : Int) by rw [hI.ix]; omega] at hsp
    unfold LG.mat at hsp
    simp only [Bool.and_eq_true, decide_eq_true_eq] at hsp
    have hb := LG.is_iff.1 hsp.1
    have hk : k + 1 ≤ s.l.length := by omega
    rw [LG.term_nat (by omega) hk, hpg (k - fr) (by omega)] at hsp
    refine ⟨by omega, ?_⟩
    have h9 := hsp.2
    rw [show k + 1 - 1 = k by omega, show fr + (k - fr) = k by omega] at h9
    exact h9
  by_cases hk : s.like (fr : Int) pc < pc.length
  · obtain ⟨hmg, _⟩ := LG.merge_some hm hk
    rw [hmg]
    obtain ⟨t, ht⟩ : ∃ t, s.like (fr : Int) pc = t := ⟨_, rfl⟩
    have hlo : s.lo (s.mfrom (fr : Int) pc) = fr + t := by unfold LG.lo LG.mfrom; rw [hI.ix, ht]; omega
    rw [ht] at hli hk old
    rw [hlo, ht]
    have htl : (s.l.take (fr + t)).length = fr + t := by rw [List.length_take]; omega
    have hnl : (s.l.take (fr + t) ++ pc.drop t).length = fr + m := by rw [List.length_append, htl, List.length_drop, hpl]; omega
    have hL1 : ∀ k, k < fr + t → (s.l.take (fr + t) ++ pc.drop t).getD k default = s.l.getD k default := fun k h => by rw [getD_app_l (by omega), getD_take h]
    have hL2 : ∀ k, fr + t ≤ k → k < fr + m → (s.l.take (fr + t) ++ pc.drop t).getD k default = theirs.getD k default := fun k h1 h2 => by
      rw [getD_app_r (by omega), htl, getD_drop', hpg _ (by omega)]
      congr 1
      omega
    refine ⟨⟨hI.ix, by simp only; omega, fun j hj => ?_⟩, fun k h1 h2 => ⟨by simp only; omega, ?_⟩⟩
    · simp only at hj ⊢
      rw [hnl] at hj
      by_cases h : j < fr + t
      · rw [hL1 j h]; exact hI.prov j (by omega)
      · exact .inr (hL2 j (by omega) hj)
    · simp only
      by_cases h : k < fr + t
      · rw [hL1 k h]; exact (old k h1 h).2
      · rw [hL2 k (by omega) h2]
  · obtain ⟨hmg, _⟩ := LG.merge_none hm hk
    rw [hmg]
    exact ⟨hI, fun k h1 h2 => old k h1 (by omega)⟩

set_option maxRecDepth 100000 in
set_option maxHeartbeats 1000000 in
theorem fresh_not (A : Option Addr) (n c k : Nat) (ps : List EL) (G : Nat → Prop) (t : Int) (w : World) (h : Es w A n ps G) (hk : k < n) (ht : (ps.getD k default).e.t = t) :
    Calls Try.prog 19 #[.slice A n c, .int .i64 (k : Int), .int .i64 t] w fun e w' => e = .returned (.bool false) ∧ w = w' := by
  obtain ⟨b, off, rfl, e0, _, _⟩ := h.at hk
  rw [ht] at e0
  have h1 : (k : Int) < (n : Int) := by omega
  have h2 : decide ((n : Int) ≤ (k : Int)) = false := decide_eq_false (by omega)
  have h3 : (t == t) = true := by simp
  have h5 : decide (n ≤ k) = false := decide_eq_false (by omega)
  have h4 : (t != t) = false := by simp
  have h0 : (0 : Int) ≤ (k : Int) := by omega
  clear h ht
  go_enter Try.func19, Try.ntmps19
  go_wp2
  go_ret
  exact ⟨rfl, rfl⟩
end Go.Proofs.Ytklgaffmbojfhaa
