/- Insert and Delete of a row of ints, as they are wanted here. -/
import Derived.Test.YtdfkoehcmgcoiaaJs
namespace Go.Proofs.Ytdfkoehcmgcoiaa
open Go.Shelf Go.RowKit Go.Lib

theorem IV_one' (r : List Int) : ∀ u ∈ r.map IV, u.oneCell' = true := IV_one r
theorem Bk.shape {w : World} {g : Nat} {t : TypeId} {cs : Array Value} (h : Bk w g t cs) : w.shape? g = some (t, cs.size) := by
  unfold Bk at h; simp [World.shape?, h]
theorem zero_size (n : Nat) : (Builtin.zeroCells (Value.int .i64 0).cells n).size = n := by simp [Builtin.zeroCells, Value.cells]
/-- What a row is told by. -/
theorem RI.mk {w : World} {r : List Int} {b off cap n : Nat} {cur : Array Value} (hb : Bk w b 3 cur) (hn : n = r.length) (hc1 : r.length ≤ cap) (hc2 : cap ≤ maxLen) (hc3 : off + cap ≤ cur.size) (hc4 : ∀ j (h : j < r.length), cur[off + j]? = some (IV r[j])) :
    RI w (.slice (some ⟨b, off, none⟩) n cap) r := by
  subst hn
  refine ⟨by simp, .inr ⟨b, off, cap, cur, rfl, hb, hc1, hc2, by omega, fun j hj => ?_⟩⟩
  have hj' : j < r.length := by simpa using hj
  rw [hc4 j hj']; simp [hj']
theorem RI.cases {w : World} {v : Value} {r : List Int} (h : RI w v r) : (v = .slice none 0 0 ∧ r = []) ∨ ∃ b off cap cur, v = .slice (some ⟨b, off, none⟩) r.length cap ∧ Bk w b 3 cur ∧ r.length ≤ cap ∧ cap ≤ 9223372036854775807 ∧ off + cap ≤ cur.size ∧ ∀ j (h : j < r.length), cur[off + j]? = some (IV r[j]) := by
  rcases h.2 with ⟨rfl, h0⟩ | ⟨b, off, cap, cur, rfl, hb, hc1, hc2, hc3, hc4⟩
  · exact .inl ⟨rfl, List.eq_nil_of_length_eq_zero h0⟩
  · refine .inr ⟨b, off, cap, cur, rfl, hb, hc1, by unfold maxLen at hc2; omega, by omega, fun j hj => ?_⟩
    rw [hc4 j (by simpa using hj)]; simp [hj]
theorem ins_at (r : List Int) (s : Int) (j : Nat) : (insS r s)[j]? = if j < posR r s then r[j]? else if j = posR r s then some s else r[j - 1]? := by
  have hp := posR_le r s
  unfold insS
  by_cases h1 : j < posR r s
  · rw [if_pos h1, List.getElem?_append_left (by simp; omega), List.getElem?_take, if_pos h1]
  · rw [if_neg h1, List.getElem?_append_right (by simp; omega)]
    have e : (r.take (posR r s)).length = posR r s := by simp; omega
    rw [e]
    by_cases h2 : j = posR r s
    · subst h2; simp
    · rw [if_neg h2]
      obtain ⟨k, rfl⟩ : ∃ k, j = posR r s + 1 + k := ⟨j - posR r s - 1, by omega⟩
      rw [show posR r s + 1 + k - posR r s = k + 1 by omega, List.getElem?_cons_succ, List.getElem?_drop]
      congr 1; omega
theorem ins_end (r : List Int) (s : Int) (h : posR r s = r.length) : insS r s = r ++ [s] := by
  unfold insS; rw [h]; simp

/-- Insert of one number, that lies in a block of its own. -/
theorem insert_any {w : World} {v : Value} {r : List Int} {vb : Nat} {s : Int} (h : RI w v r) (hvb : Bk w vb 3 #[.int .i64 s]) (hne : v.ownBlock ≠ some vb) (hl : r.length ≤ 1048576) :
    Calls Try.prog 35 #[v, .int .i64 (posR r s : Nat), .slice (some ⟨vb, 0, none⟩) 1 1] w fun e w' => ∃ v', e = .returned v' ∧ RI w' v' (insS r s) ∧ Fr (fun k => v.ownBlock = some k) w w' ∧ Moved w v v' := by
  have hp := posR_le r s
  have hvs : ∀ (j : Nat) (u : Value), [IV s][j]? = some u → w.cell? ⟨vb, 0 + j, none⟩ = some u := fun j u hu => by
    match j with
    | 0 => rw [hvb.cell]; simpa [IV] using hu
    | j + 1 => simp at hu
  have h1v : ∀ u ∈ [IV s], u.oneCell' = true := IV_one [s]
  rcases h.cases with ⟨rfl, rfl⟩ | ⟨b, off, cap, cur, rfl, hb, hc1, hc2, hc3, hc4⟩
  · refine (Any2.slices_Insert_int_end_grow Try.layD21 none 0 0 vb 0 1 1 [] [IV s] w (by omega) (by omega) (by omega) (by omega) rfl rfl (fun _ => rfl) (fun _ h => by cases h) hvs h1v).mono ?_
    rintro e w' ⟨rfl, rfl⟩
    have hg := grownCap_ge w (0 + 1) 0 3
    have hm := grownCap_le_maxLen w (0 + 1) 0 3 (by unfold maxLen; omega)
    refine ⟨_, rfl, RI.mk (Bk.new w.drew 3 _) rfl (by rw [ins_len]; exact hg) hm (by simp [zero_size]; omega) (fun j hj => ?_), ((Fr.refl _ _).drew).alloc _, .inr ⟨_, rfl, Nat.le_refl _⟩⟩
    have : j = 0 := by rw [ins_len] at hj; simp at hj; omega
    subst this
    simp only [insS, posR, List.countP_nil, List.take_nil, List.drop_nil, List.nil_append, List.getElem_cons_zero, Nat.zero_add]
    rw [Array.getElem?_append_left (by simp)]
    rfl
  · have hcs : ∀ (j : Nat) (u : Value), (r.map IV)[j]? = some u → w.cell? ⟨b, off + j, none⟩ = some u := fun j u hu => by
      have hj : j < r.length := by have := (List.getElem?_eq_some_iff.1 hu).1; simpa using this
      rw [hb.cell, hc4 j hj]
      simp [hj] at hu
      rw [← hu]
    have hbv : vb ≠ b := fun e => hne (by rw [e]; rfl)
    by_cases hend : posR r s = r.length
    · by_cases hroom : r.length + 1 ≤ cap
      · rw [hend]
        refine (Any2.slices_Insert_int_end_room Try.layD21 b off r.length cap vb 0 1 1 [IV s] w (by omega) hroom hc2 rfl (fun j hj => hb.there (by omega)) (fun j hj => hb.frozen _) hvs h1v).mono ?_
        rintro e w' ⟨rfl, rfl⟩
        refine ⟨_, rfl, RI.mk (cur := lay cur (off + r.length) [IV s]) (Bk.setCells _ _ hb) (ins_len _ _).symm (by rw [ins_len]; exact hroom) (by unfold maxLen; omega) (by rw [lay_size]; omega) (fun j hj => ?_), Fr.setCells _ _ (Fr.refl _ _) (fun _ => rfl), .inl rfl⟩
        rw [ins_len] at hj
        have hq := ins_end r s hend
        by_cases hjr : j < r.length
        · rw [lay_out _ _ _ _ (.inl (by omega)), hc4 j hjr]
          simp only [hq, List.getElem_append_left hjr]
        · have : j = r.length := by omega
          subst this
          rw [show off + r.length = off + r.length + 0 by omega, lay_in _ _ _ 0 (by simp) (by simp; omega)]
          simp [hq]
      · rw [hend]
        refine (Any2.slices_Insert_int_end_grow Try.layD21 (some ⟨b, off, none⟩) r.length cap vb 0 1 1 (r.map IV) [IV s] w (by omega) hc1 (by omega) (by omega) (by simp) rfl (fun h => by cases h) (fun a ha j u hu => ?_) hvs h1v).mono ?_
        · cases ha; rw [add_at]; exact hcs j u hu
        · rintro e w' ⟨rfl, rfl⟩
          have hg := grownCap_ge w (r.length + 1) cap 3
          have hm := grownCap_le_maxLen w (r.length + 1) cap 3 (by unfold maxLen; omega)
          refine ⟨_, rfl, RI.mk (Bk.new w.drew 3 _) (ins_len _ _).symm (by rw [ins_len]; exact hg) hm (by simp [zero_size]; omega) (fun j hj => ?_), ((Fr.refl _ _).drew).alloc _, .inr ⟨_, rfl, Nat.le_refl _⟩⟩
          rw [ins_len] at hj
          have hq := ins_end r s hend
          rw [Nat.zero_add, Array.getElem?_append_left (by simp; omega)]
          have : (r.map IV ++ [IV s]) = (insS r s).map IV := by rw [hq]; simp
          simp only [this, List.getElem?_toArray, List.getElem?_map]
          rw [List.getElem?_eq_getElem (by rw [ins_len]; omega)]
          rfl
    · by_cases hroom : r.length + 1 ≤ cap
      · refine (Any2.slices_Insert_int_shift Try.layD21 b off r.length cap (posR r s) vb 0 1 1 (r.map IV) [IV s] w (by omega) (by omega) hroom hc2 hbv (by simp) rfl hcs (fun j hj => hb.there (by omega)) (fun j hj => hb.frozen _) hvs (IV_one r) h1v _ _ _ _ hvb.shape hb.shape (by omega) (hvb.frozen _) (hvb.frozen _)).mono ?_
        rintro e w' ⟨rfl, rfl⟩
        refine ⟨_, rfl, RI.mk (cur := lay (lay cur (off + (posR r s + 1)) ((r.map IV).drop (posR r s))) (off + posR r s) [IV s]) (Bk.setCells _ _ (Bk.setCells _ _ hb.drew)) (ins_len _ _).symm (by rw [ins_len]; exact hroom) (by unfold maxLen; omega) (by rw [lay_size, lay_size]; omega) (fun j hj => ?_),
          Fr.setCells _ _ (Fr.setCells _ _ (Fr.refl _ _).drew (fun _ => rfl)) (fun _ => rfl), .inl rfl⟩
        have hat := ins_at r s j
        rw [List.getElem?_eq_getElem hj] at hat
        rw [ins_len] at hj
        by_cases h1 : j < posR r s
        · rw [lay_out _ _ _ _ (.inl (by omega)), lay_out _ _ _ _ (.inl (by omega)), hc4 j (by omega)]
          rw [if_pos h1, List.getElem?_eq_getElem (by omega)] at hat
          injection hat with hat
          rw [hat]
        · rw [if_neg h1] at hat
          by_cases h2 : j = posR r s
          · subst h2
            rw [if_pos rfl] at hat
            injection hat with hat
            rw [show off + posR r s = off + posR r s + 0 by omega, lay_in _ _ _ 0 (by simp) (by rw [lay_size]; simp; omega), hat]
            rfl
          · rw [if_neg h2, List.getElem?_eq_getElem (by omega)] at hat
            injection hat with hat
            rw [lay_out _ _ _ _ (.inr (by simp; omega)), hat]
            obtain ⟨k, rfl⟩ : ∃ k, j = posR r s + 1 + k := ⟨j - posR r s - 1, by omega⟩
            rw [show off + (posR r s + 1 + k) = off + (posR r s + 1) + k by omega, lay_in _ _ _ k (by simp; omega) (by simp; omega)]
            simp only [List.getElem?_drop, List.getElem?_map]
            rw [List.getElem?_eq_getElem (by omega)]
            simp only [Option.map_some]
            congr 2
            have : posR r s + k = posR r s + 1 + k - 1 := by omega
            simp only [this]
      · refine (Any2.slices_Insert_int_grow Try.layD21 b off r.length cap (posR r s) vb 0 1 1 (r.map IV) [IV s] w (by omega) (by omega) hc1 (by omega) (by omega) (by simp) rfl hcs hvs (IV_one r) h1v).mono ?_
        rintro e w' ⟨rfl, rfl⟩
        have hg := grownCap_ge w (r.length + 1) cap 3
        have hm := grownCap_le_maxLen w (r.length + 1) cap 3 (by unfold maxLen; omega)
        have hg' : r.length + 1 ≤ grownCap w (r.length + 1) cap (Try.layD21r.t 3) := hg
        generalize hG : grownCap w (r.length + 1) cap (Try.layD21r.t 3) = G at *
        have hG' : grownCap w (r.length + 1) cap 3 = G := hG
        rw [hG'] at hm
        generalize hR : (((r.map IV).take (posR r s)).toArray ++ Builtin.zeroCells (Value.int .i64 0).cells (r.length + 1 - posR r s) ++ Builtin.zeroCells (Value.int .i64 0).cells (G - (r.length + 1))) = R
        have hRs : R.size = G := by rw [← hR]; simp [zero_size]; omega
        have hRo : ∀ j, j < posR r s → R[j]? = (r.map IV)[j]? := fun j hj => by
          rw [← hR, Array.getElem?_append_left (by simp [zero_size]; omega), Array.getElem?_append_left (by simp; omega)]
          simp [List.getElem?_take, hj]
        have hbn := Bk.new w 3 R
        refine ⟨_, rfl, RI.mk (cur := lay (lay R (posR r s) [IV s]) (posR r s + 1) ((r.map IV).drop (posR r s))) (Bk.setCells _ _ (Bk.setCells _ _ hbn.drew).drew) (ins_len _ _).symm (by rw [ins_len]; exact hg') hm (by rw [lay_size, lay_size]; omega) (fun j hj => ?_),
          Fr.setCells _ _ (Fr.drew (Fr.setCells _ _ (Fr.drew ((Fr.refl _ _).alloc _)) (fun h => absurd h (by omega)))) (fun h => absurd h (by omega)), .inr ⟨_, rfl, Nat.le_refl _⟩⟩
        have hat := ins_at r s j
        rw [List.getElem?_eq_getElem hj] at hat
        rw [ins_len] at hj
        rw [Nat.zero_add]
        by_cases h1 : j < posR r s
        · rw [lay_out _ _ _ _ (.inl (by omega)), lay_out _ _ _ _ (.inl (by omega)), hRo j h1]
          rw [if_pos h1, List.getElem?_eq_getElem (by omega)] at hat
          injection hat with hat
          rw [hat]; simp [show j < r.length by omega]
        · rw [if_neg h1] at hat
          by_cases h2 : j = posR r s
          · rw [if_pos h2] at hat
            injection hat with hat
            rw [lay_out _ _ _ _ (.inl (by omega)), hat]
            have := lay_in [IV s] R (posR r s) 0 (by simp) (by simp; omega)
            simpa [h2] using this
          · rw [if_neg h2, List.getElem?_eq_getElem (by omega)] at hat
            injection hat with hat
            rw [hat]
            obtain ⟨k, rfl⟩ : ∃ k, j = posR r s + 1 + k := ⟨j - posR r s - 1, by omega⟩
            rw [lay_in _ _ _ k (by simp; omega) (by rw [lay_size]; simp; omega)]
            simp only [List.getElem?_drop, List.getElem?_map]
            rw [List.getElem?_eq_getElem (by omega)]
            simp only [Option.map_some]
            congr 2
            have : posR r s + k = posR r s + 1 + k - 1 := by omega
            simp only [this]

theorem Bk.mapBlock {w : World} {g : Nat} {t : TypeId} {cs : Array Value} (h : Bk w g t cs) (f : Array Value → Array Value) : Bk (Go.Sort.mapBlock w g f) g t (f cs) := by
  unfold Bk at *
  simp [Go.Sort.mapBlock, Array.getElem?_modify, h, Go.Sort.onCells]
theorem Fr.mapBlock {S : Nat → Prop} {a w : World} {g : Nat} (h : Fr S a w) (hg : g < a.heap.size → S g) (f : Array Value → Array Value) : Fr S a (Go.Sort.mapBlock w g f) :=
  h.trans (T := fun k => k = g) ⟨rfl, rfl, rfl, by simp [Go.Sort.mapBlock], fun k _ hk => by
    show (w.heap.modify g _)[k]? = _
    rw [Array.getElem?_modify, if_neg (fun e => hk e.symm)]⟩ (fun x hx e => by subst e; exact hg hx)
theorem Fr.ahead {S : Nat → Prop} {a w : World} (h : Fr S a w) (n : Nat) : Fr S a (Go.Sort.ahead w n) := ⟨h.os, h.tape, h.output, h.size, h.block⟩
/-- Delete of the first ones of a row. -/
theorem delete_any {w : World} {v : Value} {r : List Int} {k : Nat} (h : RI w v r) (hk : k ≤ r.length) (h0 : r ≠ []) :
    Calls Try.prog 36 #[v, .int .i64 0, .int .i64 k] w fun e w' => ∃ v', e = .returned v' ∧ RI w' v' (r.drop k) ∧ Fr (fun k => v.ownBlock = some k) w w' ∧ v'.ownBlock = v.ownBlock := by
  rcases h.cases with ⟨rfl, rfl⟩ | ⟨b, off, cap, cur, rfl, hb, hc1, hc2, hc3, hc4⟩
  · exact absurd rfl h0
  · have hH : Go.Sort.Holds encI w b off r.toArray := fun j hj => by
      have hj' : j < r.length := by simpa using hj
      refine ⟨?_, hb.frozen _⟩
      rw [hb.cell, hc4 j hj']
      simp [IV, hj', getElem!_pos]
    have hd := Any.slices_Delete_int_arr Try.layD23 b off cap 0 k r.toArray w hH (by simpa using hc1) hc2 (Nat.zero_le _) (by simpa using hk)
    simp only [List.size_toArray, List.take_zero, List.nil_append, Nat.sub_zero] at hd
    refine hd.mono ?_
    rintro e w' ⟨rfl, q, rfl⟩
    refine ⟨_, rfl, RI.mk (Bk.mapBlock (w := Go.Sort.ahead w q) (cs := cur) hb _) (by simp) (by simp; omega) (by unfold maxLen; omega) (by simp [Go.Sort.putCells]; omega) (fun j hj => ?_), Fr.mapBlock (S := fun k => (Value.slice (some ⟨b, off, none⟩) r.length cap).ownBlock = some k) ((Fr.refl _ _).ahead q) (fun _ => rfl) _, rfl⟩
    have hj' : j < r.length - k := by simpa using hj
    simp only [Go.Sort.putCells, Array.getElem?_mapIdx]
    rw [Array.getElem?_eq_getElem (by omega)]
    simp only [Option.map_some, List.size_toArray, List.length_append, List.length_replicate, List.length_drop]
    rw [if_pos (by omega)]
    rw [show off + j - off = j by omega, getElem!_pos _ j (by simp; omega)]
    simp only [List.getElem_toArray]
    rw [List.getElem_append_left (by simpa using hj')]
    rfl
end Go.Proofs.Ytdfkoehcmgcoiaa
