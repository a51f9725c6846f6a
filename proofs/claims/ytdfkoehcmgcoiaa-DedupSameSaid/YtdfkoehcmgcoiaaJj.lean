/- What becomes of a table in memory behind forget. -/
import Derived.Test.YtdfkoehcmgcoiaaJi
namespace Go.Proofs.Ytdfkoehcmgcoiaa
open Go.RowKit Go.Maps

/-- Some of a client's keys struck. -/
def delN (D : DV) (c : Int) (l : List Int) : DV := l.foldl (fun D s => D.del (ky c s)) D
theorem delN_snoc (D : DV) (c : Int) (l : List Int) (s : Int) : delN D c (l ++ [s]) = (delN D c l).del (ky c s) := by unfold delN; rw [List.foldl_append]; rfl
theorem delN_at {c : Int} {x y : Int} {v : Value} : ∀ (l : List Int) {D : DV}, (∀ s ∈ l, ky x y ≠ ky c s) → At D (ky x y) v → At (delN D c l) (ky x y) v
  | [], _, _, h => h
  | s :: l, D, hl, h => delN_at l (fun z hz => hl z (by simp [hz])) (h.del_ne (hl s (by simp)))
theorem delN_has0 {c : Int} {k : Lit} : ∀ (l : List Int) {D : DV}, has D k = false → has (delN D c l) k = false
  | [], _, h => h
  | s :: l, D, h => delN_has0 l (by
      by_cases e : k = ky c s
      · rw [e]; exact has_del_same
      · rw [has_del_other e]; exact h)
theorem delN_has {c s : Int} : ∀ (l : List Int) {D : DV}, s ∈ l → has (delN D c l) (ky c s) = false
  | x :: l, D, h => by
    rcases List.mem_cons.1 h with rfl | h
    · exact delN_has0 l has_del_same
    · exact delN_has l h
theorem delN_size {c : Int} : ∀ (l : List Int) {D : DV}, Tidy D → (∀ s ∈ l, has D (ky c s) = true) → l.Pairwise (fun a b => ky c a ≠ ky c b) → Maps.size (delN D c l) + l.length = Maps.size D
  | [], _, _, _, _ => rfl
  | s :: l, D, ht, hh, hp => by
    obtain ⟨p1, p2⟩ := List.pairwise_cons.1 hp
    have h1 := size_del (k := ky c s) ht
    rw [hh s (by simp)] at h1
    have h2 := delN_size l (D := D.del (ky c s)) (ht.del _) (fun z hz => by rw [has_del_other (p1 z hz).symm]; exact hh z (by simp [hz])) p2
    show Maps.size (delN (D.del (ky c s)) c l) + (l.length + 1) = _
    simp at h1
    omega
theorem DT.front_row {t : DT} {c : Int} {k : Nat} : (t.front c k).row c = (t.row c).drop k := by unfold DT.front; simp
theorem DT.front_row' {t : DT} {c x : Int} {k : Nat} (h : x ≠ c) : (t.front c k).row x = t.row x := by unfold DT.front; simp [h]
theorem drop_out {r : List Int} (h : Rise r) {k : Nat} {y : Int} (h1 : y ∈ r) (h2 : y ∉ r.drop k) : y ∈ r.take k := by
  rw [← List.take_append_drop k r, List.mem_append] at h1
  exact h1.resolve_right h2
theorem take_out {r : List Int} (h : Rise r) {k : Nat} {y : Int} (h1 : y ∈ r.drop k) : y ∉ r.take k := fun h2 => by
  have : (r.take k ++ r.drop k).Pairwise (· < ·) := by rw [List.take_append_drop]; exact h
  have := (List.pairwise_append.1 this).2.2 y h2 y h1
  omega

theorem TabM.fronted {g ba br : Nat} {F : Nat → Prop} {t : DT} {Da Dr : DV} {w w1 w2 w3 : World} (h : TabM w g ba br F t Da Dr) (ok : t.ok0) {c : Int} {k : Nat} (hc : I64 c) (hk : k < (t.row c).length) {v v' : Value}
    (hv : At Dr (.int .i64 c) v) (hvF : ∀ k, v.ownBlock = some k → F k) (hrv : RI w v (t.row c))
    (hma : MV w1 48 ba (delN Da c ((t.row c).take k))) (f1 : Fr (fun k => k = ba) w w1)
    (hri : RI w2 v' ((t.row c).drop k)) (f2 : Fr (fun k => v.ownBlock = some k) w1 w2) (hmv : v'.ownBlock = v.ownBlock)
    (hmr : MV w3 3 br (Dr.put (.int .i64 c) (.held v'))) (f3 : Fr (fun k => k = br) w2 w3) :
    TabM w3 g ba br F (t.front c k) (delN Da c ((t.row c).take k)) (Dr.put (.int .i64 c) (.held v')) ∧ Fr F w w3 := by
  have hI : ∀ y ∈ t.row c, I64 y := fun y hy => by have := ok.rng c y hy; exact I64.of (by omega) (by omega)
  have f13 : Fr (fun k => k = ba ∨ v.ownBlock = some k ∨ k = br) w w3 :=
    ((f1.mono (T := fun k => k = ba ∨ v.ownBlock = some k ∨ k = br) (fun _ _ e => .inl e)).trans f2 (fun _ _ e => .inr (.inl e))).trans f3 (fun _ _ e => .inr (.inr e))
  have s13 := f13.size
  have vb := hrv.block_ne h.ma
  have vr := hrv.block_ne h.mr
  have hne0 : t.row c ≠ [] := fun e => by rw [e] at hk; simp at hk
  have bne : ∀ {k : Nat} {T : TypeId} {cs : Array Value}, Bk w k T cs → T ≠ 3 → ¬ (k = ba ∨ v.ownBlock = some k ∨ k = br) := fun hb hT => by
    rintro (e | e | e)
    · exact h.ma.ne hb e
    · exact Row.ne hrv hb (fun e => hT e.symm) e
    · exact h.mr.ne hb e
  have hold : ∀ c', I64 c' → c' ≠ c → ∀ v0, At Dr (.int .i64 c') v0 → ∀ k, v0.ownBlock = some k → v.ownBlock ≠ some k := fun c' hc' hne v0 h0 k hk e =>
    hne (h.apart c' c v0 v k hc' hc h0 hv hk e)
  have hri3 : RI w3 v' ((t.row c).drop k) := Row.fr hri f3 (fun k hk e => by rw [hmv, e] at hk; exact vr hk)
  refine ⟨?_, f13.mono (fun k _ e => ?_)⟩
  · constructor
    · exact h.blk.fr f13 (bne h.blk (by decide))
    · exact (hma.fr f2 vb).fr f3 h.ab
    · exact hmr
    · intro x hx hr
      have hxc : x ≠ c := by
        rintro rfl
        rw [DT.front_row] at hr
        have := congrArg List.length hr
        simp at this; omega
      rw [DT.front_row' hxc] at hr
      rw [has_put_other (lit_ne hxc)]
      exact h.noRow x hx hr
    · intro x hx hr
      by_cases hxc : x = c
      · subst hxc
        exact ⟨v', At.put h.mr (i_key x) v', by rw [DT.front_row]; exact hri3, fun k hk => hvF k (hmv ▸ hk)⟩
      · rw [DT.front_row' hxc] at hr ⊢
        obtain ⟨v0, h1, h2, h3⟩ := h.row x hx hr
        refine ⟨v0, h1.put_ne (lit_ne hxc), Row.fr h2 f13 (fun k hk e => ?_), fun k hk => h3 k hk⟩
        rcases e with e | e | e
        · exact h2.block_ne h.ma (e ▸ hk)
        · exact hold x hx hxc v0 h1 k hk e
        · exact h2.block_ne h.mr (e ▸ hk)
    · intro x y v1 v2 k hx hy h1 h2 hk1 hk2
      have back : ∀ z, I64 z → z ≠ c → ∀ u, At (Dr.put (.int .i64 c) (.held v')) (.int .i64 z) u → At Dr (.int .i64 z) u := fun z _ hz u hu =>
        ⟨(has_put_other (lit_ne hz) _).symm.trans hu.1, fun q => (atKey_put_other (lit_ne hz) _ q).symm.trans (hu.2 q)⟩
      by_cases hxc : x = c
      · by_cases hyc : y = c
        · rw [hxc, hyc]
        · subst hxc
          have e1 : v1 = v' := h1.one (At.put h.mr (i_key x) v')
          subst e1
          exact absurd (hmv ▸ hk1) (hold y hy hyc v2 (back y hy hyc v2 h2) k hk2)
      · by_cases hyc : y = c
        · subst hyc
          have e1 : v2 = v' := h2.one (At.put h.mr (i_key y) v')
          subst e1
          exact absurd (hmv ▸ hk2) (hold x hx hxc v1 (back x hx hxc v1 h1) k hk1)
        · exact h.apart x y v1 v2 k hx hy (back x hx hxc v1 h1) (back y hy hyc v2 h2) hk1 hk2
    · intro x y hx hy hm
      by_cases hxc : x = c
      · subst hxc
        rw [DT.front_row] at hm
        by_cases hy2 : y ∈ t.row x
        · exact delN_has _ (drop_out (ok.rise x) hy2 hm)
        · exact delN_has0 _ (h.noAns x y hx hy hy2)
      · rw [DT.front_row' hxc] at hm
        exact delN_has0 _ (h.noAns x y hx hy hm)
    · intro x y hx hy hm
      have hm' : y ∈ t.row x := by
        by_cases hxc : x = c
        · subst hxc; rw [DT.front_row] at hm; exact List.mem_of_mem_drop hm
        · rw [DT.front_row' hxc] at hm; exact hm
      obtain ⟨A0, cap0, h1, h2, h3⟩ := h.ans x y hx hy hm'
      refine ⟨A0, cap0, delN_at _ (fun s hs e => ?_) h1, h2.fr f13 (fun ad e h0 => ?_), fun ad e h0 => ?_⟩
      · obtain ⟨rfl, rfl⟩ := ky_inj hx hy hc (hI s (List.mem_of_mem_take hs)) e
        rw [DT.front_row] at hm
        exact take_out (ok.rise x) hm hs
      · obtain ⟨_, cs, hb⟩ := h3 ad e h0
        exact bne hb (by decide)
      · obtain ⟨h4, cs, hb⟩ := h3 ad e h0
        exact ⟨h4, cs, hb.fr f13 (bne hb (by decide))⟩
    · exact h.ab
    · rw [size_put (h.mr.tidy kInt), hv.1, h.sr]; rfl
    · have h1 := delN_size (c := c) ((t.row c).take k) (h.ma.tidy kKey) (fun s hs => (h.ans c s hc (hI s (List.mem_of_mem_take hs)) (List.mem_of_mem_take hs)).elim fun _ h => h.elim fun _ h => h.1.1)
        (((ok.rise c).sublist (List.take_sublist _ _)).imp_of_mem (fun ha hb hab e => by
          have := (ky_inj hc (hI _ (List.mem_of_mem_take ha)) hc (hI _ (List.mem_of_mem_take hb)) e).2
          omega))
      have h2 := DT.front_n ok (Nat.le_of_lt hk)
      rw [List.length_take, Nat.min_eq_left (Nat.le_of_lt hk), h.sa] at h1
      omega
    · exact h.fg
    · exact h.fa
    · exact h.fb
    · intro k e
      have := h.flt k e; omega
  · rcases e with e | e | e
    · rw [e]; exact h.fa
    · exact hvF k e
    · rw [e]; exact h.fb
end Go.Proofs.Ytdfkoehcmgcoiaa
