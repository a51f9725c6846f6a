/- What becomes of a table in memory behind keep. -/
import Derived.Test.YtdfkoehcmgcoiaaJg
namespace Go.Proofs.Ytdfkoehcmgcoiaa
open Go.RowKit Go.Maps

theorem lit_ne {c x : Int} (h : x ≠ c) : (Lit.int .i64 x) ≠ .int .i64 c := by intro e; injection e with _ e; exact h e
theorem MV.update {w : World} {k t e : TypeId} {b : Nat} {D : DV} (h : MV w k b D) (K : Keyed Try.prog k) (ht : Try.prog.underlying t = some (.map k e)) (hn : Maps.size D < 9223372036854775807) {key val : Value} {kl : Lit} (hkey : keyOf Try.prog k key = some kl) :
    ∃ w', (Instr.mapUpdate t (.map (some b)) key val).run Try.prog w = .ok () w' ∧ MV w' k b (D.put kl (.held val)) ∧ Fr (fun x => x = b) w w' := by
  obtain ⟨w', h1, h2, h3⟩ := World.ownsMap.update h K ht (by unfold maxLen; exact hn) hkey (val := val) (d := .held val) (ps := []) rfl
  exact ⟨w', h1, MV.of h2, (Fr.of_grown h3).mono (fun _ _ e => (Option.some.inj e).symm)⟩
theorem Row.block {w : World} {v : Value} {r : List Int} (h : RI w v r) {k : Nat} (hk : v.ownBlock = some k) : ∃ cur, Bk w k 3 cur := Row.bk h hk
theorem RI.block_ne {w : World} {v : Value} {r : List Int} {b : Nat} {k : TypeId} {D : DV} (h : RI w v r) (hm : MV w k b D) : v.ownBlock ≠ some b := fun e => by
  obtain ⟨cur, hb⟩ := Row.bk h e
  exact hm.ne hb rfl
theorem DT.keep_row {t : DT} {c s : Int} (a : List UInt8) : (t.keep c s a).row c = insS (t.row c) s := by unfold DT.keep; simp
theorem DT.keep_row' {t : DT} {c s x : Int} (a : List UInt8) (h : x ≠ c) : (t.keep c s a).row x = t.row x := by unfold DT.keep; simp [h]
theorem DT.keep_ans {t : DT} {c s : Int} (a : List UInt8) : (t.keep c s a).ans c s = a := by unfold DT.keep; simp
theorem DT.keep_ans' {t : DT} {c s x y : Int} (a : List UInt8) (h : ¬ (x = c ∧ y = s)) : (t.keep c s a).ans x y = t.ans x y := by
  show (if x = c ∧ y = s then a else t.ans x y) = _
  rw [if_neg h]
theorem DT.keep_mem {t : DT} {c s x y : Int} (a : List UInt8) : y ∈ (t.keep c s a).row x ↔ (x = c ∧ y = s) ∨ y ∈ t.row x := by
  by_cases h : x = c
  · subst h; rw [DT.keep_row, mem_ins]; simp
  · rw [DT.keep_row' a h]; simp [h]

theorem TabM.kept {g ba br : Nat} {F FN : Nat → Prop} {t : DT} {Da Dr : DV} {w w1 w2 w3 : World} (h : TabM w g ba br F t Da Dr) (ok : t.ok0) {c s : Int} (hc : I64 c) (hs : I64 s) (hns : s ∉ t.row c) {v v' : Value} {A : Option Addr} {cap : Nat} {a : List UInt8}
    (hv : (t.row c ≠ [] → At Dr (.int .i64 c) v ∧ ∀ k, v.ownBlock = some k → F k) ∧ (t.row c = [] → v = .slice none 0 0)) (hrv : RI w v (t.row c))
    (hma : MV w1 48 ba (Da.put (ky c s) (.held (.slice A a.length cap)))) (f1 : Fr (fun k => k = ba) w w1)
    (hri : RI w2 v' (insS (t.row c) s)) (f2 : Fr (fun k => v.ownBlock = some k) w1 w2) (hmv : Moved w v v')
    (hmr : MV w3 3 br (Dr.put (.int .i64 c) (.held v'))) (f3 : Fr (fun k => k = br) w2 w3)
    (hA : Rd8 w A a) (hAb : ∀ ad, A = some ad → 0 < a.length → FN ad.block ∧ ∃ cs, Bk w ad.block 5 cs) (hFN : ∀ k, FN k → k < w.heap.size) :
    TabM w3 g ba br (fun k => F k ∨ FN k ∨ (w.heap.size ≤ k ∧ k < w3.heap.size)) (t.keep c s a) (Da.put (ky c s) (.held (.slice A a.length cap))) (Dr.put (.int .i64 c) (.held v')) ∧ Fr F w w3 := by
  have hvF : ∀ k, v.ownBlock = some k → F k := fun k hk => by
    by_cases hr : t.row c = []
    · rw [hv.2 hr] at hk; simp [Value.ownBlock] at hk
    · exact (hv.1 hr).2 k hk
  have f13 : Fr (fun k => k = ba ∨ v.ownBlock = some k ∨ k = br) w w3 :=
    ((f1.mono (T := fun k => k = ba ∨ v.ownBlock = some k ∨ k = br) (fun _ _ e => .inl e)).trans f2 (fun _ _ e => .inr (.inl e))).trans f3 (fun _ _ e => .inr (.inr e))
  have s1 := f1.size
  have s2 := f2.size
  have s3 := f3.size
  have vb := hrv.block_ne h.ma
  have vr := hrv.block_ne h.mr
  have bne : ∀ {k : Nat} {T : TypeId} {cs : Array Value}, Bk w k T cs → T ≠ 3 → ¬ (k = ba ∨ v.ownBlock = some k ∨ k = br) := fun hb hT => by
    rintro (e | e | e)
    · exact h.ma.ne hb e
    · exact Row.ne hrv hb (fun e => hT e.symm) e
    · exact h.mr.ne hb e
  have hold : ∀ c', I64 c' → c' ≠ c → ∀ v0, At Dr (.int .i64 c') v0 → ∀ k, v0.ownBlock = some k → v.ownBlock ≠ some k := fun c' hc' hne v0 h0 k hk e => by
    by_cases hr : t.row c = []
    · rw [hv.2 hr] at e; simp [Value.ownBlock] at e
    · exact hne (h.apart c' c v0 v k hc' hc h0 (hv.1 hr).1 hk e)
  have hatF : ∀ c', I64 c' → ∀ v0, At Dr (.int .i64 c') v0 → ∀ k, v0.ownBlock = some k → F k := fun c' hc' v0 h0 k hk => by
    by_cases hr : t.row c' = []
    · exact (h0.not (h.noRow c' hc' hr)).elim
    · obtain ⟨v1, h1, h2, h3⟩ := h.row c' hc' hr
      rw [h0.one h1] at hk
      exact h3 k hk
  have hnew : ∀ k, v'.ownBlock = some k → v.ownBlock = some k ∨ w.heap.size ≤ k := fun k hk => by
    rcases hmv with e | ⟨x, e, hx⟩
    · exact .inl (e ▸ hk)
    · rw [e] at hk; injection hk with hk; exact .inr (by omega)
  have hri3 : RI w3 v' (insS (t.row c) s) := Row.fr hri f3 (fun k hk e => by
    subst e
    rcases hnew k hk with e | e
    · exact vr e
    · have := h.mr.lt; omega)
  have hlt' : ∀ k, v'.ownBlock = some k → k < w3.heap.size := fun k hk => Row.lt hri3 hk
  refine ⟨?_, f13.mono (fun k _ e => ?_)⟩
  · constructor
    · exact h.blk.fr f13 (bne h.blk (by decide))
    · exact (hma.fr f2 vb).fr f3 h.ab
    · exact hmr
    · intro x hx hr
      have hxc : x ≠ c := by
        rintro rfl
        rw [DT.keep_row] at hr
        exact List.ne_nil_of_mem ((mem_ins s s).2 (.inl rfl)) hr
      rw [DT.keep_row' a hxc] at hr
      rw [has_put_other (lit_ne hxc)]
      exact h.noRow x hx hr
    · intro x hx hr
      by_cases hxc : x = c
      · subst hxc
        refine ⟨v', At.put h.mr (i_key x) v', by rw [DT.keep_row]; exact hri3, fun k hk => ?_⟩
        rcases hnew k hk with e | e
        · exact .inl (hvF k e)
        · exact .inr (.inr ⟨e, hlt' k hk⟩)
      · rw [DT.keep_row' a hxc] at hr ⊢
        obtain ⟨v0, h1, h2, h3⟩ := h.row x hx hr
        refine ⟨v0, h1.put_ne (lit_ne hxc), Row.fr h2 f13 (fun k hk e => ?_), fun k hk => .inl (h3 k hk)⟩
        rcases e with e | e | e
        · exact h2.block_ne h.ma (e ▸ hk)
        · exact hold x hx hxc v0 h1 k hk e
        · exact h2.block_ne h.mr (e ▸ hk)
    · intro x y v1 v2 k hx hy h1 h2 hk1 hk2
      have back : ∀ z, I64 z → z ≠ c → ∀ u, At (Dr.put (.int .i64 c) (.held v')) (.int .i64 z) u → At Dr (.int .i64 z) u := fun z _ hz u hu =>
        ⟨(has_put_other (lit_ne hz) _).symm.trans hu.1, fun q => (atKey_put_other (lit_ne hz) _ q).symm.trans (hu.2 q)⟩
      by_cases hxc : x = c
      · by_cases hyc : y = c
        · rw [hxc, hyc]
        · subst hxc
          have e1 : v1 = v' := h1.one (At.put h.mr (i_key x) v')
          subst e1
          have h2' := back y hy hyc v2 h2
          rcases hnew k hk1 with e | e
          · exact absurd e (hold y hy hyc v2 h2' k hk2)
          · have := h.flt k (hatF y hy v2 h2' k hk2); omega
      · by_cases hyc : y = c
        · subst hyc
          have e1 : v2 = v' := h2.one (At.put h.mr (i_key y) v')
          subst e1
          have h1' := back x hx hxc v1 h1
          rcases hnew k hk2 with e | e
          · exact absurd e (hold x hx hxc v1 h1' k hk1)
          · have := h.flt k (hatF x hx v1 h1' k hk1); omega
        · exact h.apart x y v1 v2 k hx hy (back x hx hxc v1 h1) (back y hy hyc v2 h2) hk1 hk2
    · intro x y hx hy hm
      rw [DT.keep_mem] at hm
      have hne : ¬ (x = c ∧ y = s) := fun e => hm (.inl e)
      rw [has_put_other (fun e => hne (ky_inj hx hy hc hs e))]
      exact h.noAns x y hx hy (fun e => hm (.inr e))
    · intro x y hx hy hm
      by_cases hxy : x = c ∧ y = s
      · obtain ⟨rfl, rfl⟩ := hxy
        rw [DT.keep_ans]
        refine ⟨A, cap, At.put h.ma (ky_key hx hy) _, hA.fr f13 (fun ad e h0 => ?_), fun ad e h0 => ?_⟩
        · obtain ⟨_, cs, hb⟩ := hAb ad e h0
          exact bne hb (by decide)
        · obtain ⟨h1, cs, hb⟩ := hAb ad e h0
          exact ⟨.inr (.inl h1), cs, hb.fr f13 (bne hb (by decide))⟩
      · rw [DT.keep_mem] at hm
        obtain ⟨A0, cap0, h1, h2, h3⟩ := h.ans x y hx hy (hm.resolve_left hxy)
        rw [DT.keep_ans' a hxy]
        refine ⟨A0, cap0, h1.put_ne (fun e => hxy (ky_inj hx hy hc hs e)), h2.fr f13 (fun ad e h0 => ?_), fun ad e h0 => ?_⟩
        · obtain ⟨_, cs, hb⟩ := h3 ad e h0
          exact bne hb (by decide)
        · obtain ⟨h4, cs, hb⟩ := h3 ad e h0
          exact ⟨.inl h4, cs, hb.fr f13 (bne hb (by decide))⟩
    · exact h.ab
    · rw [size_put (h.mr.tidy kInt), DT.keep_cs ok]
      by_cases hr : t.row c = []
      · rw [if_pos hr, h.noRow c hc hr, h.sr]; simp
      · obtain ⟨v0, h1, _⟩ := h.row c hc hr
        rw [if_neg hr, h1.1, h.sr]; simp
    · rw [size_put (h.ma.tidy kKey), DT.keep_n ok, h.noAns c s hc hs hns, h.sa]; simp
    · exact .inl h.fg
    · exact .inl h.fa
    · exact .inl h.fb
    · rintro k (e | e | e)
      · have := h.flt k e; omega
      · have := hFN k e; omega
      · exact e.2
  · rcases e with e | e | e
    · rw [e]; exact h.fa
    · exact hvF k e
    · rw [e]; exact h.fb
end Go.Proofs.Ytdfkoehcmgcoiaa
