/- The reference's lose, Clear, Cut. -/
import Derived.Test.YtmlckocgahfnkaaPd
namespace Go.Proofs.Ytmlckocgahfnkaa
open Go.RowKit

/-- What is lost between two, or for one (b below 0). -/
def goneQ (a b : Int) (p : Pk) : Bool := if b < 0 then p.to == a else ((p.fr == a) && (p.to == b)) || ((p.fr == b) && (p.to == a))
theorem filt_take {ks : List KP} {f : Pk → Bool} {k : Nat} (h : k < ks.length) (hf : f (ks.getD k default).pk = true) : (ks.take (k + 1)).filter (fun q => f q.pk) = (ks.take k).filter (fun q => f q.pk) ++ [ks.getD k default] := by
  rw [take_succ_getD h, List.filter_append]; congr 1; simpa using hf
theorem filt_take' {ks : List KP} {f : Pk → Bool} {k : Nat} (h : k < ks.length) (hf : f (ks.getD k default).pk = false) : (ks.take (k + 1)).filter (fun q => f q.pk) = (ks.take k).filter (fun q => f q.pk) := by
  rw [take_succ_getD h, List.filter_append, List.filter_cons_of_neg (by simp only [hf]; simp), List.filter_nil, List.append_nil]

set_option maxRecDepth 100000 in
set_option maxHeartbeats 8000000 in
theorem rlose_any (g : Nat) (s : NS) (m : RL) (a b : Int) (w : World) (h : RefM w g s m) (hq : s.l.length ≤ 1048576) :
    Calls Try.prog 41 #[.pointer (some ⟨g, 0, none⟩), .int .i64 a, .int .i64 b] w fun e w' => e = .returned (.int .i64 ((s.l.length : Int) - ((s.l.filter fun p => !goneQ a b p).length : Int))) ∧
      ∃ m', RefM w' g { s with l := s.l.filter fun p => !goneQ a b p } m' ∧ Fr (fun x => x = g) w w' ∧ ∀ x, RB g m' x → RB g m x ∨ w.heap.size ≤ x := by
  obtain ⟨A, c, hLV, hlc, hcm, hA⟩ := h.row.form
  have hll := h.ll
  obtain ⟨LV, CV, ks⟩ := m
  simp only at *
  subst hLV
  have H := Lib.hid h
  have HLL := Lib.hid hll
  have HA := Lib.hid hA
  obtain ⟨n, hn⟩ : ∃ n, ks.length = n := ⟨_, rfl⟩
  have hnb : (n : Int) ≤ 1048576 := by omega
  have HN := Lib.hid hn
  have HC := Lib.hid (fun w' (hf : Fr (fun _ => False) w w') => show w'.cell? ⟨g, 2, none⟩ = some (.slice A n c) from by rw [← hn]; exact (h.fr0 hf).cells rfl)
  clear h hll hA hcm hlc hn
  go_enter Try.func41, Try.ntmps41
  go_wp2_with fail
  go_loopw [7, 8] (fun u i wr => ∃ (k : Nat) (v : Value) (zs : List KP), u = v ∧ i = .int .i64 (k : Int) ∧ k ≤ n ∧ NewRow w wr v zs.length (kpc zs) ∧ zs = (ks.take k).filter (fun q => !goneQ a b q.pk)) (fun _ i _ => n - (intOf i).toNat)
  case atStart => exact ⟨0, _, [], rfl, rfl, Nat.zero_le _, NewRow.nil (Fr.refl _ _), by simp⟩
  case round =>
    obtain ⟨k, v, zs, rfl, rfl, hk, ht, hzs⟩ := hrel
    have HT := Lib.hid ht
    have HZ := Lib.hid hzs
    have c3 := HC.out wr ht.fr
    clear ht hzs
    have hk0 : (0 : Int) ≤ (k : Int) := by omega
    by_cases hlt : k < n
    · have hlt' : (k : Int) < n := by omega
      have hkp : k < ks.length := by rw [HN.out]; exact hlt
      obtain ⟨b1, off, rfl⟩ := HA.out (by omega)
      obtain ⟨e0, e1, e2, e3⟩ := (H.out.fr0 HT.out.fr).at4 hkp
      have HFT := Lib.hid (fun hf => filt_take (f := fun p => !goneQ a b p) hkp hf)
      have HFT' := Lib.hid (fun hf => filt_take' (f := fun p => !goneQ a b p) hkp hf)
      have HKL := Lib.hid (show zs.length ≤ 1048575 by
        have h1 := List.length_filter_le (fun q : KP => !goneQ a b q.pk) (ks.take k)
        rw [← HZ.out, List.length_take] at h1; omega)
      have hbs := World.block_lt_of_cell? wr _ e0
      simp only at hbs
      generalize ks.getD k default = q at *
      unfold KP.sl at e3
      have fa : Fr (fun _ => False) wr (wr.alloc (.cells #[.int .i64 q.pk.fr, .int .i64 q.pk.to, .int .i64 (q.pk.n : Int), .slice q.A q.pk.bs.length q.c] 61)) := (Fr.refl _ _).alloc _
      have T1 := Lib.hid (HT.out.fr0 fa)
      obtain ⟨f1, hf1⟩ : ∃ f1, (q.pk.fr == a) = f1 := ⟨_, rfl⟩
      obtain ⟨f2, hf2⟩ : ∃ f2, (q.pk.to == b) = f2 := ⟨_, rfl⟩
      obtain ⟨f3, hf3⟩ : ∃ f3, (q.pk.fr == b) = f3 := ⟨_, rfl⟩
      obtain ⟨f4, hf4⟩ : ∃ f4, (q.pk.to == a) = f4 := ⟨_, rfl⟩
      obtain ⟨f5, hf5⟩ : ∃ f5, decide (b < 0) = f5 := ⟨_, rfl⟩
      have HG := Lib.hid (show goneQ a b q.pk = (if f5 = true then f4 else ((f1 && f2) || (f3 && f4))) by unfold goneQ; rw [hf1, hf2, hf3, hf4, ← hf5]; simp)
      have ka := Bk.new wr 61 #[.int .i64 q.pk.fr, .int .i64 q.pk.to, .int .i64 (q.pk.n : Int), .slice q.A q.pk.bs.length q.c]
      have p0 := ka.cell 0
      have p1 := ka.cell 1
      have p2 := ka.cell 2
      have p3 := ka.cell 3
      simp at p0 p1 p2 p3
      have FIN : Hid (∀ (A2 : Option Addr) (c2 : Nat) (w2 : World), goneQ a b q.pk = false → NewRow w w2 (.slice A2 (zs.length + 1) c2) (zs.length + 1) (kpc zs ++ q.cells) → NewRow w w2 (.slice A2 (zs.length + 1) c2) (zs ++ [q]).length (kpc (zs ++ [q])) ∧ zs ++ [q] = (ks.take (k + 1)).filter (fun q => !goneQ a b q.pk)) := Lib.hid (fun A2 c2 w2 hg hr => ⟨by simpa [kpc] using hr, by rw [HFT.out (by simp only [hg]; rfl), ← HZ.out]⟩)
      have FIN' : Hid (goneQ a b q.pk = true → zs = (ks.take (k + 1)).filter (fun q => !goneQ a b q.pk)) := Lib.hid (fun hg => by rw [HFT'.out (by simp only [hg]; rfl), ← HZ.out])
      clear ka fa
      cases f5 <;> cases f1 <;> cases f2 <;> cases f3 <;> cases f4
      all_goals
        first
        | (have hg := HG.out
           simp only [Bool.and_true, Bool.and_false, Bool.or_true, Bool.or_false, Bool.and_self, Bool.or_self, if_true, Bool.false_eq_true, if_false] at hg
           have HGT : goneQ a b q.pk = true := hg
           clear hg
           go_wp2_with fail
           refine ⟨⟨k + 1, _, zs, rfl, by simp, by omega, T1.out, FIN'.out HGT⟩, ?_⟩
           first | omega | (show _ < _; simp [intOf]; omega))
        | (have hg := HG.out
           simp only [Bool.and_true, Bool.and_false, Bool.or_true, Bool.or_false, Bool.and_self, Bool.or_self, if_true, Bool.false_eq_true, if_false] at hg
           have HGF : goneQ a b q.pk = false := hg
           clear hg
           have hrow := T1.out.fr0 ((Fr.refl (fun _ => False) _).alloc (.cells #[.int .i64 q.pk.fr, .int .i64 q.pk.to, .int .i64 (q.pk.n : Int), .slice q.A q.pk.bs.length q.c] 61))
           have hsl := slOne (q := q) (Bk.new (wr.alloc (.cells #[.int .i64 q.pk.fr, .int .i64 q.pk.to, .int .i64 (q.pk.n : Int), .slice q.A q.pk.bs.length q.c] 61)) 61 #[.int .i64 q.pk.fr, .int .i64 q.pk.to, .int .i64 (q.pk.n : Int), .slice q.A q.pk.bs.length q.c])
           have hsz : (wr.alloc (.cells #[.int .i64 q.pk.fr, .int .i64 q.pk.to, .int .i64 (q.pk.n : Int), .slice q.A q.pk.bs.length q.c] 61)).heap.size = wr.heap.size + 1 := by simp
           rw [hsz] at hsl
           clear hsz
           go_wp2_with (at_builtin; (refine wpList_appendR Try.teQ rfl (.tmp 58) (.tmp 60) rfl _ zs.length (kpc zs) rfl hrow.row _ 1 q.cells rfl hsl (q_one q) (by have := HKL.out; unfold maxLen; omega) (by have := HKL.out; omega) ?_; intro A2 c2 w2 hr2 hf2 hm2; have N2 := Lib.hid (hrow.step hr2 hf2 hm2); clear hrow hsl hr2 hf2 hm2))
           obtain ⟨n1, n2⟩ := FIN.out _ _ _ HGF N2.out
           have N1 := Lib.hid n1
           clear n1
           refine ⟨⟨k + 1, _, zs ++ [q], rfl, by simp, by omega, N1.out, n2⟩, ?_⟩
           first | omega | (show _ < _; simp [intOf]; omega))
    · obtain rfl : k = n := by omega
      obtain ⟨A7, c7, rfl, _, _, _⟩ := HT.out.row.form
      have hz : zs = ks.filter (fun q => !goneQ a b q.pk) := by rw [HZ.out, List.take_of_length_le (by rw [HN.out]; exact Nat.le_refl _)]
      have hzm : zs.map KP.pk = s.l.filter (fun p => !goneQ a b p) := by rw [hz, H.out.l, List.filter_map]; rfl
      have hzl : (s.l.filter fun p => !goneQ a b p).length = zs.length := by rw [← hzm, List.length_map]
      have hzk : zs.length ≤ k := by rw [hz]; have := List.length_filter_le (fun q : KP => !goneQ a b q.pk) ks; rw [HN.out] at this; exact this
      have z2 : wr.frozen? ⟨g, 2, none⟩ = false := (H.out.blk.fr HT.out.fr (fun h => h)).frozen 2
      have HM := Lib.hid hzm
      have HZL := Lib.hid hzl
      have HIN := Lib.hid (show ∀ x ∈ zs, x ∈ ks from fun x hx => by rw [hz] at hx; exact (List.mem_filter.1 hx).1)
      have e1 : IntKind.i64.wrap ((k : Int) - ((zs.length : Nat) : Int)) = (k : Int) - ((zs.length : Nat) : Int) := IntWalk.i64_in _ (by omega)
      clear hz hzm hzl
      go_wp2
      go_ret
      obtain ⟨m', q1, q2, q3⟩ := RefM.relist H.out (n := zs.length) (ks' := zs) HIN.out rfl HT.out
      exact ⟨by rw [show (s.l.length : Int) = (k : Int) by rw [← HLL.out, HN.out], HZL.out]; rfl, m', by rw [← HM.out]; exact q1, q2, q3⟩

theorem goneQ_clear (a : Int) (p : Pk) : goneQ a (-1) p = decide (p.to = a) := by
  unfold goneQ; rw [if_pos (by omega)]; rw [Bool.eq_iff_iff]; simp
theorem goneQ_cut (a b : Int) (p : Pk) (hb : 0 ≤ b) : goneQ a b p = decide (pr p.fr p.to = pr a b) := by
  unfold goneQ; rw [if_neg (by omega), Bool.eq_iff_iff]
  simp only [decide_eq_true_eq, Bool.or_eq_true, Bool.and_eq_true, beq_iff_eq, pr_iff]
theorem NS.ok_clear {s : NS} (h : s.ok) {a : Int} (ha : s.is a = false) : s.clear a = s := by
  unfold NS.clear
  rw [List.filter_eq_self.2 (fun p hp => ?_)]
  have := (h p hp).2
  simp only [Bool.not_eq_true', decide_eq_false_iff_not]
  rintro rfl
  rw [ha] at this; cases this

set_option maxRecDepth 100000 in
set_option maxHeartbeats 4000000 in
theorem rclear_any (g : Nat) (s : NS) (m : RL) (a : Int) (w : World) (h : RefM w g s m) (hok : s.ok) (hq : s.l.length ≤ 1048576) :
    Calls Try.prog 27 #[.pointer (some ⟨g, 0, none⟩), .int .i64 a] w fun e w' => e = .returned (.int .i64 ((s.l.length : Int) - ((s.clear a).l.length : Int))) ∧
      ∃ m', RefM w' g (s.clear a) m' ∧ Fr (fun x => x = g) w w' ∧ ∀ x, RB g m' x → RB g m x ∨ w.heap.size ≤ x := by
  have CA := Lib.hid (ris_any g s.N a w (h.cells rfl))
  have CL := rlose_any g s m a (-1) w h hq
  have hf : (fun p => !goneQ a (-1) p) = (fun p : Pk => !(decide (p.to = a))) := by funext p; rw [goneQ_clear]
  rw [hf] at CL
  have CL := Lib.hid CL
  have H := Lib.hid h
  cases hi : s.is a with
  | false =>
    rw [NS.ok_clear hok hi]
    unfold NS.is at hi
    rw [hi] at CA
    clear CL h hok
    go_enter Try.func27, Try.ntmps27
    go_wp2_with fail
    refine CA.out.mono ?_; rintro e w1 ⟨rfl, rfl⟩
    go_wp2
    go_ret
    exact ⟨by simp, m, H.out, Fr.refl _ _, fun x hx => .inl hx⟩
  | true =>
    unfold NS.is at hi
    rw [hi] at CA
    unfold NS.clear
    clear h hok
    go_enter Try.func27, Try.ntmps27
    go_wp2_with fail
    refine CA.out.mono ?_; rintro e w1 ⟨rfl, rfl⟩
    go_wp2_with fail
    refine CL.out.mono ?_; rintro e w1 ⟨rfl, hc⟩
    go_wp2
    go_ret
    exact ⟨rfl, hc⟩

/-- Its row of pairs is one longer. -/
theorem RefM.recut {w w3 : World} {g : Nat} {s : NS} {m : RL} (h : RefM w g s m) {v : Value} {a b : Int} (hr : Row w3 69 2 v (s.cuts.length + 1) (cpc s.cuts ++ cpair (a, b))) (hf : Fr (fun k => m.CV.ownBlock = some k) w w3) (hm : Moved w m.CV v) :
    RefM (w3.setCell ⟨g, 3, none⟩ v) g { s with cuts := s.cuts ++ [(a, b)] } ⟨m.LV, v, m.ks⟩ ∧ Fr (RB g m) w (w3.setCell ⟨g, 3, none⟩ v) ∧ ∀ x, RB g ⟨m.LV, v, m.ks⟩ x → RB g m x ∨ w.heap.size ≤ x := by
  have f4 := Bk.fr_set (w := w3) (g := g) 3 v
  have hb := h.blk.fr hf h.cutg
  refine ⟨⟨by simpa [rcells] using hb.set 3 v, ?_, ?_, h.l, fun k hk => ((h.each k hk).fr hf (fun x hx e => h.cutd e hk hx)).fr f4 (fun x hx e => h.gd hk (by rw [hx, e]))⟩, (hf.mono (fun _ _ e => .inr (.inr (.inl e)))).trans f4 (fun _ _ e => .inl e), fun x hx => ?_⟩
  · exact (h.row.fr hf (fun x e e2 => h.rowcut e e2)).fr f4 (fun x e e2 => h.rowg (by rw [e, e2]))
  · have hne := hr.ne hb (by decide)
    have := hr.fr f4 (fun x e e2 => hne (by rw [e, e2]))
    simpa [cpc] using this
  · rcases hx with e | e | e | ⟨k, hk, e⟩
    · exact .inl (.inl e)
    · exact .inl (.inr (.inl e))
    · rcases hm with e1 | ⟨y, e1, hy⟩
      · exact .inl (.inr (.inr (.inl (e1.symm.trans e))))
      · simp only at e; rw [e1] at e; injection e with e; exact .inr (by omega)
    · exact .inl (.inr (.inr (.inr ⟨k, hk, e⟩)))

theorem rcut_bad (g : Nat) (s : NS) (m : RL) (a b : Int) (w : World) (h : RefM w g s m) (he : s.cutErr a b = true) :
    Calls Try.prog 25 #[.pointer (some ⟨g, 0, none⟩), .int .i64 a, .int .i64 b] w fun e w' => e = .returned (.int .i64 1) ∧ w = w' := by
  have CA := Lib.hid (ris_any g s.N a w (h.cells rfl))
  have CB := Lib.hid (ris_any g s.N b w (h.cells rfl))
  unfold NS.cutErr NS.is at he
  clear h
  generalize (decide (0 ≤ a) && decide (a < (s.N : Int))) = qa at *
  generalize (decide (0 ≤ b) && decide (b < (s.N : Int))) = qb at *
  cases qa with
  | false =>
    go_enter Try.func25, Try.ntmps25
    go_wp2_with fail
    refine CA.out.mono ?_; rintro e w1 ⟨rfl, rfl⟩
    go_wp2
    go_ret
    exact ⟨rfl, rfl⟩
  | true =>
    cases qb with
    | false =>
      go_enter Try.func25, Try.ntmps25
      go_wp2_with fail
      refine CA.out.mono ?_; rintro e w1 ⟨rfl, rfl⟩
      go_wp2_with fail
      refine CB.out.mono ?_; rintro e w1 ⟨rfl, rfl⟩
      go_wp2
      go_ret
      exact ⟨rfl, rfl⟩
    | true =>
      have e1 : a = b := by simpa using he
      subst e1
      go_enter Try.func25, Try.ntmps25
      go_wp2_with fail
      refine CA.out.mono ?_; rintro e w1 ⟨rfl, rfl⟩
      go_wp2_with fail
      refine CB.out.mono ?_; rintro e w1 ⟨rfl, rfl⟩
      go_wp2
      go_ret
      exact ⟨rfl, rfl⟩

set_option maxRecDepth 100000 in
set_option maxHeartbeats 4000000 in
theorem rcut_any (g : Nat) (s : NS) (m : RL) (a b : Int) (w : World) (h : RefM w g s m) (he : s.cutErr a b = false) (hq : s.l.length ≤ 1048576) (hc : s.cuts.length ≤ 1048576) :
    Calls Try.prog 25 #[.pointer (some ⟨g, 0, none⟩), .int .i64 a, .int .i64 b] w fun e w' => e = .returned (.int .i64 0) ∧
      ∃ m', RefM w' g (s.cut a b) m' ∧ Fr (RB g m) w w' ∧ ∀ x, RB g m' x → RB g m x ∨ w.heap.size ≤ x := by
  have CA := Lib.hid (ris_any g s.N a w (h.cells rfl))
  have CB := Lib.hid (ris_any g s.N b w (h.cells rfl))
  have CO := Lib.hid (ropen_any g s m a b w h hc)
  unfold NS.cutErr at he
  simp only [Bool.or_eq_false_iff, Bool.not_eq_false', decide_eq_false_iff_not] at he
  obtain ⟨⟨hia, hib⟩, hab⟩ := he
  have hb0 : 0 ≤ b := by unfold NS.is at hib; simp at hib; exact hib.1
  have hfq : (fun p => !goneQ a b p) = (fun p : Pk => !(decide (pr p.fr p.to = pr a b))) := by funext p; rw [goneQ_cut a b p hb0]
  have CLO := Lib.hid (fun (s' : NS) (m' : RL) (W : World) (h' : RefM W g s' m') (hq' : s'.l.length ≤ 1048576) => by
    have := rlose_any g s' m' a b W h' hq'
    rw [hfq] at this
    exact this)
  have hoB : s.openB a b = s.joins a b := by unfold NS.openB; rw [hia, hib]; rfl
  rw [hoB] at CO
  unfold NS.is at hia hib
  rw [hia] at CA
  rw [hib] at CB
  have hab' : (a == b) = false := by simpa using hab
  have H := Lib.hid h
  have HQ := Lib.hid hq
  unfold NS.cut
  cases hj : s.joins a b with
  | false =>
    rw [hj] at CO
    clear h hia hib hfq hoB hab hq
    go_enter Try.func25, Try.ntmps25
    go_wp2_with fail
    refine CA.out.mono ?_; rintro e w1 ⟨rfl, rfl⟩
    go_wp2_with fail
    refine CB.out.mono ?_; rintro e w1 ⟨rfl, rfl⟩
    go_wp2_with fail
    refine CO.out.mono ?_; rintro e w1 ⟨rfl, hf1⟩
    have C2 := Lib.hid (CLO.out s m w1 (H.out.fr0 hf1) HQ.out)
    have F1 := Lib.hid hf1
    clear hf1
    go_wp2_with fail
    refine C2.out.mono ?_; rintro e w2 ⟨rfl, m', q1, q2, q3⟩
    have Q1 := Lib.hid q1
    have Q2 := Lib.hid q2
    clear q1 q2
    go_wp2
    go_ret
    refine ⟨rfl, m', Q1.out, (F1.out.mono (fun _ _ h => h.elim)).trans Q2.out (fun _ _ e => .inl e), fun x hx => (q3 x hx).imp id (fun h => Nat.le_trans F1.out.size h)⟩
  | true =>
    rw [hj] at CO
    obtain ⟨A, c, hCV, hlc, hcm, hA⟩ := h.cut.form
    obtain ⟨LV, CV, ks⟩ := m
    simp only at *
    subst hCV
    have HC := Lib.hid hc
    obtain ⟨n, hn⟩ : ∃ n, s.cuts.length = n := ⟨_, rfl⟩
    have HK := Lib.hid (fun w' (hf : Fr (fun _ => False) w w') => show w'.cell? ⟨g, 3, none⟩ = some (.slice A n c) from by rw [← hn]; exact (H.out.fr0 hf).cells rfl)
    have HN := Lib.hid hn
    clear h hia hib hfq hoB hab hq hc hA hlc hcm hn
    go_enter Try.func25, Try.ntmps25
    go_wp2_with fail
    refine CA.out.mono ?_; rintro e w1 ⟨rfl, rfl⟩
    go_wp2_with fail
    refine CB.out.mono ?_; rintro e w1 ⟨rfl, rfl⟩
    go_wp2_with fail
    refine CO.out.mono ?_; rintro e w1 ⟨rfl, hf1⟩
    have k3 := HK.out w1 hf1
    have F1 := Lib.hid hf1
    have hrow := (H.out.cut.fr0 hf1).fr0 ((Fr.refl (fun _ => False) w1).alloc (.cells #[.int .i64 a, .int .i64 b] 69))
    have hsl : Sl (w1.alloc (.cells #[.int .i64 a, .int .i64 b] 69)) 2 (.slice (some ⟨w1.heap.size, 0, none⟩) 1 1) 1 (cpair (a, b)) := Sl.at rfl rfl (fun j u hu => by rw [Nat.zero_add, (Bk.new w1 _ _).cell]; simpa [cpair] using hu)
    simp only [HN.out] at hrow
    clear hf1
    go_wp2_with (at_builtin; (refine wpList_appendR Try.teC rfl (.tmp 30) (.tmp 34) rfl _ n (cpc s.cuts) rfl hrow _ 1 (cpair (a, b)) rfl hsl (fun u hu => by simp [cpair] at hu; rcases hu with rfl | rfl <;> rfl) (by have := HC.out; have := HN.out; unfold maxLen; omega) (by have := HC.out; have := HN.out; omega) ?_; intro A3 c3 w3 hr3 hf3 hm3; have fa := (F1.out.alloc (.cells #[.int .i64 a, .int .i64 b] 69)); have f3 : Fr (fun k => (Value.slice A n c).ownBlock = some k) w w3 := (fa.mono (fun _ _ h => h.elim)).trans hf3 (fun _ _ h => h); have HR3 := Lib.hid hr3; have F3 := Lib.hid f3; have HM3 := Lib.hid (hm3.imp id (fun ⟨k, e, hk⟩ => ⟨k, e, Nat.le_trans fa.size hk⟩) : Moved w (.slice A n c) (.slice A3 (n + 1) c3)); have z3 : w3.frozen? ⟨g, 3, none⟩ = false := (H.out.blk.fr f3 (by have := H.out.cutg; rw [HN.out] at this; exact this)).frozen 3; have k4 : w3.cell? ⟨g, 3, none⟩ = some (.slice A n c) := (by have := (H.out.blk.fr f3 (by have := H.out.cutg; rw [HN.out] at this; exact this)).cell 3; rw [← HN.out]; exact this); clear hrow hsl hr3 hf3 hm3 fa f3))
    obtain ⟨r1, r2, r3⟩ := RefM.recut (v := .slice A3 (n + 1) c3) (a := a) (b := b) H.out (by have := HR3.out; simp only [HN.out]; exact this) (by simp only [HN.out]; exact F3.out) (by simp only [HN.out]; exact HM3.out)
    have C2 := Lib.hid (CLO.out _ _ _ r1 HQ.out)
    have R2 := Lib.hid r2
    clear r1 r2
    go_wp2_with fail
    refine C2.out.mono ?_; rintro e w2 ⟨rfl, m', q1, q2, q3⟩
    have Q1 := Lib.hid q1
    have Q2 := Lib.hid q2
    clear q1 q2
    go_wp2
    go_ret
    refine ⟨rfl, m', Q1.out, R2.out.trans Q2.out (fun _ _ e => .inl e), fun x hx => ?_⟩
    rcases q3 x hx with h | h
    · exact r3 x h
    · exact .inr (Nat.le_trans R2.out.size h)
end Go.Proofs.Ytmlckocgahfnkaa
