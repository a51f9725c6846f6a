/- match: the reference's All and Keep. -/
import Derived.Test.YtkinbcmnfpkncaaRu
namespace Go.Proofs.Ytkinbcmnfpkncaa
open Go.RowKit Go.Maps

/-- A row of tasks that is new since w. -/
structure NewQ (w w' : World) (v : Value) (L : List (Int × Int)) : Prop where
  row : RT w' v L
  fr : Fr (fun _ => False) w w'
  new : ∀ k, v.ownBlock = some k → w.heap.size ≤ k
theorem NewQ.fr0 {w w' w2 : World} {v : Value} {L : List (Int × Int)} (h : NewQ w w' v L) (hf : Fr (fun _ => False) w' w2) : NewQ w w2 v L := ⟨Row.fr0 h.row hf, h.fr.trans hf (fun _ _ h => h), h.new⟩
theorem NewQ.put {w w1 w2 : World} {v : Value} {L : List (Int × Int)} {p : Int × Int} {A : Option Addr} {c : Nat} {o : Obj} (h : NewQ w w1 v L) (hr : Row w2 tQ 2 (.slice A (L.length + 1) c) (L.length + 1) (tcs L ++ [.int .i64 p.1, .int .i64 p.2])) (hf : Fr (fun g => v.ownBlock = some g) (w1.alloc o) w2) (hm : Moved (w1.alloc o) v (.slice A (L.length + 1) c)) : NewQ w w2 (.slice A (L.length + 1) c) (L ++ [p]) := by
  refine ⟨?_, (h.fr.alloc o).trans hf (fun x hx e => by have := h.new x e; omega), fun k hk => ?_⟩
  · unfold RT
    rw [tcs_append, List.length_append]
    exact hr
  · rcases hm with e | ⟨x, e, hx⟩
    · exact h.new k (e ▸ hk)
    · rw [e] at hk; injection hk with hk; have := h.fr.size; simp at hx; omega
/-- Is a task kept? -/
def keepQ (c b rest : Int) (p : Int × Int) : Bool := decide (p.1 ≠ c) || decide (p.2.tmod b = rest)
theorem filter_take1 (f : Int × Int → Bool) (L : List (Int × Int)) {k : Nat} (h : k < L.length) {p : Int × Int} (hp : L[k]'h = p) : (L.take (k + 1)).filter f = (L.take k).filter f ++ if f p = true then [p] else [] := by
  rw [List.take_add_one, List.getElem?_eq_getElem h, hp, List.filter_append]
  congr 1
  by_cases e : f p = true <;> simp [e]

set_option maxRecDepth 100000 in
set_option maxHeartbeats 8000000 in
theorem rkeep_any {w : World} {g : Nat} {F : Nat → Prop} {most : Int} {L : List (Int × Int)} {v : Value} (h : RfM w g F most L v) (c b rest : Int) (hb : ¬ b = 0) :
    Calls Try.prog 15 #[.pointer (some ⟨g, 0, none⟩), .int .i64 c, .int .i64 b, .int .i64 rest] w fun e w' => e = .returned (.int .i64 (L.length - (L.filter (keepQ c b rest)).length : Nat)) ∧ RfTo w g F w' most (L.filter (keepQ c b rest)) := by
  obtain ⟨A, cp, rfl, hnc, -, -⟩ := Row.form h.row
  obtain ⟨n, hn⟩ : ∃ n, L.length = n := ⟨_, rfl⟩
  rw [hn] at h hnc
  have H := Lib.hid h
  have HN := Lib.hid hn
  have HLL : Hid (n ≤ 1000000) := Lib.hid (by rw [← hn]; exact h.ll)
  have q1 : w.cell? ⟨g, 1, none⟩ = some (.slice A n cp) := h.blk.cell 1
  obtain ⟨R, hR⟩ : ∃ R, L.filter (keepQ c b rest) = R := ⟨_, rfl⟩
  rw [hR]
  have HR := Lib.hid hR
  have HRL : Hid (R.length ≤ n) := Lib.hid (by rw [← hR, ← hn]; exact List.length_filter_le _ _)
  clear h hn hnc hR
  go_enter Try.func15, Try.ntmps15
  go_wp2_with fail
  clear q1
  go_loopw [9, 10] (fun vo vi wr => ∃ (k m : Nat) (A1 : Option Addr) (c1 : Nat), vi = .int .i64 (k : Int) ∧ vo = .slice A1 m c1 ∧ k ≤ n ∧ Hid (((L.take k).filter (keepQ c b rest)).length = m ∧ NewQ w wr (.slice A1 m c1) ((L.take k).filter (keepQ c b rest)))) (fun _ vi _ => n - (intOf vi).toNat)
  case atStart => exact ⟨0, 0, none, 0, rfl, rfl, Nat.zero_le _, ⟨rfl, ⟨Row.nil _ _ _, Fr.refl _ _, fun k hk => by cases hk⟩⟩⟩
  case round =>
    obtain ⟨k, m, A1, c1, rfl, rfl, hk, HK⟩ := hrel
    have q1 : wr.cell? ⟨g, 1, none⟩ = some (.slice A n cp) := (H.out.fr0 HK.out.2.fr).blk.cell 1
    by_cases hlt : k < n
    · have di : decide ((k : Int) < (n : Int)) = true := decide_eq_true (by omega)
      have di' : decide (k < n) = true := decide_eq_true hlt
      have k0 : (0 : Int) ≤ (k : Int) := by omega
      have k1 : (k : Int) < (n : Int) := by omega
      have hkl : k < L.length := by rw [HN.out]; exact hlt
      obtain ⟨p, hp⟩ : ∃ p, L[k] = p := ⟨_, rfl⟩
      obtain ⟨b1, off, rfl, hcell⟩ := H.out.task hkl hp
      obtain ⟨c0, c2⟩ := hcell wr (HK.out.2.fr.mono (fun _ _ h => h.elim))
      have HST := Lib.hid (filter_take1 (keepQ c b rest) L hkl hp)
      have HKN := Lib.hid hlt
      have hwk := wrap_succ (k := k) (by have := HLL.out; omega)
      have hmk : m ≤ n := by have := HK.out.1; have h2 := List.length_filter_le (keepQ c b rest) (L.take k); rw [List.length_take] at h2; omega
      have HMK := Lib.hid hmk
      obtain ⟨x, y⟩ := p
      simp only at c0 c2
      clear hk hlt hkl hp hcell hmk
      obtain ⟨z, hz⟩ : ∃ z, y.tmod b = z := ⟨_, rfl⟩
      by_cases hkp : keepQ c b rest (x, y) = true
      · rw [if_pos hkp] at HST
        have hcond : (x != c) = true ∨ ((x != c) = false ∧ (z == rest) = true) := by
          unfold keepQ at hkp
          simp only [Bool.or_eq_true, decide_eq_true_eq] at hkp
          by_cases hxc : x = c
          · rcases hkp with h | h
            · exact absurd hxc h
            · exact .inr ⟨by simp [hxc], by rw [beq_iff_eq, ← hz]; exact h⟩
          · exact .inl (by rw [bne_iff_ne]; exact hxc)
        clear hkp
        rcases hcond with hx1 | ⟨hx1, hx2⟩
        · go_wp2_with (at_builtin; (refine wpList_appendR teQ rfl (.tmp 45) (.tmp 53) rfl (.slice A1 m c1) m (tcs ((L.take k).filter (keepQ c b rest))) rfl (by have := Row.fr0 HK.out.2.row ((Fr.refl (fun _ => False) wr).alloc (.cells #[.int .i64 x, .int .i64 y] 63)); rw [HK.out.1] at this; exact this) _ 1 [.int .i64 x, .int .i64 y] rfl (Sl.at rfl rfl (fun j u hj => by rw [Nat.zero_add, (Bk.new wr _ _).cell]; simpa using hj)) (fun u hu => by simp at hu; rcases hu with rfl | rfl <;> rfl) (by have := HMK.out; have := HLL.out; unfold maxLen; omega) (by have := HMK.out; have := HLL.out; omega) ?_; intro A3 c3 w3 hr3 hf3 hm3; have HQ3 : Hid (NewQ w w3 (.slice A3 (m + 1) c3) ((L.take k).filter (keepQ c b rest) ++ [(x, y)])) := Lib.hid (by have h9 := HK.out.2.put (p := (x, y)) (A := A3) (c := c3) (by rw [HK.out.1]; exact hr3) hf3 (by rw [HK.out.1]; exact hm3); rw [HK.out.1] at h9; exact h9); clear hr3 hf3 hm3))
          go_roundw
          case rel => exact ⟨k + 1, m + 1, A3, c3, by first | rfl | (push_cast; rfl) | (go_num; done), rfl, HKN.out, by rw [HST.out]; exact ⟨by rw [List.length_append, HK.out.1]; rfl, HQ3.out⟩⟩
          case measure =>
            show n - ((k : Int) + 1).toNat < n - ((k : Int)).toNat
            exact meas_up HKN.out
        · go_wp2_with (at_builtin; (refine wpList_appendR teQ rfl (.tmp 45) (.tmp 53) rfl (.slice A1 m c1) m (tcs ((L.take k).filter (keepQ c b rest))) rfl (by have := Row.fr0 HK.out.2.row ((Fr.refl (fun _ => False) wr).alloc (.cells #[.int .i64 x, .int .i64 y] 63)); rw [HK.out.1] at this; exact this) _ 1 [.int .i64 x, .int .i64 y] rfl (Sl.at rfl rfl (fun j u hj => by rw [Nat.zero_add, (Bk.new wr _ _).cell]; simpa using hj)) (fun u hu => by simp at hu; rcases hu with rfl | rfl <;> rfl) (by have := HMK.out; have := HLL.out; unfold maxLen; omega) (by have := HMK.out; have := HLL.out; omega) ?_; intro A3 c3 w3 hr3 hf3 hm3; have HQ3 : Hid (NewQ w w3 (.slice A3 (m + 1) c3) ((L.take k).filter (keepQ c b rest) ++ [(x, y)])) := Lib.hid (by have h9 := HK.out.2.put (p := (x, y)) (A := A3) (c := c3) (by rw [HK.out.1]; exact hr3) hf3 (by rw [HK.out.1]; exact hm3); rw [HK.out.1] at h9; exact h9); clear hr3 hf3 hm3))
          go_roundw
          case rel => exact ⟨k + 1, m + 1, A3, c3, by first | rfl | (push_cast; rfl) | (go_num; done), rfl, HKN.out, by rw [HST.out]; exact ⟨by rw [List.length_append, HK.out.1]; rfl, HQ3.out⟩⟩
          case measure =>
            show n - ((k : Int) + 1).toNat < n - ((k : Int)).toNat
            exact meas_up HKN.out
      · rw [if_neg hkp, List.append_nil] at HST
        have hx1 : (x != c) = false := by
          by_cases hxc : x = c
          · simp [hxc]
          · exact absurd (by unfold keepQ; simp [hxc]) hkp
        have hx2 : (z == rest) = false := by
          rw [beq_eq_false_iff_ne, ← hz]
          exact fun e => hkp (by unfold keepQ; simp [e])
        clear hkp
        go_wp2
        go_roundw
        case rel => exact ⟨k + 1, m, A1, c1, by first | rfl | (push_cast; rfl) | (go_num; done), rfl, HKN.out, by rw [HST.out]; exact HK⟩
        case measure =>
          show n - ((k : Int) + 1).toNat < n - ((k : Int)).toNat
          exact meas_up HKN.out
    · have di : decide ((k : Int) < (n : Int)) = false := decide_eq_false (by omega)
      have di' : decide (k < n) = false := decide_eq_false hlt
      obtain rfl : k = n := by omega
      have htk : L.take k = L := List.take_of_length_le (by rw [HN.out]; exact Nat.le_refl _)
      have HK2 : Hid (R.length = m ∧ NewQ w wr (.slice A1 m c1) R) := Lib.hid (by have := HK.out; rw [htk, HR.out] at this; exact this)
      have hmr := HK2.out.1
      have hws : IntKind.wrap .i64 ((k : Int) - (m : Int)) = ((k - m : Nat) : Int) := by
        have := HRL.out; have := HLL.out
        have e9 : ((k - m : Nat) : Int) = (k : Int) - (m : Int) := by omega
        rw [e9]; simp only [IntKind.wrap_i64]; omega
      have z1 : wr.frozen? ⟨g, 1, none⟩ = false := (H.out.fr0 HK2.out.2.fr).blk.frozen 1
      clear hk hlt htk HK
      obtain ⟨d, hd⟩ : ∃ d : Int, ((k - m : Nat) : Int) = d := ⟨_, rfl⟩
      rw [hd] at hws
      have HD := Lib.hid hd
      clear hd hmr
      go_wp2
      go_ret
      refine ⟨?_, ?_⟩
      · rw [HK2.out.1, HN.out, HD.out]; rfl
      · refine H.out.relay (HK2.out.2.fr.mono (fun _ _ h => h.elim)) (v' := .slice A1 m c1) HK2.out.2.row (fun x hx => .inr (HK2.out.2.new x hx)) ?_ (Fr.setCell (S := fun x => x = g) (p := ⟨g, 1, none⟩) (Fr.refl _ _) (fun _ => rfl) _) (by have := HRL.out; have := HLL.out; omega)
        have := (H.out.fr0 HK2.out.2.fr).blk.set 1 (.slice A1 m c1)
        simpa using this

/-- All tasks, by the names of a row. -/
def allL (L : List (Int × Int)) (ns : List Int) : List (Int × Int) := ns.flatMap fun c => L.filter fun p => decide (p.1 = c)
theorem allL_next (L : List (Int × Int)) (ns : List Int) {j : Nat} (h : j < ns.length) {x : Int} (hx : ns[j]'h = x) : allL L (ns.take (j + 1)) = allL L (ns.take j) ++ L.filter fun p => decide (p.1 = x) := by
  unfold allL
  rw [List.take_add_one, List.getElem?_eq_getElem h, hx, List.flatMap_append]
  simp
theorem allL_len (L : List (Int × Int)) : ∀ ns : List Int, ns.Nodup → (allL L ns).length ≤ L.length := by
  intro ns hn
  have h : ∀ ns : List Int, ns.Nodup → (allL L ns).length = (L.filter fun p => decide (p.1 ∈ ns)).length := by
    intro ns
    induction ns with
    | nil => intro _; show 0 = _; rw [List.filter_eq_nil_iff.2 (fun p _ => by simp)]; rfl
    | cons c r ih =>
      intro hnd
      obtain ⟨h1, h2⟩ := List.nodup_cons.1 hnd
      have e : allL L (c :: r) = (L.filter fun p => decide (p.1 = c)) ++ allL L r := by simp [allL]
      rw [e, List.length_append, ih h2]
      clear e ih hnd
      induction L with
      | nil => rfl
      | cons p L ihL =>
        by_cases hc : p.1 = c
        · have : p.1 ∉ r := by rw [hc]; exact h1
          simp [hc, h1] at ihL ⊢; omega
        · by_cases hr : p.1 ∈ r
          · simp [hc, hr] at ihL ⊢; omega
          · simp [hc, hr] at ihL ⊢; omega
  rw [h ns hn]
  exact List.length_filter_le _ _

set_option maxRecDepth 100000 in
set_option maxHeartbeats 8000000 in
theorem rall_any {w : World} {g : Nat} {F : Nat → Prop} {most : Int} {L : List (Int × Int)} {v : Value} (h : RfM w g F most L v) :
    Calls Try.prog 37 #[.pointer (some ⟨g, 0, none⟩)] w fun e w' => ∃ A9 c9 m, e = .returned (.slice A9 m c9) ∧ (allL L (nmL L L.length)).length = m ∧ NewQ w w' (.slice A9 m c9) (allL L (nmL L L.length)) := by
  have CN := Lib.hid (rnames_any h)
  have HND : Hid ((nmL L L.length).Nodup) := Lib.hid ((nmL_rise L L.length).imp (fun h e => by omega))
  obtain ⟨A, cp, rfl, hnc, -, -⟩ := Row.form h.row
  obtain ⟨n, hn⟩ : ∃ n, L.length = n := ⟨_, rfl⟩
  rw [hn] at h hnc CN HND
  have H := Lib.hid h
  have HN := Lib.hid hn
  have HLL : Hid (n ≤ 1000000) := Lib.hid (by rw [← hn]; exact h.ll)
  have HNL : Hid ((nmL L n).length ≤ n) := Lib.hid (nmL_len L n)
  rw [hn]
  clear h hn hnc
  generalize nmL L n = ns at *
  go_enter Try.func37, Try.ntmps37
  go_wp2_with fail
  refine CN.out.mono ?_; rintro e w1 ⟨A9, c9, nl, rfl, hnl, hnw⟩
  have HNW := Lib.hid hnw
  have HNS := Lib.hid hnl
  have HZL : Hid (nl ≤ 1000000) := Lib.hid (by rw [← hnl]; have := HNL.out; have := HLL.out; omega)
  clear hnl hnw CN
  go_wp2_with fail
  go_loopw [3, 5] (fun vo vi wr => ∃ (j m : Nat) (A1 : Option Addr) (c1 : Nat), vi = .int .i64 (j : Int) ∧ vo = .slice A1 m c1 ∧ j ≤ nl ∧ Hid ((allL L (ns.take j)).length = m ∧ NewQ w1 wr (.slice A1 m c1) (allL L (ns.take j)))) (fun _ vi _ => nl - (intOf vi).toNat)
  case atStart => exact ⟨0, 0, none, 0, rfl, rfl, Nat.zero_le _, ⟨rfl, ⟨Row.nil _ _ _, Fr.refl _ _, fun k hk => by cases hk⟩⟩⟩
  case round =>
    obtain ⟨j, m0, A0, c0, rfl, rfl, hj, HJ⟩ := hrel
    by_cases hlt : j < nl
    · have di : decide ((j : Int) < (nl : Int)) = true := decide_eq_true (by omega)
      have di' : decide (j < nl) = true := decide_eq_true hlt
      have j0 : (0 : Int) ≤ (j : Int) := by omega
      have j1 : (j : Int) < (nl : Int) := by omega
      have hjl : j < ns.length := by rw [HNS.out]; exact hlt
      obtain ⟨x, hx⟩ : ∃ x, ns[j] = x := ⟨_, rfl⟩
      have HNX := Lib.hid (allL_next L ns hjl hx)
      have HJN := Lib.hid hlt
      have HCN : Hid (∃ b9 o9, A9 = some ⟨b9, o9, none⟩ ∧ ∀ w', Fr (fun _ => False) w1 w' → w'.cell? ⟨b9, o9 + j, none⟩ = some (.int .i64 x)) := Lib.hid (by
        obtain ⟨A', c', e, _, _, hA⟩ := HNW.out.row.form
        injection e with e1 _ _
        subst e1
        obtain ⟨b9, o9, rfl⟩ := hA (by omega)
        exact ⟨b9, o9, rfl, fun w' hf => (HNW.out.row.fr0 hf).cell (by rw [List.getElem?_map, List.getElem?_eq_getElem hjl, hx]; rfl)⟩)
      obtain ⟨b9, o9, rfl, hcn⟩ := HCN.out
      have HC9 := Lib.hid hcn
      have hwj := wrap_succ (k := j) (by have := HZL.out; omega)
      have HLE : Hid ((allL L (ns.take (j + 1))).length ≤ 1000000) := Lib.hid (Nat.le_trans (allL_len L _ (HND.out.sublist (List.take_sublist _ _))) (by rw [HN.out]; exact HLL.out))
      rw [HNX.out] at HLE
      have HI0 : Hid ((allL L (ns.take j) ++ (L.take 0).filter fun p => decide (p.1 = x)).length = m0 ∧ NewQ w1 wr (.slice A0 m0 c0) (allL L (ns.take j) ++ (L.take 0).filter fun p => decide (p.1 = x))) := Lib.hid (by simpa using HJ.out)
      clear hj hlt hjl hx HCN HJ hcn
      go_wp2_with fail
      go_loopw [3, 6] (fun vo vi wr => ∃ (k m : Nat) (A1 : Option Addr) (c1 : Nat), vi = .int .i64 (k : Int) ∧ vo = .slice A1 m c1 ∧ k ≤ n ∧ Hid ((allL L (ns.take j) ++ (L.take k).filter fun p => decide (p.1 = x)).length = m ∧ NewQ w1 wr (.slice A1 m c1) (allL L (ns.take j) ++ (L.take k).filter fun p => decide (p.1 = x)))) (fun _ vi _ => n - (intOf vi).toNat)
      case atStart => exact ⟨0, m0, A0, c0, rfl, rfl, Nat.zero_le _, HI0⟩
      case round =>
        clear HI0
        obtain ⟨k, m, A1, c1, rfl, rfl, hk, HK⟩ := hrel
        have q1 : wr.cell? ⟨g, 1, none⟩ = some (.slice A n cp) := (H.out.fr0 (HNW.out.fr.trans HK.out.2.fr (fun _ _ h => h))).blk.cell 1
        by_cases hlt : k < n
        · have dk : decide ((k : Int) < (n : Int)) = true := decide_eq_true (by omega)
          have dk' : decide (k < n) = true := decide_eq_true hlt
          have k0 : (0 : Int) ≤ (k : Int) := by omega
          have k1 : (k : Int) < (n : Int) := by omega
          have hkl : k < L.length := by rw [HN.out]; exact hlt
          obtain ⟨p, hp⟩ : ∃ p, L[k] = p := ⟨_, rfl⟩
          obtain ⟨b1, off, rfl, hcell⟩ := H.out.task hkl hp
          have HST := Lib.hid (filter_take1 (fun p => decide (p.1 = x)) L hkl hp)
          have HKN := Lib.hid hlt
          have hwk := wrap_succ (k := k) (by have := HLL.out; omega)
          have HMK : Hid (m ≤ 1000000) := Lib.hid (by
            have h1 := HLE.out
            rw [List.length_append] at h1
            have h2 := HK.out.1
            rw [List.length_append] at h2
            have h3 := ((List.take_sublist k L).filter fun p => decide (p.1 = x)).length_le
            omega)
          obtain ⟨y, t⟩ := p
          have HCL : Hid (∀ w', Fr (fun _ => False) wr w' → w'.cell? ⟨b1, off + k * 2, none⟩ = some (.int .i64 y) ∧ w'.cell? ⟨b1, off + k * 2 + 1, none⟩ = some (.int .i64 t)) := Lib.hid (fun w' hf => hcell w' ((HNW.out.fr.trans (HK.out.2.fr.trans hf (fun _ _ h => h)) (fun _ _ h => h)).mono (fun _ _ h => h.elim)))
          have qy : ∀ q, (wr.drewN q).cell? ⟨b1, off + k * 2, none⟩ = some (.int .i64 y) := fun q => (HCL.out _ ((Fr.refl _ _).drewN q)).1
          have qg : ∀ q, (wr.drewN q).cell? ⟨g, 1, none⟩ = some (.slice (some ⟨b1, off, none⟩) n cp) := fun q => (H.out.fr0 (HNW.out.fr.trans (HK.out.2.fr.trans ((Fr.refl _ _).drewN q) (fun _ _ h => h)) (fun _ _ h => h))).blk.cell 1
          have q9 : ∀ q, (wr.drewN q).cell? ⟨b9, o9 + j, none⟩ = some (.int .i64 x) := fun q => HC9.out _ (HK.out.2.fr.drewN q)
          clear hk hlt hkl hp hcell
          by_cases hyx : y = x
          · have dyx : (y == x) = true := by rw [beq_iff_eq]; exact hyx
            simp only [hyx, decide_true, if_true] at HST
            have HYX := Lib.hid hyx
            clear hyx
            go_wp2_with fail
            go_quiet (fail)
            obtain ⟨w5, hw5⟩ : ∃ w5, wr.drewN nq = w5 := ⟨_, rfl⟩
            have HF5 : Hid (Fr (fun _ => False) wr w5) := Lib.hid (by rw [← hw5]; exact (Fr.refl _ _).drewN _)
            have HQ5 := Lib.hid (HK.out.2.fr0 HF5.out)
            obtain ⟨p0, p1⟩ := HCL.out w5 HF5.out
            have pg : w5.cell? ⟨g, 1, none⟩ = some (.slice (some ⟨b1, off, none⟩) n cp) := (H.out.fr0 (HNW.out.fr.trans HQ5.out.fr (fun _ _ h => h))).blk.cell 1
            rw [hw5]
            clear hw5 qy qg q9 q1
            go_wp2_with (at_builtin; (refine wpList_appendR teQ rfl (.tmp 37) (.tmp 45) rfl (.slice A1 m c1) m (tcs (allL L (ns.take j) ++ (L.take k).filter fun p => decide (p.1 = x))) rfl (by have := Row.fr0 HQ5.out.row ((Fr.refl (fun _ => False) w5).alloc (.cells #[.int .i64 y, .int .i64 t] 63)); rw [HK.out.1] at this; exact this) _ 1 [.int .i64 y, .int .i64 t] rfl (Sl.at rfl rfl (fun j u hj => by rw [Nat.zero_add, (Bk.new w5 _ _).cell]; simpa using hj)) (fun u hu => by simp at hu; rcases hu with rfl | rfl <;> rfl) (by have := HMK.out; unfold maxLen; omega) (by have := HMK.out; omega) ?_; intro A3 c3 w6 hr3 hf3 hm3; have HQ3 : Hid (NewQ w1 w6 (.slice A3 (m + 1) c3) ((allL L (ns.take j) ++ (L.take k).filter fun p => decide (p.1 = x)) ++ [(y, t)])) := Lib.hid (by have h9 := HQ5.out.put (p := (y, t)) (A := A3) (c := c3) (by rw [HK.out.1]; exact hr3) hf3 (by rw [HK.out.1]; exact hm3); rw [HK.out.1] at h9; exact h9); clear hr3 hf3 hm3))
            go_roundw
            case rel => exact ⟨k + 1, m + 1, A3, c3, by first | rfl | (push_cast; rfl) | (go_num; done), rfl, HKN.out, by have h9 := HQ3.out; rw [HYX.out] at h9; rw [HST.out, ← List.append_assoc]; exact ⟨by rw [List.length_append, HK.out.1]; rfl, h9⟩⟩
            case measure =>
              show n - ((k : Int) + 1).toNat < n - ((k : Int)).toNat
              exact meas_up HKN.out
          · have dyx : (y == x) = false := by rw [beq_eq_false_iff_ne]; exact hyx
            simp only [hyx, decide_false, Bool.false_eq_true, if_false, List.append_nil] at HST
            clear hyx
            go_wp2_with fail
            go_quiet (fail)
            go_wp2
            go_roundw
            case rel => exact ⟨k + 1, m, A1, c1, by first | rfl | (push_cast; rfl) | (go_num; done), rfl, HKN.out, by rw [HST.out]; exact ⟨HK.out.1, HK.out.2.fr0 ((Fr.refl _ _).drewN _)⟩⟩
            case measure =>
              show n - ((k : Int) + 1).toNat < n - ((k : Int)).toNat
              exact meas_up HKN.out
        · have dk : decide ((k : Int) < (n : Int)) = false := decide_eq_false (by omega)
          have dk' : decide (k < n) = false := decide_eq_false hlt
          obtain rfl : k = n := by omega
          have htk : L.take k = L := List.take_of_length_le (by rw [HN.out]; exact Nat.le_refl _)
          have HK2 := HK.out
          rw [htk, ← HNX.out] at HK2
          have HK3 := Lib.hid HK2
          clear hk hlt htk HK HK2
          go_wp2
          go_roundw
          case rel => exact ⟨j + 1, m, A1, c1, by first | rfl | (push_cast; rfl) | (go_num; done), rfl, HJN.out, HK3⟩
          case measure =>
            show nl - ((j : Int) + 1).toNat < nl - ((j : Int)).toNat
            exact meas_up HJN.out
    · have di : decide ((j : Int) < (nl : Int)) = false := decide_eq_false (by omega)
      have di' : decide (j < nl) = false := decide_eq_false hlt
      obtain rfl : j = nl := by omega
      have htk : ns.take j = ns := List.take_of_length_le (by rw [HNS.out]; exact Nat.le_refl _)
      have HK2 := HJ.out
      rw [htk] at HK2
      have HK3 := Lib.hid HK2
      clear hj hlt htk HJ HK2
      go_wp2
      go_ret
      exact ⟨_, _, _, rfl, HK3.out.1, ⟨HK3.out.2.row, HNW.out.fr.trans HK3.out.2.fr (fun _ _ h => h), fun z hz => Nat.le_trans HNW.out.fr.size (HK3.out.2.new z hz)⟩⟩
end Go.Proofs.Ytkinbcmnfpkncaa
