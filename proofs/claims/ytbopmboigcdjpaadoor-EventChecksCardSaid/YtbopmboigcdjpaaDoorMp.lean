/- event: same, slices.EqualFunc at it, Prefix. -/
import Derived.Test.YtbopmboigcdjpaaDoorMn
import Derived.Test.YtbopmboigcdjpaaDoorStr
namespace Go.Proofs.YtbopmboigcdjpaaDoor
open Go.RowKit Go.Maps

theorem strOf_beqM (X Y : List UInt8) : ((strOf X).toList == (strOf Y).toList) = (X == Y) := by
  rw [Bool.eq_iff_iff]
  simp [strOf]
set_option maxRecDepth 100000 in
set_option maxHeartbeats 2000000 in
theorem bytesEq_any (A B : Option Addr) (n m c c' : Nat) (X Y : List UInt8) (w : World) (hx : Rd8 w A X) (hX : X.length = n) (hy : Rd8 w B Y) (hY : Y.length = m) :
    Calls Tryd.prog 57 #[.slice A n c, .slice B m c'] w fun e w' => e = .returned (.bool (X == Y)) ∧ w' = w := by
  have s1 := run_str8 Tryd.t8 Tryd.underlying5 Tryd.underlying9 c hx hX
  have s2 := run_str8 Tryd.t8 Tryd.underlying5 Tryd.underlying9 c' hy hY
  have HE := Lib.hid (strOf_beqM X Y)
  rw [← HE.out]
  clear hx hX hy hY HE
  go_enter Tryd.func57, Tryd.ntmps57
  go_wp2_with fail
  go_ret
  exact ⟨rfl, rfl⟩

def sameE (a b : Ev) : Bool := (a.k == b.k) && (a.a == b.a) && (a.r == b.r) && (a.i == b.i) && (a.l == b.l) && (a.n == b.n) && (a.d == b.d)
set_option maxRecDepth 100000 in
set_option maxHeartbeats 8000000 in
theorem same_any (p q : VL) (F G : Nat → Prop) (w : World) (hp : RdV w F p) (hq : RdV w G q) :
    Calls Tryd.prog 45 #[p.val, q.val] w fun e w' => e = .returned (.bool (sameE p.e q.e)) ∧ Fr (fun _ => False) w w' := by
  have HF : Hid (Fr (fun _ => False) w ((w.alloc (.cells p.cells.toArray 47)).alloc (.cells q.cells.toArray 47))) := Lib.hid (((Fr.refl _ _).alloc _).alloc _)
  have CB := Lib.hid (fun w' (hf : Fr (fun _ => False) w w') => bytesEq_any p.A q.A p.e.d.length q.e.d.length p.c q.c p.e.d q.e.d w' (hp.rd.fr hf (fun _ _ _ h => h)) rfl (hq.rd.fr hf (fun _ _ _ h => h)) rfl)
  have HS : Hid (sameE p.e q.e = ((p.e.k == q.e.k) && (p.e.a == q.e.a) && (p.e.r == q.e.r) && (p.e.i == q.e.i) && (p.e.l == q.e.l) && (p.e.n == q.e.n) && (p.e.d == q.e.d))) := Lib.hid rfl
  generalize sameE p.e q.e = R at *
  obtain ⟨⟨pk, pa, pr, pi, pl, pn, pd⟩, A, c⟩ := p
  obtain ⟨⟨qk, qa, qr, qi, ql, qn, qd⟩, B, c'⟩ := q
  unfold VL.val VL.cells VL.bv at *
  simp only at *
  obtain ⟨x6, h6⟩ : ∃ x, (pd == qd) = x := ⟨_, rfl⟩
  rw [h6] at CB HS
  generalize pd.length = pL at *
  generalize qd.length = qL at *
  clear h6 hp hq
  obtain ⟨x0, h0⟩ : ∃ x, (pk == qk) = x := ⟨_, rfl⟩
  obtain ⟨x1, h1⟩ : ∃ x, (pa == qa) = x := ⟨_, rfl⟩
  obtain ⟨x2, h2⟩ : ∃ x, (pr == qr) = x := ⟨_, rfl⟩
  obtain ⟨x3, h3⟩ : ∃ x, (pi == qi) = x := ⟨_, rfl⟩
  obtain ⟨x4, h4⟩ : ∃ x, (pl == ql) = x := ⟨_, rfl⟩
  obtain ⟨x5, h5⟩ : ∃ x, (pn == qn) = x := ⟨_, rfl⟩
  rw [h0, h1, h2, h3, h4, h5] at HS
  cases x0 with
  | false =>
    have hres : R = false := by rw [HS.out]; simp
    clear HS CB h1 h2 h3 h4 h5
    go_enter Tryd.func45, Tryd.ntmps45
    go_wp2
    go_ret
    exact ⟨by rw [hres]; rfl, HF.out⟩
  | true =>
    cases x1 with
    | false =>
      have hres : R = false := by rw [HS.out]; simp
      clear HS CB h2 h3 h4 h5
      go_enter Tryd.func45, Tryd.ntmps45
      go_wp2
      go_ret
      exact ⟨by rw [hres]; rfl, HF.out⟩
    | true =>
      cases x2 with
      | false =>
        have hres : R = false := by rw [HS.out]; simp
        clear HS CB h3 h4 h5
        go_enter Tryd.func45, Tryd.ntmps45
        go_wp2
        go_ret
        exact ⟨by rw [hres]; rfl, HF.out⟩
      | true =>
        cases x3 with
        | false =>
          have hres : R = false := by rw [HS.out]; simp
          clear HS CB h4 h5
          go_enter Tryd.func45, Tryd.ntmps45
          go_wp2
          go_ret
          exact ⟨by rw [hres]; rfl, HF.out⟩
        | true =>
          cases x4 with
          | false =>
            have hres : R = false := by rw [HS.out]; simp
            clear HS CB h5
            go_enter Tryd.func45, Tryd.ntmps45
            go_wp2
            go_ret
            exact ⟨by rw [hres]; rfl, HF.out⟩
          | true =>
            cases x5 with
            | false =>
              have hres : R = false := by rw [HS.out]; simp
              clear HS CB 
              go_enter Tryd.func45, Tryd.ntmps45
              go_wp2
              go_ret
              exact ⟨by rw [hres]; rfl, HF.out⟩
            | true =>
              have HRES : Hid (R = x6) := Lib.hid (by rw [HS.out]; simp)
              clear HS
              go_enter Tryd.func45, Tryd.ntmps45
              go_wp2_with fail
              refine (CB.out _ HF.out).mono ?_; rintro e w1 ⟨rfl, rfl⟩
              cases x6 <;>
              · go_wp2
                go_ret
                exact ⟨by rw [HRES.out]; rfl, HF.out⟩

/-- Are rows of one length the same? -/
def allE (a b : List Ev) : Nat → Bool
  | 0 => true
  | k + 1 => allE a b k && sameE (a.getD k default) (b.getD k default)
theorem allE_no {a b : List Ev} {k : Nat} (h : sameE (a.getD k default) (b.getD k default) = false) : ∀ n, k < n → allE a b n = false
  | 0, hn => by omega
  | n + 1, hn => by
    unfold allE
    by_cases hk : k = n
    · subst hk; rw [h]; simp
    · rw [allE_no h n (by omega)]; rfl
theorem getD_evs {ps : List VL} {k : Nat} (h : k < ps.length) : (evs ps).getD k default = (ps.getD k default).e := by
  unfold evs; simp [List.getD, h]

set_option maxRecDepth 100000 in
set_option maxHeartbeats 8000000 in
theorem equalFunc_any (A B : Option Addr) (n c c' : Nat) (ps qs : List VL) (F G : Nat → Prop) (w : World) (hp : Vs w A n ps F) (hq : Vs w B n qs G) (hn : n ≤ 5000000000000) :
    Calls Tryd.prog 44 #[.slice A n c, .slice B n c', .func (.func 45) #[] #[]] w fun e w' => e = .returned (.bool (allE (evs ps) (evs qs) n)) ∧ Fr (fun _ => False) w w' := by
  have HP := Lib.hid hp
  have HQ := Lib.hid hq
  have hnI : (n : Int) ≤ 5000000000000 := by omega
  have d0 : ((n : Int) != (n : Int)) = false := by simp
  have d0' : (n != n) = false := by simp
  clear hp hq hn
  go_enter Tryd.func44, Tryd.ntmps44
  go_wp2_with fail
  go_loopw [17] (fun i wr => ∃ (k : Nat), i = .int .i64 (k : Int) ∧ k ≤ n ∧ Hid (allE (evs ps) (evs qs) k = true ∧ Fr (fun _ => False) w wr)) (fun i _ => n - (intOf i).toNat)
  case atStart => exact ⟨0, rfl, Nat.zero_le _, ⟨rfl, Fr.refl _ _⟩⟩
  case round =>
    obtain ⟨k, rfl, hk, HK⟩ := hrel
    have hk0 : (0 : Int) ≤ (k : Int) := by omega
    by_cases hlt : k < n
    · have hlt' : (k : Int) < n := by omega
      have w1 : IntKind.i64.wrap ((k : Int) + 1) = (k : Int) + 1 := IntWalk.i64_in _ (by omega)
      obtain ⟨b, off, rfl, -, hcs, hrd⟩ := (HP.out.fr0 HK.out.2).at hlt
      obtain ⟨b2, off2, rfl, -, hcs2, hrd2⟩ := (HQ.out.fr0 HK.out.2).at hlt
      have e1 := getD_evs (ps := ps) (k := k) (by rw [HP.out.len]; exact hlt)
      have e2 := getD_evs (ps := qs) (k := k) (by rw [HQ.out.len]; exact hlt)
      have HN : Hid (allE (evs ps) (evs qs) (k + 1) = sameE (ps.getD k default).e (qs.getD k default).e) := Lib.hid (by unfold allE; rw [HK.out.1, e1, e2]; rfl)
      have HNO : Hid (sameE (ps.getD k default).e (qs.getD k default).e = false → allE (evs ps) (evs qs) n = false) := Lib.hid (fun h => allE_no (by rw [e1, e2]; exact h) n hlt)
      generalize ps.getD k default = p at *
      generalize qs.getD k default = q at *
      have CS := Lib.hid (fun w' (hf : Fr (fun _ => False) wr w') => same_any p q _ _ w' (hrd.fr hf (fun _ _ h => h)) (hrd2.fr hf (fun _ _ h => h)))
      have hv : p.val = .agg #[.int .i64 p.e.k, .int .i64 p.e.a, .int .i64 p.e.r, .int .i64 p.e.i, .int .i64 p.e.l, .int .i64 p.e.n, .slice p.A p.e.d.length p.c] := rfl
      have hv2 : q.val = .agg #[.int .i64 q.e.k, .int .i64 q.e.a, .int .i64 q.e.r, .int .i64 q.e.i, .int .i64 q.e.l, .int .i64 q.e.n, .slice q.A q.e.d.length q.c] := rfl
      rw [hv, hv2] at CS
      obtain ⟨x, hx⟩ : ∃ x, sameE p.e q.e = x := ⟨_, rfl⟩
      rw [hx] at CS HN HNO
      have pc0 : wr.cell? ⟨b, off + k * 7, none⟩ = some (.int .i64 p.e.k) := hcs 0 _ rfl
      have pc1 : wr.cell? ⟨b, off + k * 7 + 1, none⟩ = some (.int .i64 p.e.a) := hcs 1 _ rfl
      have pc2 : wr.cell? ⟨b, off + k * 7 + 2, none⟩ = some (.int .i64 p.e.r) := hcs 2 _ rfl
      have pc3 : wr.cell? ⟨b, off + k * 7 + 3, none⟩ = some (.int .i64 p.e.i) := hcs 3 _ rfl
      have pc4 : wr.cell? ⟨b, off + k * 7 + 4, none⟩ = some (.int .i64 p.e.l) := hcs 4 _ rfl
      have pc5 : wr.cell? ⟨b, off + k * 7 + 5, none⟩ = some (.int .i64 p.e.n) := hcs 5 _ rfl
      have pc6 : wr.cell? ⟨b, off + k * 7 + 6, none⟩ = some (.slice p.A p.e.d.length p.c) := hcs 6 _ rfl
      have qc0 : wr.cell? ⟨b2, off2 + k * 7, none⟩ = some (.int .i64 q.e.k) := hcs2 0 _ rfl
      have qc1 : wr.cell? ⟨b2, off2 + k * 7 + 1, none⟩ = some (.int .i64 q.e.a) := hcs2 1 _ rfl
      have qc2 : wr.cell? ⟨b2, off2 + k * 7 + 2, none⟩ = some (.int .i64 q.e.r) := hcs2 2 _ rfl
      have qc3 : wr.cell? ⟨b2, off2 + k * 7 + 3, none⟩ = some (.int .i64 q.e.i) := hcs2 3 _ rfl
      have qc4 : wr.cell? ⟨b2, off2 + k * 7 + 4, none⟩ = some (.int .i64 q.e.l) := hcs2 4 _ rfl
      have qc5 : wr.cell? ⟨b2, off2 + k * 7 + 5, none⟩ = some (.int .i64 q.e.n) := hcs2 5 _ rfl
      have qc6 : wr.cell? ⟨b2, off2 + k * 7 + 6, none⟩ = some (.slice q.A q.e.d.length q.c) := hcs2 6 _ rfl
      clear hcs hcs2 hrd hrd2 hv hv2 e1 e2 hx
      generalize p.e.k = pk at *
      generalize p.e.a = pa at *
      generalize p.e.r = pr at *
      generalize p.e.i = pi at *
      generalize p.e.l = pl at *
      generalize p.e.n = pn at *
      generalize p.e.d.length = pd at *
      generalize p.A = pA at *
      generalize p.c = pc at *
      generalize q.e.k = qk at *
      generalize q.e.a = qa at *
      generalize q.e.r = qr at *
      generalize q.e.i = qi at *
      generalize q.e.l = ql at *
      generalize q.e.n = qn at *
      generalize q.e.d.length = qd at *
      generalize q.A = qA at *
      generalize q.c = qc at *
      have hb1 := World.block_lt_of_cell? wr _ pc0
      have hb2 := World.block_lt_of_cell? wr _ qc0
      have HFA : Hid (Fr (fun _ => False) wr ((wr.alloc (.cells #[.int .i64 pk, .int .i64 pa, .int .i64 pr, .int .i64 pi, .int .i64 pl, .int .i64 pn, .slice pA pd pc] 47)).alloc (.cells #[.int .i64 qk, .int .i64 qa, .int .i64 qr, .int .i64 qi, .int .i64 ql, .int .i64 qn, .slice qA qd qc] 47))) := Lib.hid (((Fr.refl _ _).alloc _).alloc _)
      go_wp2_with fail
      refine (CS.out _ HFA.out).mono ?_; rintro e w2 ⟨rfl, hf2⟩
      have HF2 := Lib.hid ((HK.out.2.trans HFA.out (fun _ _ h => h)).trans hf2 (fun _ _ h => h))
      clear hf2 CS pc0 pc1 pc2 pc3 pc4 pc5 pc6 qc0 qc1 qc2 qc3 qc4 qc5 qc6
      cases x with
      | false =>
        go_wp2
        go_ret
        exact ⟨by rw [HNO.out (by first | rfl | trivial)]; rfl, HF2.out⟩
      | true =>
        go_wp2
        go_roundw
        case rel => exact ⟨k + 1, by first | rfl | (go_num; done) | (congr 1; omega), by omega, ⟨HN.out, HF2.out⟩⟩
        case measure => (simp [intOf]) <;> omega
    · obtain rfl : k = n := by omega
      go_wp2
      go_ret
      exact ⟨by rw [HK.out.1]; rfl, HK.out.2⟩

def prefB (a b : List Ev) : Bool := decide (a.length ≤ b.length) && allE a b a.length
theorem allE_take (a b : List Ev) (m : Nat) : ∀ k, k ≤ m → allE a (b.take m) k = allE a b k
  | 0, _ => rfl
  | k + 1, h => by
    unfold allE
    rw [allE_take a b m k (by omega)]
    congr 2
    simp [List.getD, List.getElem?_take, show k < m by omega]
set_option maxRecDepth 100000 in
set_option maxHeartbeats 4000000 in
theorem prefix_any (A B : Option Addr) (n m c c' : Nat) (ps qs : List VL) (F G : Nat → Prop) (w : World) (hp : Vs w A n ps F) (hq : Vs w B m qs G) (hn : n ≤ 5000000000000) (hm : m ≤ 5000000000000) (hmc : m ≤ c') (hc : c' ≤ maxLen) :
    Calls Tryd.prog 25 #[.slice A n c, .slice B m c'] w fun e w' => e = .returned (.bool (prefB (evs ps) (evs qs))) ∧ Fr (fun _ => False) w w' := by
  have hl1 : (evs ps).length = n := by unfold evs; simpa using hp.len
  have hl2 : (evs qs).length = m := by unfold evs; simpa using hq.len
  unfold prefB
  rw [hl1, hl2]
  by_cases hnm : n ≤ m
  · have d0 : decide ((n : Int) ≤ (m : Int)) = true := decide_eq_true (by omega)
    have d0' : decide (n ≤ m) = true := decide_eq_true hnm
    have CE := Lib.hid (equalFunc_any A B n c c' ps (qs.take n) F G w hp (hq.take n hnm) hn)
    have hev : evs (qs.take n) = (evs qs).take n := by unfold evs; rw [List.map_take]
    rw [hev, allE_take _ _ n n (Nat.le_refl _)] at CE
    rw [d0', Bool.true_and]
    obtain ⟨x, hx⟩ : ∃ x, allE (evs ps) (evs qs) n = x := ⟨_, rfl⟩
    rw [hx] at CE ⊢
    have hnI : (n : Int) ≤ 5000000000000 := by omega
    have hn0 : (0 : Int) ≤ (n : Int) := by omega
    have hnc : (n : Int) ≤ (c' : Int) := by omega
    have hnc' : n ≤ c' := by omega
    clear hp hq hl1 hl2 hx hev
    go_enter Tryd.func25, Tryd.ntmps25
    go_wp2_with fail
    refine CE.out.mono ?_; rintro e w1 ⟨rfl, hf1⟩
    go_wp2
    go_ret
    exact ⟨rfl, hf1⟩
  · have d0 : decide ((n : Int) ≤ (m : Int)) = false := decide_eq_false (by omega)
    have d0' : decide (n ≤ m) = false := decide_eq_false hnm
    rw [d0', Bool.false_and]
    clear hp hq hl1 hl2 hnm
    go_enter Tryd.func25, Tryd.ntmps25
    go_wp2
    go_ret
    exact ⟨rfl, Fr.refl _ _⟩
end Go.Proofs.YtbopmboigcdjpaaDoor
