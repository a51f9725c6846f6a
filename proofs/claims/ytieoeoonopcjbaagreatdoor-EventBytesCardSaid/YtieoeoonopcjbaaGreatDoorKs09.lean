import Derived.Test.YtieoeoonopcjbaaGreatDoorKs08
import Derived.Test.YtieoeoonopcjbaaGreatDoorRows
import Derived.ProofKit
import Derived.OpenShut
import Derived.Deep.DeepHandedRow
import Derived.Lib.LaidTab
import Derived.LaidHandle
import Derived.Test.YtieoeoonopcjbaaGreatDoorCards
import Derived.Test.YtieoeoonopcjbaaGreatDoorTie
import Derived.Deep.Strs
import Derived.Deep.Grids

/- event: same, slices.EqualFunc at it, Prefix. -/
namespace Go.Proofs.YtieoeoonopcjbaaGreatDoor
open Go.RowKit Go.Maps

theorem strOf_beqM (X Y : List UInt8) : ((strOf X).toList == (strOf Y).toList) = (X == Y) := by
  rw [Bool.eq_iff_iff]
  simp [strOf]
set_option maxRecDepth 100000 in
set_option maxHeartbeats 2000000 in
theorem bytesEq_any (A B : Option Addr) (n m c c' : Nat) (X Y : List UInt8) (w : World) (hx : Rd8 w A X) (hX : X.length = n) (hy : Rd8 w B Y) (hY : Y.length = m) :
    Calls Tryz.prog 116 #[.slice A n c, .slice B m c'] w fun e w' => e = .returned (.bool (X == Y)) ∧ w' = w := by
  have s1 := run_str8 Tryz.t8 Tryz.underlying5 Tryz.underlying9 c hx hX
  have s2 := run_str8 Tryz.t8 Tryz.underlying5 Tryz.underlying9 c' hy hY
  have HE := Lib.hid (strOf_beqM X Y)
  rw [← HE.out]
  clear hx hX hy hY HE
  go_enter Tryz.func116, Tryz.ntmps116
  go_wp2_with fail
  go_ret
  exact ⟨rfl, rfl⟩

def sameE (a b : Ev) : Bool := (a.k == b.k) && (a.a == b.a) && (a.r == b.r) && (a.i == b.i) && (a.l == b.l) && (a.n == b.n) && (a.d == b.d)
set_option maxRecDepth 100000 in
set_option maxHeartbeats 8000000 in
theorem same_any (p q : VL) (F G : Nat → Prop) (w : World) (hp : RdV w F p) (hq : RdV w G q) :
    Calls Tryz.prog 52 #[p.val, q.val] w fun e w' => e = .returned (.bool (sameE p.e q.e)) ∧ Fr (fun _ => False) w w' := by
  have HF : Hid (Fr (fun _ => False) w ((w.alloc (.cells p.cells.toArray 68)).alloc (.cells q.cells.toArray 68))) := Lib.hid (((Fr.refl _ _).alloc _).alloc _)
  have CB := Lib.hid (fun w' (hf : Fr (fun _ => False) w w') => bytesEq_any p.A q.A p.e.d.length q.e.d.length p.c q.c p.e.d q.e.d w' (hp.rd.fr hf (fun _ _ _ h => h)) rfl (hq.rd.fr hf (fun _ _ _ h => h)) rfl)
  have HS : Hid (sameE p.e q.e = ((p.e.k == q.e.k) && (p.e.a == q.e.a) && (p.e.r == q.e.r) && (p.e.i == q.e.i) && (p.e.l == q.e.l) && (p.e.n == q.e.n) && (p.e.d == q.e.d))) := Lib.hid rfl
  generalize sameE p.e q.e = R at *
  obtain ⟨⟨pk, pa, pr, pi, pl, pn, pd⟩, A, c⟩ := p
  obtain ⟨⟨qk, qa, qr, qi, ql, qn, qd⟩, B, c'⟩ := q
  unfold VL.val VL.cells VL.bv at *
  simp only at *
  obtain ⟨x6, h6⟩ : ∃ x, (pd == qd) = x := ⟨_, rfl⟩
  rw [h6] at CB HS
  generalize pd.length = pL at *
  generalize qd.length = qL at *
  clear h6 hp hq
  obtain ⟨x0, h0⟩ : ∃ x, (pk == qk) = x := ⟨_, rfl⟩
  obtain ⟨x1, h1⟩ : ∃ x, (pa == qa) = x := ⟨_, rfl⟩
  obtain ⟨x2, h2⟩ : ∃ x, (pr == qr) = x := ⟨_, rfl⟩
  obtain ⟨x3, h3⟩ : ∃ x, (pi == qi) = x := ⟨_, rfl⟩
  obtain ⟨x4, h4⟩ : ∃ x, (pl == ql) = x := ⟨_, rfl⟩
  obtain ⟨x5, h5⟩ : ∃ x, (pn == qn) = x := ⟨_, rfl⟩
  rw [h0, h1, h2, h3, h4, h5] at HS
  cases x0 with
  | false =>
    have hres : R = false := by rw [HS.out]; simp
    clear HS CB h1 h2 h3 h4 h5
    go_enter Tryz.func52, Tryz.ntmps52
    go_wp2
    go_ret
    exact ⟨by rw [hres]; rfl, HF.out⟩
  | true =>
    cases x1 with
    | false =>
      have hres : R = false := by rw [HS.out]; simp
      clear HS CB h2 h3 h4 h5
      go_enter Tryz.func52, Tryz.ntmps52
      go_wp2
      go_ret
      exact ⟨by rw [hres]; rfl, HF.out⟩
    | true =>
      cases x2 with
      | false =>
        have hres : R = false := by rw [HS.out]; simp
        clear HS CB h3 h4 h5
        go_enter Tryz.func52, Tryz.ntmps52
        go_wp2
        go_ret
        exact ⟨by rw [hres]; rfl, HF.out⟩
      | true =>
        cases x3 with
        | false =>
          have hres : R = false := by rw [HS.out]; simp
          clear HS CB h4 h5
          go_enter Tryz.func52, Tryz.ntmps52
          go_wp2
          go_ret
          exact ⟨by rw [hres]; rfl, HF.out⟩
        | true =>
          cases x4 with
          | false =>
            have hres : R = false := by rw [HS.out]; simp
            clear HS CB h5
            go_enter Tryz.func52, Tryz.ntmps52
            go_wp2
            go_ret
            exact ⟨by rw [hres]; rfl, HF.out⟩
          | true =>
            cases x5 with
            | false =>
              have hres : R = false := by rw [HS.out]; simp
              clear HS CB 
              go_enter Tryz.func52, Tryz.ntmps52
              go_wp2
              go_ret
              exact ⟨by rw [hres]; rfl, HF.out⟩
            | true =>
              have HRES : Hid (R = x6) := Lib.hid (by rw [HS.out]; simp)
              clear HS
              go_enter Tryz.func52, Tryz.ntmps52
              go_wp2_with fail
              refine (CB.out _ HF.out).mono ?_; rintro e w1 ⟨rfl, rfl⟩
              cases x6 <;>
              · go_wp2
                go_ret
                exact ⟨by rw [HRES.out]; rfl, HF.out⟩

/-- Are rows of one length the same? -/
def allE (a b : List Ev) : Nat → Bool
  | 0 => true
  | k + 1 => allE a b k && sameE (a.getD k default) (b.getD k default)
theorem allE_no {a b : List Ev} {k : Nat} (h : sameE (a.getD k default) (b.getD k default) = false) : ∀ n, k < n → allE a b n = false
  | 0, hn => by omega
  | n + 1, hn => by
    unfold allE
    by_cases hk : k = n
    · subst hk; rw [h]; simp
    · rw [allE_no h n (by omega)]; rfl
theorem getD_evs {ps : List VL} {k : Nat} (h : k < ps.length) : (evs ps).getD k default = (ps.getD k default).e := by
  unfold evs; simp [List.getD, h]

set_option maxRecDepth 100000 in
set_option maxHeartbeats 8000000 in
theorem equalFunc_any (A B : Option Addr) (n c c' : Nat) (ps qs : List VL) (F G : Nat → Prop) (w : World) (hp : Vs w A n ps F) (hq : Vs w B n qs G) (hn : n ≤ 5000000000000) :
    Calls Tryz.prog 51 #[.slice A n c, .slice B n c', .func (.func 52) #[] #[]] w fun e w' => e = .returned (.bool (allE (evs ps) (evs qs) n)) ∧ Fr (fun _ => False) w w' := by
  have HP := Lib.hid hp
  have HQ := Lib.hid hq
  have hnI : (n : Int) ≤ 5000000000000 := by omega
  have d0 : ((n : Int) != (n : Int)) = false := by simp
  have d0' : (n != n) = false := by simp
  clear hp hq hn
  go_enter Tryz.func51, Tryz.ntmps51
  go_wp2_with fail
  go_loopw [17] (fun i wr => ∃ (k : Nat), i = .int .i64 (k : Int) ∧ k ≤ n ∧ Hid (allE (evs ps) (evs qs) k = true ∧ Fr (fun _ => False) w wr)) (fun i _ => n - (intOf i).toNat)
  case atStart => exact ⟨0, rfl, Nat.zero_le _, ⟨rfl, Fr.refl _ _⟩⟩
  case round =>
    obtain ⟨k, rfl, hk, HK⟩ := hrel
    have hk0 : (0 : Int) ≤ (k : Int) := by omega
    by_cases hlt : k < n
    · have hlt' : (k : Int) < n := by omega
      have w1 : IntKind.i64.wrap ((k : Int) + 1) = (k : Int) + 1 := IntWalk.i64_in _ (by omega)
      obtain ⟨b, off, rfl, -, hcs, hrd⟩ := (HP.out.fr0 HK.out.2).at hlt
      obtain ⟨b2, off2, rfl, -, hcs2, hrd2⟩ := (HQ.out.fr0 HK.out.2).at hlt
      have e1 := getD_evs (ps := ps) (k := k) (by rw [HP.out.len]; exact hlt)
      have e2 := getD_evs (ps := qs) (k := k) (by rw [HQ.out.len]; exact hlt)
      have HN : Hid (allE (evs ps) (evs qs) (k + 1) = sameE (ps.getD k default).e (qs.getD k default).e) := Lib.hid (by unfold allE; rw [HK.out.1, e1, e2]; rfl)
      have HNO : Hid (sameE (ps.getD k default).e (qs.getD k default).e = false → allE (evs ps) (evs qs) n = false) := Lib.hid (fun h => allE_no (by rw [e1, e2]; exact h) n hlt)
      generalize ps.getD k default = p at *
      generalize qs.getD k default = q at *
      have CS := Lib.hid (fun w' (hf : Fr (fun _ => False) wr w') => same_any p q _ _ w' (hrd.fr hf (fun _ _ h => h)) (hrd2.fr hf (fun _ _ h => h)))
      have hv : p.val = .agg #[.int .i64 p.e.k, .int .i64 p.e.a, .int .i64 p.e.r, .int .i64 p.e.i, .int .i64 p.e.l, .int .i64 p.e.n, .slice p.A p.e.d.length p.c] := rfl
      have hv2 : q.val = .agg #[.int .i64 q.e.k, .int .i64 q.e.a, .int .i64 q.e.r, .int .i64 q.e.i, .int .i64 q.e.l, .int .i64 q.e.n, .slice q.A q.e.d.length q.c] := rfl
      rw [hv, hv2] at CS
      obtain ⟨x, hx⟩ : ∃ x, sameE p.e q.e = x := ⟨_, rfl⟩
      rw [hx] at CS HN HNO
      have pc0 : wr.cell? ⟨b, off + k * 7, none⟩ = some (.int .i64 p.e.k) := hcs 0 _ rfl
      have pc1 : wr.cell? ⟨b, off + k * 7 + 1, none⟩ = some (.int .i64 p.e.a) := hcs 1 _ rfl
      have pc2 : wr.cell? ⟨b, off + k * 7 + 2, none⟩ = some (.int .i64 p.e.r) := hcs 2 _ rfl
      have pc3 : wr.cell? ⟨b, off + k * 7 + 3, none⟩ = some (.int .i64 p.e.i) := hcs 3 _ rfl
      have pc4 : wr.cell? ⟨b, off + k * 7 + 4, none⟩ = some (.int .i64 p.e.l) := hcs 4 _ rfl
      have pc5 : wr.cell? ⟨b, off + k * 7 + 5, none⟩ = some (.int .i64 p.e.n) := hcs 5 _ rfl
      have pc6 : wr.cell? ⟨b, off + k * 7 + 6, none⟩ = some (.slice p.A p.e.d.length p.c) := hcs 6 _ rfl
      have qc0 : wr.cell? ⟨b2, off2 + k * 7, none⟩ = some (.int .i64 q.e.k) := hcs2 0 _ rfl
      have qc1 : wr.cell? ⟨b2, off2 + k * 7 + 1, none⟩ = some (.int .i64 q.e.a) := hcs2 1 _ rfl
      have qc2 : wr.cell? ⟨b2, off2 + k * 7 + 2, none⟩ = some (.int .i64 q.e.r) := hcs2 2 _ rfl
      have qc3 : wr.cell? ⟨b2, off2 + k * 7 + 3, none⟩ = some (.int .i64 q.e.i) := hcs2 3 _ rfl
      have qc4 : wr.cell? ⟨b2, off2 + k * 7 + 4, none⟩ = some (.int .i64 q.e.l) := hcs2 4 _ rfl
      have qc5 : wr.cell? ⟨b2, off2 + k * 7 + 5, none⟩ = some (.int .i64 q.e.n) := hcs2 5 _ rfl
      have qc6 : wr.cell? ⟨b2, off2 + k * 7 + 6, none⟩ = some (.slice q.A q.e.d.length q.c) := hcs2 6 _ rfl
      clear hcs hcs2 hrd hrd2 hv hv2 e1 e2 hx
      generalize p.e.k = pk at *
      generalize p.e.a = pa at *
      generalize p.e.r = pr at *
      generalize p.e.i = pi at *
      generalize p.e.l = pl at *
      generalize p.e.n = pn at *
      generalize p.e.d.length = pd at *
      generalize p.A = pA at *
      generalize p.c = pc at *
      generalize q.e.k = qk at *
      generalize q.e.a = qa at *
      generalize q.e.r = qr at *
      generalize q.e.i = qi at *
      generalize q.e.l = ql at *
      generalize q.e.n = qn at *
      generalize q.e.d.length = qd at *
      generalize q.A = qA at *
      generalize q.c = qc at *
      have hb1 := World.block_lt_of_cell? wr _ pc0
      have hb2 := World.block_lt_of_cell? wr _ qc0
      have HFA : Hid (Fr (fun _ => False) wr ((wr.alloc (.cells #[.int .i64 pk, .int .i64 pa, .int .i64 pr, .int .i64 pi, .int .i64 pl, .int .i64 pn, .slice pA pd pc] 68)).alloc (.cells #[.int .i64 qk, .int .i64 qa, .int .i64 qr, .int .i64 qi, .int .i64 ql, .int .i64 qn, .slice qA qd qc] 68))) := Lib.hid (((Fr.refl _ _).alloc _).alloc _)
      go_wp2_with fail
      refine (CS.out _ HFA.out).mono ?_; rintro e w2 ⟨rfl, hf2⟩
      have HF2 := Lib.hid ((HK.out.2.trans HFA.out (fun _ _ h => h)).trans hf2 (fun _ _ h => h))
      clear hf2 CS pc0 pc1 pc2 pc3 pc4 pc5 pc6 qc0 qc1 qc2 qc3 qc4 qc5 qc6
      cases x with
      | false =>
        go_wp2
        go_ret
        exact ⟨by rw [HNO.out (by first | rfl | trivial)]; rfl, HF2.out⟩
      | true =>
        go_wp2
        go_roundw
        case rel => exact ⟨k + 1, by first | rfl | (go_num; done) | (congr 1; omega), by omega, ⟨HN.out, HF2.out⟩⟩
        case measure => (simp [intOf]) <;> omega
    · obtain rfl : k = n := by omega
      go_wp2
      go_ret
      exact ⟨by rw [HK.out.1]; rfl, HK.out.2⟩

def prefB (a b : List Ev) : Bool := decide (a.length ≤ b.length) && allE a b a.length
theorem allE_take (a b : List Ev) (m : Nat) : ∀ k, k ≤ m → allE a (b.take m) k = allE a b k
  | 0, _ => rfl
  | k + 1, h => by
    unfold allE
    rw [allE_take a b m k (by omega)]
    congr 2
    simp [List.getD, List.getElem?_take, show k < m by omega]
set_option maxRecDepth 100000 in
set_option maxHeartbeats 4000000 in
theorem prefix_any (A B : Option Addr) (n m c c' : Nat) (ps qs : List VL) (F G : Nat → Prop) (w : World) (hp : Vs w A n ps F) (hq : Vs w B m qs G) (hn : n ≤ 5000000000000) (hm : m ≤ 5000000000000) (hmc : m ≤ c') (hc : c' ≤ maxLen) :
    Calls Tryz.prog 13 #[.slice A n c, .slice B m c'] w fun e w' => e = .returned (.bool (prefB (evs ps) (evs qs))) ∧ Fr (fun _ => False) w w' := by
  have hl1 : (evs ps).length = n := by unfold evs; simpa using hp.len
  have hl2 : (evs qs).length = m := by unfold evs; simpa using hq.len
  unfold prefB
  rw [hl1, hl2]
  by_cases hnm : n ≤ m
  · have d0 : decide ((n : Int) ≤ (m : Int)) = true := decide_eq_true (by omega)
    have d0' : decide (n ≤ m) = true := decide_eq_true hnm
    have CE := Lib.hid (equalFunc_any A B n c c' ps (qs.take n) F G w hp (hq.take n hnm) hn)
    have hev : evs (qs.take n) = (evs qs).take n := by unfold evs; rw [List.map_take]
    rw [hev, allE_take _ _ n n (Nat.le_refl _)] at CE
    rw [d0', Bool.true_and]
    obtain ⟨x, hx⟩ : ∃ x, allE (evs ps) (evs qs) n = x := ⟨_, rfl⟩
    rw [hx] at CE ⊢
    have hnI : (n : Int) ≤ 5000000000000 := by omega
    have hn0 : (0 : Int) ≤ (n : Int) := by omega
    have hnc : (n : Int) ≤ (c' : Int) := by omega
    have hnc' : n ≤ c' := by omega
    clear hp hq hl1 hl2 hx hev
    go_enter Tryz.func13, Tryz.ntmps13
    go_wp2_with fail
    refine CE.out.mono ?_; rintro e w1 ⟨rfl, hf1⟩
    go_wp2
    go_ret
    exact ⟨rfl, hf1⟩
  · have d0 : decide ((n : Int) ≤ (m : Int)) = false := decide_eq_false (by omega)
    have d0' : decide (n ≤ m) = false := decide_eq_false hnm
    rw [d0', Bool.false_and]
    clear hp hq hl1 hl2 hnm
    go_enter Tryz.func13, Tryz.ntmps13
    go_wp2
    go_ret
    exact ⟨rfl, Fr.refl _ _⟩
end Go.Proofs.YtieoeoonopcjbaaGreatDoor

/- event: the reference's Same and Prefix. -/
namespace Go.Proofs.YtieoeoonopcjbaaGreatDoor
open Go.RowKit Go.Maps

set_option maxRecDepth 100000 in
set_option maxHeartbeats 8000000 in
theorem refSame_any (p q : VL) (F G : Nat → Prop) (w : World) (hp : RdV w F p) (hq : RdV w G q) :
    Calls Tryz.prog 53 #[p.val, q.val] w fun e w' => e = .returned (.bool (sameE p.e q.e)) ∧ Fr (fun _ => False) w w' := by
  obtain ⟨W, hW⟩ : ∃ W, (w.alloc (.cells p.cells.toArray 68)).alloc (.cells q.cells.toArray 68) = W := ⟨_, rfl⟩
  obtain ⟨g0, hg0⟩ : ∃ g0, w.heap.size = g0 := ⟨_, rfl⟩
  have HF : Hid (Fr (fun _ => False) w W) := Lib.hid (by rw [← hW]; exact ((Fr.refl _ _).alloc _).alloc _)
  have HB1 : Bk W g0 68 p.cells.toArray := by rw [← hW, ← hg0]; exact (Bk.new _ _ _).alloc _
  have HB2 : Bk W (g0 + 1) 68 q.cells.toArray := by
    rw [← hW, ← hg0]
    have := Bk.new (w.alloc (.cells p.cells.toArray 68)) 68 q.cells.toArray
    rw [show (w.alloc (.cells p.cells.toArray 68)).heap.size = w.heap.size + 1 by simp] at this
    exact this
  have u0 : W.cell? ⟨g0, 0, none⟩ = some (p.cells.getD 0 undef) := HB1.cell 0
  have v0 : W.cell? ⟨g0 + 1, 0, none⟩ = some (q.cells.getD 0 undef) := HB2.cell 0
  have u1 : W.cell? ⟨g0, 1, none⟩ = some (p.cells.getD 1 undef) := HB1.cell 1
  have v1 : W.cell? ⟨g0 + 1, 1, none⟩ = some (q.cells.getD 1 undef) := HB2.cell 1
  have u2 : W.cell? ⟨g0, 2, none⟩ = some (p.cells.getD 2 undef) := HB1.cell 2
  have v2 : W.cell? ⟨g0 + 1, 2, none⟩ = some (q.cells.getD 2 undef) := HB2.cell 2
  have u3 : W.cell? ⟨g0, 3, none⟩ = some (p.cells.getD 3 undef) := HB1.cell 3
  have v3 : W.cell? ⟨g0 + 1, 3, none⟩ = some (q.cells.getD 3 undef) := HB2.cell 3
  have u4 : W.cell? ⟨g0, 4, none⟩ = some (p.cells.getD 4 undef) := HB1.cell 4
  have v4 : W.cell? ⟨g0 + 1, 4, none⟩ = some (q.cells.getD 4 undef) := HB2.cell 4
  have u5 : W.cell? ⟨g0, 5, none⟩ = some (p.cells.getD 5 undef) := HB1.cell 5
  have v5 : W.cell? ⟨g0 + 1, 5, none⟩ = some (q.cells.getD 5 undef) := HB2.cell 5
  have u6 : W.cell? ⟨g0, 6, none⟩ = some (p.cells.getD 6 undef) := HB1.cell 6
  have v6 : W.cell? ⟨g0 + 1, 6, none⟩ = some (q.cells.getD 6 undef) := HB2.cell 6
  have s1 := run_str8 Tryz.t8 Tryz.underlying5 Tryz.underlying9 p.c (hp.rd.fr HF.out (fun _ _ _ h => h)) rfl
  have s2 := run_str8 Tryz.t8 Tryz.underlying5 Tryz.underlying9 q.c (hq.rd.fr HF.out (fun _ _ _ h => h)) rfl
  have hb := strOf_beqM p.e.d q.e.d
  have HS : Hid (sameE p.e q.e = ((p.e.k == q.e.k) && (p.e.a == q.e.a) && (p.e.r == q.e.r) && (p.e.i == q.e.i) && (p.e.l == q.e.l) && (p.e.n == q.e.n) && (p.e.d == q.e.d))) := Lib.hid rfl
  generalize sameE p.e q.e = R at *
  obtain ⟨⟨pk, pa, pr, pi, pl, pn, pd⟩, A, c⟩ := p
  obtain ⟨⟨qk, qa, qr, qi, ql, qn, qd⟩, B, c'⟩ := q
  clear HB1 HB2
  unfold VL.val VL.cells VL.bv at *
  simp only [List.getD_cons_zero, List.getD_cons_succ] at *
  obtain ⟨x6, h6⟩ : ∃ x, (pd == qd) = x := ⟨_, rfl⟩
  rw [h6] at HS hb
  generalize strOf pd = t1 at *
  generalize strOf qd = t2 at *
  generalize pd.length = pL at *
  generalize qd.length = qL at *
  clear h6 hp hq
  obtain ⟨x0, h0⟩ : ∃ x, (pk == qk) = x := ⟨_, rfl⟩
  obtain ⟨x1, h1⟩ : ∃ x, (pa == qa) = x := ⟨_, rfl⟩
  obtain ⟨x2, h2⟩ : ∃ x, (pr == qr) = x := ⟨_, rfl⟩
  obtain ⟨x3, h3⟩ : ∃ x, (pi == qi) = x := ⟨_, rfl⟩
  obtain ⟨x4, h4⟩ : ∃ x, (pl == ql) = x := ⟨_, rfl⟩
  obtain ⟨x5, h5⟩ : ∃ x, (pn == qn) = x := ⟨_, rfl⟩
  rw [h0, h1, h2, h3, h4, h5] at HS
  cases x0 with
  | false =>
    have hres : R = false := by rw [HS.out]; simp
    clear HS s1 s2 hb h1 h2 h3 h4 h5
    go_enter Tryz.func53, Tryz.ntmps53
    go_wp2
    go_ret
    exact ⟨by rw [hres]; rfl, HF.out⟩
  | true =>
    cases x1 with
    | false =>
      have hres : R = false := by rw [HS.out]; simp
      clear HS s1 s2 hb h2 h3 h4 h5
      go_enter Tryz.func53, Tryz.ntmps53
      go_wp2
      go_ret
      exact ⟨by rw [hres]; rfl, HF.out⟩
    | true =>
      cases x2 with
      | false =>
        have hres : R = false := by rw [HS.out]; simp
        clear HS s1 s2 hb h3 h4 h5
        go_enter Tryz.func53, Tryz.ntmps53
        go_wp2
        go_ret
        exact ⟨by rw [hres]; rfl, HF.out⟩
      | true =>
        cases x3 with
        | false =>
          have hres : R = false := by rw [HS.out]; simp
          clear HS s1 s2 hb h4 h5
          go_enter Tryz.func53, Tryz.ntmps53
          go_wp2
          go_ret
          exact ⟨by rw [hres]; rfl, HF.out⟩
        | true =>
          cases x4 with
          | false =>
            have hres : R = false := by rw [HS.out]; simp
            clear HS s1 s2 hb h5
            go_enter Tryz.func53, Tryz.ntmps53
            go_wp2
            go_ret
            exact ⟨by rw [hres]; rfl, HF.out⟩
          | true =>
            cases x5 with
            | false =>
              have hres : R = false := by rw [HS.out]; simp
              clear HS s1 s2 hb 
              go_enter Tryz.func53, Tryz.ntmps53
              go_wp2
              go_ret
              exact ⟨by rw [hres]; rfl, HF.out⟩
            | true =>
              have HRES : Hid (R = x6) := Lib.hid (by rw [HS.out]; simp)
              clear HS
              go_enter Tryz.func53, Tryz.ntmps53
              go_wp2
              go_ret
              exact ⟨by rw [HRES.out]; rfl, HF.out⟩

set_option maxRecDepth 100000 in
set_option maxHeartbeats 8000000 in
theorem refPrefix_any (A B : Option Addr) (n m c c' : Nat) (ps qs : List VL) (F G : Nat → Prop) (w : World) (hp : Vs w A n ps F) (hq : Vs w B m qs G) (hn : n ≤ 5000000000000) (hm : m ≤ 5000000000000) :
    Calls Tryz.prog 14 #[.slice A n c, .slice B m c'] w fun e w' => e = .returned (.bool (prefB (evs ps) (evs qs))) ∧ Fr (fun _ => False) w w' := by
  have hl1 : (evs ps).length = n := by unfold evs; simpa using hp.len
  have hl2 : (evs qs).length = m := by unfold evs; simpa using hq.len
  unfold prefB
  rw [hl1, hl2]
  by_cases hnm : n ≤ m
  · have d0 : decide ((m : Int) < (n : Int)) = false := decide_eq_false (by omega)
    have d0' : decide (n ≤ m) = true := decide_eq_true hnm
    have d0'' : decide (m < n) = false := decide_eq_false (by omega)
    rw [d0', Bool.true_and]
    have HP := Lib.hid hp
    have HQ := Lib.hid hq
    have hnI : (n : Int) ≤ 5000000000000 := by omega
    have hmI : (m : Int) ≤ 5000000000000 := by omega
    have hnmI : (n : Int) ≤ (m : Int) := by omega
    clear hp hq hl1 hl2 hn hm d0'
    go_enter Tryz.func14, Tryz.ntmps14
    go_wp2_with fail
    clear d0 d0''
    go_loopw [5] (fun i wr => ∃ (k : Nat), i = .int .i64 (k : Int) ∧ k ≤ n ∧ Hid (allE (evs ps) (evs qs) k = true ∧ Fr (fun _ => False) w wr)) (fun i _ => n - (intOf i).toNat)
    case atStart => exact ⟨0, rfl, Nat.zero_le _, ⟨rfl, Fr.refl _ _⟩⟩
    case round =>
      obtain ⟨k, rfl, hk, HK⟩ := hrel
      have hk0 : (0 : Int) ≤ (k : Int) := by omega
      by_cases hlt : k < n
      · have hlt' : (k : Int) < n := by omega
        have hltm' : (k : Int) < m := by omega
        have hltm : k < m := by omega
        have w1 : IntKind.i64.wrap ((k : Int) + 1) = (k : Int) + 1 := IntWalk.i64_in _ (by omega)
        obtain ⟨b, off, rfl, -, hcs, hrd⟩ := (HP.out.fr0 HK.out.2).at hlt
        obtain ⟨b2, off2, rfl, -, hcs2, hrd2⟩ := (HQ.out.fr0 HK.out.2).at hltm
        have e1 := getD_evs (ps := ps) (k := k) (by rw [HP.out.len]; exact hlt)
        have e2 := getD_evs (ps := qs) (k := k) (by rw [HQ.out.len]; exact hltm)
        have HN : Hid (allE (evs ps) (evs qs) (k + 1) = sameE (ps.getD k default).e (qs.getD k default).e) := Lib.hid (by unfold allE; rw [HK.out.1, e1, e2]; rfl)
        have HNO : Hid (sameE (ps.getD k default).e (qs.getD k default).e = false → allE (evs ps) (evs qs) n = false) := Lib.hid (fun h => allE_no (by rw [e1, e2]; exact h) n hlt)
        generalize ps.getD k default = p at *
        generalize qs.getD k default = q at *
        have CS := Lib.hid (fun w' (hf : Fr (fun _ => False) wr w') => refSame_any p q _ _ w' (hrd.fr hf (fun _ _ h => h)) (hrd2.fr hf (fun _ _ h => h)))
        have hv : p.val = .agg #[.int .i64 p.e.k, .int .i64 p.e.a, .int .i64 p.e.r, .int .i64 p.e.i, .int .i64 p.e.l, .int .i64 p.e.n, .slice p.A p.e.d.length p.c] := rfl
        have hv2 : q.val = .agg #[.int .i64 q.e.k, .int .i64 q.e.a, .int .i64 q.e.r, .int .i64 q.e.i, .int .i64 q.e.l, .int .i64 q.e.n, .slice q.A q.e.d.length q.c] := rfl
        rw [hv, hv2] at CS
        obtain ⟨x, hx⟩ : ∃ x, sameE p.e q.e = x := ⟨_, rfl⟩
        rw [hx] at CS HN HNO
        have HCp : Hid (∀ w', Fr (fun _ => False) wr w' → w'.cell? ⟨b, off + k * 7, none⟩ = some (.int .i64 p.e.k) ∧ w'.cell? ⟨b, off + k * 7 + 1, none⟩ = some (.int .i64 p.e.a) ∧ w'.cell? ⟨b, off + k * 7 + 2, none⟩ = some (.int .i64 p.e.r) ∧ w'.cell? ⟨b, off + k * 7 + 3, none⟩ = some (.int .i64 p.e.i) ∧ w'.cell? ⟨b, off + k * 7 + 4, none⟩ = some (.int .i64 p.e.l) ∧ w'.cell? ⟨b, off + k * 7 + 5, none⟩ = some (.int .i64 p.e.n) ∧ w'.cell? ⟨b, off + k * 7 + 6, none⟩ = some (.slice p.A p.e.d.length p.c)) := Lib.hid (fun w' hf => ⟨(hf.cell (World.block_lt_of_cell? wr _ (hcs 0 _ rfl)) (fun h => h)).trans (hcs 0 _ rfl), (hf.cell (World.block_lt_of_cell? wr _ (hcs 1 _ rfl)) (fun h => h)).trans (hcs 1 _ rfl), (hf.cell (World.block_lt_of_cell? wr _ (hcs 2 _ rfl)) (fun h => h)).trans (hcs 2 _ rfl), (hf.cell (World.block_lt_of_cell? wr _ (hcs 3 _ rfl)) (fun h => h)).trans (hcs 3 _ rfl), (hf.cell (World.block_lt_of_cell? wr _ (hcs 4 _ rfl)) (fun h => h)).trans (hcs 4 _ rfl), (hf.cell (World.block_lt_of_cell? wr _ (hcs 5 _ rfl)) (fun h => h)).trans (hcs 5 _ rfl), (hf.cell (World.block_lt_of_cell? wr _ (hcs 6 _ rfl)) (fun h => h)).trans (hcs 6 _ rfl)⟩)
        have HCq : Hid (∀ w', Fr (fun _ => False) wr w' → w'.cell? ⟨b2, off2 + k * 7, none⟩ = some (.int .i64 q.e.k) ∧ w'.cell? ⟨b2, off2 + k * 7 + 1, none⟩ = some (.int .i64 q.e.a) ∧ w'.cell? ⟨b2, off2 + k * 7 + 2, none⟩ = some (.int .i64 q.e.r) ∧ w'.cell? ⟨b2, off2 + k * 7 + 3, none⟩ = some (.int .i64 q.e.i) ∧ w'.cell? ⟨b2, off2 + k * 7 + 4, none⟩ = some (.int .i64 q.e.l) ∧ w'.cell? ⟨b2, off2 + k * 7 + 5, none⟩ = some (.int .i64 q.e.n) ∧ w'.cell? ⟨b2, off2 + k * 7 + 6, none⟩ = some (.slice q.A q.e.d.length q.c)) := Lib.hid (fun w' hf => ⟨(hf.cell (World.block_lt_of_cell? wr _ (hcs2 0 _ rfl)) (fun h => h)).trans (hcs2 0 _ rfl), (hf.cell (World.block_lt_of_cell? wr _ (hcs2 1 _ rfl)) (fun h => h)).trans (hcs2 1 _ rfl), (hf.cell (World.block_lt_of_cell? wr _ (hcs2 2 _ rfl)) (fun h => h)).trans (hcs2 2 _ rfl), (hf.cell (World.block_lt_of_cell? wr _ (hcs2 3 _ rfl)) (fun h => h)).trans (hcs2 3 _ rfl), (hf.cell (World.block_lt_of_cell? wr _ (hcs2 4 _ rfl)) (fun h => h)).trans (hcs2 4 _ rfl), (hf.cell (World.block_lt_of_cell? wr _ (hcs2 5 _ rfl)) (fun h => h)).trans (hcs2 5 _ rfl), (hf.cell (World.block_lt_of_cell? wr _ (hcs2 6 _ rfl)) (fun h => h)).trans (hcs2 6 _ rfl)⟩)
        clear hcs hcs2 hrd hrd2 hv hv2 e1 e2 hx
        generalize p.e.k = pk at *
        generalize p.e.a = pa at *
        generalize p.e.r = pr at *
        generalize p.e.i = pi at *
        generalize p.e.l = pl at *
        generalize p.e.n = pn at *
        generalize p.e.d.length = pd at *
        generalize p.A = pA at *
        generalize p.c = pc at *
        generalize q.e.k = qk at *
        generalize q.e.a = qa at *
        generalize q.e.r = qr at *
        generalize q.e.i = qi at *
        generalize q.e.l = ql at *
        generalize q.e.n = qn at *
        generalize q.e.d.length = qd at *
        generalize q.A = qA at *
        generalize q.c = qc at *
        go_wp2_with fail
        refine wp_region_held_drew (S := (fun w' => Fr (fun _ => False) wr w')) (by kernel_rfl) ((Fr.refl _ _).drew) (fun hHeld => ?_)
        refine wpAnyH_takeD (i := 0) (v := ?_) (some 17) rfl rfl (by kernel_rfl) (by kernel_rfl) (by kernel_rfl) (fun _ _ _ h => h) (Or.inl ⟨by rfl, ?_⟩) (by assumption) ?_
        rotate_left
        · intro w' hSw
          go_simp
          first | done | with_reducible rfl
        try simp only [Act.put, List.setIfInBounds_toArray, List.set_cons_zero, List.set_cons_succ]
        refine wpAnyH_takeD (i := 1) (v := ?_) (some 18) rfl rfl (by kernel_rfl) (by kernel_rfl) (by kernel_rfl) (fun _ _ _ h => h) (Or.inl ⟨by rfl, ?_⟩) (by assumption) ?_
        rotate_left
        · intro w' hSw
          go_simp
          first | done | with_reducible rfl
        try simp only [Act.put, List.setIfInBounds_toArray, List.set_cons_zero, List.set_cons_succ]
        refine wpAnyH_takeD (i := 2) (v := ?_) (some 19) rfl rfl (by kernel_rfl) (by kernel_rfl) (by kernel_rfl) (fun _ _ _ h => h) (Or.inl ⟨by rfl, ?_⟩) (by assumption) ?_
        rotate_left
        · intro w' hSw
          go_simp
          first | done | with_reducible rfl
        try simp only [Act.put, List.setIfInBounds_toArray, List.set_cons_zero, List.set_cons_succ]
        refine wpAnyH_takeD (i := 3) (v := ?_) (some 20) rfl rfl (by kernel_rfl) (by kernel_rfl) (by kernel_rfl) (fun _ _ _ h => h) (Or.inl ⟨by rfl, ?_⟩) (by assumption) ?_
        rotate_left
        · intro w' hSw
          obtain ⟨p0, p1, p2, p3, p4, p5, p6⟩ := HCp.out w' hSw; have hb1 := World.block_lt_of_cell? w' _ p0
          go_simp
          first | done | with_reducible rfl
        try simp only [Act.put, List.setIfInBounds_toArray, List.set_cons_zero, List.set_cons_succ]
        refine wpAnyH_takeD (i := 4) (v := ?_) (some 21) rfl rfl (by kernel_rfl) (by kernel_rfl) (by kernel_rfl) (fun _ _ _ h => h) (Or.inl ⟨by rfl, ?_⟩) (by assumption) ?_
        rotate_left
        · intro w' hSw
          go_simp
          first | done | with_reducible rfl
        try simp only [Act.put, List.setIfInBounds_toArray, List.set_cons_zero, List.set_cons_succ]
        refine wpAnyH_takeD (i := 5) (v := ?_) (some 22) rfl rfl (by kernel_rfl) (by kernel_rfl) (by kernel_rfl) (fun _ _ _ h => h) (Or.inl ⟨by rfl, ?_⟩) (by assumption) ?_
        rotate_left
        · intro w' hSw
          go_simp
          first | done | with_reducible rfl
        try simp only [Act.put, List.setIfInBounds_toArray, List.set_cons_zero, List.set_cons_succ]
        refine wpAnyH_takeD (i := 6) (v := ?_) (some 23) rfl rfl (by kernel_rfl) (by kernel_rfl) (by kernel_rfl) (fun _ _ _ h => h) (Or.inl ⟨by rfl, ?_⟩) (by assumption) ?_
        rotate_left
        · intro w' hSw
          go_simp
          first | done | with_reducible rfl
        try simp only [Act.put, List.setIfInBounds_toArray, List.set_cons_zero, List.set_cons_succ]
        refine wpAnyH_takeD (i := 7) (v := ?_) (some 24) rfl rfl (by kernel_rfl) (by kernel_rfl) (by kernel_rfl) (fun _ _ _ h => h) (Or.inl ⟨by rfl, ?_⟩) (by assumption) ?_
        rotate_left
        · intro w' hSw
          obtain ⟨p0, p1, p2, p3, p4, p5, p6⟩ := HCq.out w' hSw; have hb1 := World.block_lt_of_cell? w' _ p0
          go_simp
          first | done | with_reducible rfl
        try simp only [Act.put, List.setIfInBounds_toArray, List.set_cons_zero, List.set_cons_succ]
        refine wpAnyH_ready (rs := [8]) (by kernel_rfl) (by simp) ?_
        refine AllReadyH.cons rfl (fun K hK => ?_) AllReadyH.nil
        go_simp
        refine (CS.out _ hHeld).mono ?_; rintro e w2 ⟨rfl, hf2⟩
        try go_simp
        refine hK.out _ _ (hHeld.trans hf2 (fun _ _ h => h)) (fun hHeld => ?_)
        clear hK K
        try change wpAnyH _ _ _ _ _ _ _ (Act.put _ (some 25) _) _
        try simp only [Act.put, List.setIfInBounds_toArray, List.set_cons_zero, List.set_cons_succ]
        clear hf2
        refine wpAnyH_takeD (i := 9) (v := ?_) (some 26) rfl rfl (by kernel_rfl) (by kernel_rfl) (by kernel_rfl) (fun _ _ _ h => h) (Or.inl ⟨by rfl, ?_⟩) (by assumption) ?_
        rotate_left
        · intro w' hSw
          go_simp
          first | done | with_reducible rfl
        try simp only [Act.put, List.setIfInBounds_toArray, List.set_cons_zero, List.set_cons_succ]
        refine wpAnyH_done (by kernel_rfl) ?_ _
        have HF2 := Lib.hid (HK.out.2.trans hHeld (fun _ _ h => h))
        clear hHeld CS HCp HCq
        cases x with
        | false =>
          go_wp2
          go_ret
          exact ⟨by rw [HNO.out (by first | rfl | trivial)]; rfl, HF2.out⟩
        | true =>
          go_wp2
          go_roundw
          case rel => exact ⟨k + 1, by first | rfl | (go_num; done) | (congr 1; omega), by omega, ⟨HN.out, HF2.out⟩⟩
          case measure => (simp [intOf]) <;> omega
      · obtain rfl : k = n := by omega
        go_wp2
        go_ret
        exact ⟨by rw [HK.out.1]; rfl, HK.out.2⟩
  · have d0 : decide ((m : Int) < (n : Int)) = true := decide_eq_true (by omega)
    have d0'' : decide (m < n) = true := decide_eq_true (by omega)
    have d0' : decide (n ≤ m) = false := decide_eq_false hnm
    rw [d0', Bool.false_and]
    clear hp hq hl1 hl2 hnm d0'
    go_enter Tryz.func14, Tryz.ntmps14
    go_wp2
    go_ret
    exact ⟨rfl, Fr.refl _ _⟩
end Go.Proofs.YtieoeoonopcjbaaGreatDoor

/- EventBytes: the walk. -/
namespace Go.Proofs.YtieoeoonopcjbaaGreatDoor
open Go.RowKit Go.Maps

theorem wpAnyH_more {P : Program} {md : Region.Mode} {ops : Array Oper} {Q : Exit → Go.Act → World → Prop} {S S' : World → Prop} (hSS : ∀ w, S' w → S w) : ∀ (fuel : Nat) (listed : Array Bool) (a : Go.Act) (w : World), wpAnyH P md ops Q S' fuel listed a w → wpAnyH P md ops Q S fuel listed a w
  | 0, _, _, _, h => h
  | fuel + 1, _, _, _, h => ⟨h.1, fun i hi => wpOp_mono (fun a' w' h' => ⟨hSS _ h'.1, wpAnyH_more hSS fuel _ a' w' h'.2⟩) (h.2 i hi)⟩
theorem sameE_self (e : Ev) : sameE e e = true := by unfold sameE; simp
theorem allE_self (l : List Ev) : ∀ k, allE l l k = true
  | 0 => rfl
  | k + 1 => by unfold allE; rw [allE_self l k, sameE_self]; rfl
theorem prefB_self (l : List Ev) : prefB l l = true := by unfold prefB; rw [allE_self]; simp
theorem strOf_same (X : List UInt8) : ((strOf X).toList == (strOf X).toList) = true := by simp
theorem strOf_same' (X : List UInt8) : ((strOf X).toList != (strOf X).toList) = false := by simp
/-- What both Decodes tell together. -/
theorem dec_both {xs : List UInt8} {n : Nat} {w w1 w2 : World} {e1 e2 : Ending} (hn : xs.length = n) (hnb : n ≤ 8192) (hf2 : Fr (fun _ => False) w1 w2) (hf1 : Fr (fun _ => False) w w1) (hP : PowT w) (hE : ErrT w) (h1 : DecE xs w e1 w1) (h2 : RefDecE xs w1 e2 w2) :
    ∃ A m c ps ev A' c' ps' er a wh, e1 = .returned (.tuple #[.slice A m c, ev]) ∧ e2 = .returned (.tuple #[.slice A' m c', .agg #[.int .i64 er, .int .i64 a, .string wh]]) ∧ (∃ G, Vs w2 A m ps G) ∧ (∃ G, Vs w2 A' m ps' G) ∧ evs ps = evs ps' ∧ m ≤ 4096 ∧
      ∀ w', Fr (fun _ => False) w2 w' → Calls Tryz.prog 12 #[ev, .agg #[.int .i64 er, .int .i64 a, .string wh]] w' fun e w9 => e = .returned (.bool true) ∧ Fr (fun _ => False) w' w9 := by
  have hs := sound_decE (xs := xs) hn
  unfold DecE at h1
  unfold RefDecE at h2
  cases hE9 : stEnd xs (decE xs).2 with
  | none =>
    rw [hE9] at h1 h2
    obtain ⟨A, m, c, ps, rfl, hl, he, ho, -⟩ := h1
    obtain ⟨A', m', c', ps', rfl, hl', he', ho', -⟩ := h2
    have hm : m = m' := by rw [← hl, ← hl']; have := congrArg List.length (he.trans he'.symm); simpa using this
    subst hm
    have hm4 : m ≤ 4096 := by
      have h5 := congrArg List.length he
      rw [List.length_map, hl] at h5
      have h6 : (decE xs).1.length ≤ (cntR xs).1.toNat := refE_len _ _ _
      have h7 := cntR_rng xs
      omega
    exact ⟨A, m, c, ps, .nilIface, A', c', ps', 0, 0, ⟨#[]⟩, rfl, rfl, ⟨_, (ho.fr0 hf2).es⟩, ⟨_, ho'.es⟩, by unfold evs; rw [he, he'], hm4, fun w' _ => same_nil 0 ⟨#[]⟩ w'⟩
  | some y =>
    obtain ⟨er, a, wh⟩ := y
    rw [hE9] at h1 h2
    obtain ⟨fb, rfl, hb, -, -⟩ := h1
    obtain ⟨rfl, -⟩ := h2
    have hk : (∃ k : Nat, er = k ∧ Bad4 k) ∧ (∃ p : Nat, a = p ∧ p ≤ n) ∧ wh.size ≤ 1000000 := by
      cases hst : (decE xs).2 with
      | at_ j =>
        rw [hst] at hE9 hs
        unfold stEnd at hE9
        simp only at hE9
        split at hE9
        · injection hE9 with hE9; injection hE9 with e1 e2; injection e2 with e2 e3
          exact ⟨⟨8, by rw [← e1]; rfl, .inr (.inl rfl)⟩, ⟨j, e2.symm, hs⟩, by rw [← e3]; decide⟩
        · cases hE9
      | bad b' a' w' =>
        rw [hst] at hE9 hs
        unfold stEnd at hE9
        simp only at hE9
        injection hE9 with hE9; injection hE9 with e1 e2; injection e2 with e2 e3
        subst e1; subst e2; subst e3
        exact hs
    obtain ⟨⟨k, rfl, hk4⟩, ⟨p, rfl, hp⟩, hw⟩ := hk
    exact ⟨none, 0, 0, [], _, none, 0, [], _, _, _, rfl, rfl, ⟨_, Vs.nil _ _ (fun _ => True)⟩, ⟨_, Vs.nil _ _ (fun _ => True)⟩, rfl, Nat.zero_le _, fun w' hf =>
      same_fault fb k p wh w' hk4 (by omega) hw (hP.fr ((hf1.trans hf2 (fun _ _ h => h)).trans hf (fun _ _ h => h)) (fun h => h)) (hE.fr ((hf1.trans hf2 (fun _ _ h => h)).trans hf (fun _ _ h => h)) (fun h => h)) (Bk.fr (Bk.fr hb hf2 (fun h => h)) hf (fun h => h))⟩

set_option maxRecDepth 100000 in
set_option maxHeartbeats 16000000 in
theorem bytesE_any (A : Option Addr) (n c : Nat) (ps : List VL) (B : Option Addr) (nb cb : Nat) (xs : List UInt8) (C : Option Addr) (m cm : Nat) (qs : List VL) (w : World) (hE : ErrT w) (hT : NamT w) (hP : PowT w) (hv : Vs w A n ps (fun k => k < w.heap.size)) (hnc : n ≤ c) (hc : c ≤ maxLen) (hn : n ≤ 4398046511104)
    (hr : Rd8 w B xs) (hx : xs.length = nb) (hbc : nb ≤ cb) (hq : Vs w C m qs (fun k => k < w.heap.size)) (hmc : m ≤ cm) (hcm : cm ≤ maxLen) (hm : m ≤ 4398046511104) :
    Calls Tryz.prog 3 #[.slice A n c, .slice B nb cb, .slice C m cm] w fun e w' => e = .returned (.bool true) ∧ Fr (fun _ => False) w w' := by
  have HE := Lib.hid hE
  have HP := Lib.hid hP
  have HV := Lib.hid hv
  have HQ := Lib.hid hq
  have HR := Lib.hid hr
  have HX := Lib.hid hx
  have HBIG := Lib.hid (And.intro hnc (And.intro hc (And.intro hn (And.intro hmc (And.intro hcm (And.intro hm hbc))))))
  have CK := Lib.hid (known_any w hE hT)
  clear hE hT hP hv hnc hc hn hr hx hbc hq hmc hcm hm
  go_enter Tryz.func3, Tryz.ntmps3
  go_wp2_with fail
  refine CK.out.mono ?_; rintro e w1 ⟨rfl, hf1⟩
  have HF1 := Lib.hid hf1
  have CF := Lib.hid (few2_any A n c ps _ w1 (HV.out.fr0 hf1) (by have := HBIG.out.2.2.1; omega))
  have CG := Lib.hid (few2_any C m cm qs _ w1 (HQ.out.fr0 hf1) (by have := HBIG.out.2.2.2.2.2.1; omega))
  clear hf1 CK
  go_wp2_with fail
  refine CF.out.mono ?_; rintro e w2 ⟨q1, rfl, hq1, rfl⟩
  have HQ1 := Lib.hid hq1
  clear hq1 CF
  cases q1 with
  | false =>
    clear CG
    go_wp2
    go_ret
    exact ⟨rfl, HF1.out⟩
  | true =>
  go_wp2_with fail
  refine CG.out.mono ?_; rintro e w2 ⟨q2, rfl, hq2, rfl⟩
  have HQ2 := Lib.hid hq2
  clear hq2 CG
  cases q2 with
  | false =>
    go_wp2
    go_ret
    exact ⟨rfl, HF1.out⟩
  | true =>
  by_cases hbig : (8192 : Int) < (nb : Int)
  · have d1 : decide ((8192 : Int) < (nb : Int)) = true := decide_eq_true hbig
    clear hbig
    go_wp2
    go_ret
    exact ⟨rfl, HF1.out⟩
  have d1 : decide ((8192 : Int) < (nb : Int)) = false := decide_eq_false hbig
  have hnl : nb ≤ 8192 := by omega
  have HNL := Lib.hid hnl
  have HN := HQ1.out (by first | rfl | trivial)
  have HM := HQ2.out (by first | rfl | trivial)
  have HNN := Lib.hid HN
  clear hbig hnl HQ1 HQ2 HN HM
  have CD := Lib.hid (decodeE_any B nb cb xs w1 (HE.out.fr HF1.out (fun h => h)) (HR.out.fr HF1.out (fun _ _ _ h => h)) HX.out (by have := HNL.out; omega))
  go_wp2_with fail
  clear d1
  refine CD.out.mono ?_; rintro e w2 ⟨hD, hf2⟩
  have CR := Lib.hid (refDecodeE_any B nb cb xs w2 (HR.out.fr (HF1.out.trans hf2 (fun _ _ h => h)) (fun _ _ _ h => h)) HX.out HBIG.out.2.2.2.2.2.2 (by have := HNL.out; omega))
  have HD := Lib.hid hD
  have HF2 := Lib.hid hf2
  clear hf2 CD
  have hsh : ∃ A9 m9 c9 ev, e = .returned (.tuple #[.slice A9 m9 c9, ev]) := by
    unfold DecE at hD
    split at hD
    · obtain ⟨fb, h1, _⟩ := hD; exact ⟨_, _, _, _, h1⟩
    · obtain ⟨A9, m9, c9, ps9, h1, _⟩ := hD; exact ⟨_, _, _, _, h1⟩
  obtain ⟨A9, m9, c9, ev, rfl⟩ := hsh
  clear hD
  go_wp2_with fail
  refine CR.out.mono ?_; rintro e w3 ⟨hD2, hf3⟩
  obtain ⟨A1, m1, c1, p1, ev1, A2, c2, p2, er, a, wh, e1, rfl, hV1, hV2, hee, hm1, hS⟩ := dec_both HX.out HNL.out hf3 HF2.out (HP.out.fr HF1.out (fun h => h)) (HE.out.fr HF1.out (fun h => h)) HD.out hD2
  injection e1 with e1; injection e1 with e1
  simp only [Array.mk.injEq, List.cons.injEq, Value.slice.injEq, and_true] at e1
  obtain ⟨⟨rfl, rfl, rfl⟩, rfl⟩ := e1
  have HF3 := Lib.hid ((HF1.out.trans HF2.out (fun _ _ h => h)).trans hf3 (fun _ _ h => h))
  have HV1 := Lib.hid hV1
  have HV2 := Lib.hid hV2
  have HEE := Lib.hid hee
  have HM1 := Lib.hid hm1
  have HS := Lib.hid hS
  clear hD2 hf3 hV1 hV2 hee hm1 hS HD HF2 CR
  obtain ⟨g, hg⟩ : ∃ g, w3.heap.size = g := ⟨_, rfl⟩
  obtain ⟨W, hW⟩ : ∃ W, w3.alloc (.cells #[.int .i64 er, .int .i64 a, .string wh] 31) = W := ⟨_, rfl⟩
  have FW : Hid (Fr (fun _ => False) w3 W) := Lib.hid (by rw [← hW]; exact (Fr.refl _ _).alloc _)
  have HBF : Hid (Bk W g 31 #[.int .i64 er, .int .i64 a, .string wh]) := Lib.hid (by rw [← hW, ← hg]; exact Bk.new _ _ _)
  have HFW := Lib.hid (HF3.out.trans FW.out (fun _ _ h => h))
  go_wp2_with fail
  clear hW hg
  obtain ⟨X, hX⟩ : ∃ X, encE (ps.map VL.e) = X := ⟨_, rfl⟩
  obtain ⟨XL, hXL⟩ : ∃ XL, X.length = XL := ⟨_, rfl⟩
  have HVW : Hid (∀ w', Fr (fun _ => False) W w' → Vs w' A n ps (fun k => k < w'.heap.size)) := Lib.hid (fun w' hf => (HV.out.fr0 (HFW.out.trans hf (fun _ _ h => h))).mono (fun k hk => Nat.lt_of_lt_of_le hk (HFW.out.trans hf (fun _ _ h => h)).size))
  have HQW : Hid (∀ w', Fr (fun _ => False) W w' → Vs w' C m qs (fun k => k < w'.heap.size)) := Lib.hid (fun w' hf => (HQ.out.fr0 (HFW.out.trans hf (fun _ _ h => h))).mono (fun k hk => Nat.lt_of_lt_of_le hk (HFW.out.trans hf (fun _ _ h => h)).size))
  have C1 := Lib.hid (fun w' (hf : Fr (fun _ => False) W w') => encodeE_any A n c ps w' (HVW.out w' hf) (by have := HNN.out.1; omega) HNN.out.2)
  have C2 := Lib.hid (fun w' (hf : Fr (fun _ => False) W w') => refEncodeE_any A n c ps w' (HVW.out w' hf) (by have := HNN.out.1; omega) HNN.out.2)
  rw [hX, hXL] at C1 C2
  have C3 : Hid (∀ w', Fr (fun _ => False) W w' → Calls Tryz.prog 12 #[ev, .agg #[.int .i64 er, .int .i64 a, .string wh]] w' fun e w9 => e = .returned (.bool true) ∧ Fr (fun _ => False) w' w9) := Lib.hid (fun w' hf => HS.out w' (FW.out.trans hf (fun _ _ h => h)))
  have C4 := Lib.hid (fun w' (hf : Fr (fun _ => False) W w') => prefix_any A C n m c cm ps qs _ _ w' (HVW.out w' hf) (HQW.out w' hf) (by have := HBIG.out.2.2.1; omega) (by have := HBIG.out.2.2.2.2.2.1; omega) HBIG.out.2.2.2.1 HBIG.out.2.2.2.2.1)
  have C5 := Lib.hid (fun w' (hf : Fr (fun _ => False) W w') => refPrefix_any A C n m c cm ps qs _ _ w' (HVW.out w' hf) (HQW.out w' hf) (by have := HBIG.out.2.2.1; omega) (by have := HBIG.out.2.2.2.2.2.1; omega))
  have C6 := Lib.hid (fun w' (hf : Fr (fun _ => False) W w') => prefix_any C A m n cm c qs ps _ _ w' (HQW.out w' hf) (HVW.out w' hf) (by have := HBIG.out.2.2.2.2.2.1; omega) (by have := HBIG.out.2.2.1; omega) HBIG.out.1 HBIG.out.2.1)
  have C7 := Lib.hid (fun w' (hf : Fr (fun _ => False) W w') => refPrefix_any C A m n cm c qs ps _ _ w' (HQW.out w' hf) (HVW.out w' hf) (by have := HBIG.out.2.2.2.2.2.1; omega) (by have := HBIG.out.2.2.1; omega))
  obtain ⟨b1, hb1⟩ : ∃ b, prefB (evs ps) (evs qs) = b := ⟨_, rfl⟩
  obtain ⟨b2, hb2⟩ : ∃ b, prefB (evs qs) (evs ps) = b := ⟨_, rfl⟩
  rw [hb1] at C4 C5
  rw [hb2] at C6 C7
  have C8 : Hid (∀ w', Fr (fun _ => False) W w' → Calls Tryz.prog 14 #[.slice A9 m9 c9, .slice A2 m9 c2] w' fun e w9 => e = .returned (.bool true) ∧ Fr (fun _ => False) w' w9) := Lib.hid (fun w' hf => by
    obtain ⟨G1, g1⟩ := HV1.out
    obtain ⟨G2, g2⟩ := HV2.out
    have hf9 := FW.out.trans hf (fun _ _ h => h)
    have := refPrefix_any A9 A2 m9 m9 c9 c2 p1 p2 _ _ w' (g1.fr0 hf9) (g2.fr0 hf9) (by have := HM1.out; omega) (by have := HM1.out; omega)
    rw [HEE.out, prefB_self] at this
    exact this)
  have C9 : Hid (∀ w', Fr (fun _ => False) W w' → Calls Tryz.prog 14 #[.slice A2 m9 c2, .slice A9 m9 c9] w' fun e w9 => e = .returned (.bool true) ∧ Fr (fun _ => False) w' w9) := Lib.hid (fun w' hf => by
    obtain ⟨G1, g1⟩ := HV1.out
    obtain ⟨G2, g2⟩ := HV2.out
    have hf9 := FW.out.trans hf (fun _ _ h => h)
    have := refPrefix_any A2 A9 m9 m9 c2 c9 p2 p1 _ _ w' (g2.fr0 hf9) (g1.fr0 hf9) (by have := HM1.out; omega) (by have := HM1.out; omega)
    rw [HEE.out, prefB_self] at this
    exact this)
  have HXL := Lib.hid hXL
  have hst := strOf_same X
  have hst2 := strOf_same' X
  have hbb1 : (b1 != b1) = false := by simp
  have hbb2 : (b2 != b2) = false := by simp
  have hbe1 : (b1 == b1) = true := by simp
  have hbe2 : (b2 == b2) = true := by simp
  have hmm : ((m9 : Int) != (m9 : Int)) = false := by simp
  have hmm' : ((m9 : Int) == (m9 : Int)) = true := by simp
  have hmm2 : (m9 != m9) = false := by simp
  clear hX hXL hb1 hb2 HS HV1 HV2 HEE HM1 HVW HQW HNN HV HQ HR HX HE HP HBIG HNL FW HF1 HF3
  refine wp_region_held_drew (S := (fun w' => Fr (fun _ => False) W w' ∧ True ∧ True)) (by kernel_rfl) (⟨(Fr.refl _ _).drew, trivial, trivial⟩) (fun hHeld => ?_)
  refine wpAnyH_takeD (i := 0) (v := ?_) (some 36) rfl rfl (by kernel_rfl) (by kernel_rfl) (by kernel_rfl) (fun _ _ _ h => h) (Or.inl ⟨by rfl, ?_⟩) (by assumption) ?_
  rotate_left
  · intro w' hSw
    go_simp
    first | done | with_reducible rfl
  try simp only [Act.put, List.setIfInBounds_toArray, List.set_cons_zero, List.set_cons_succ]
  refine wpAnyH_takeD (i := 3) (v := ?_) (some 39) rfl rfl (by kernel_rfl) (by kernel_rfl) (by kernel_rfl) (fun _ _ _ h => h) (Or.inl ⟨by rfl, ?_⟩) (by assumption) ?_
  rotate_left
  · intro w' hSw
    go_simp
    first | done | with_reducible rfl
  try simp only [Act.put, List.setIfInBounds_toArray, List.set_cons_zero, List.set_cons_succ]
  refine wpAnyH_ready (rs := [1]) (by kernel_rfl) (by simp) ?_
  refine AllReadyH.cons rfl (fun K hK => ?_) AllReadyH.nil
  go_simp
  refine (C1.out _ hHeld.1).mono ?_; rintro e w9 ⟨Y1, kY1, rfl, ho9, hf9⟩
  have HRY1 := Lib.hid ho9.rd
  try go_simp
  refine hK.out _ _ (⟨hHeld.1.trans hf9 (fun _ _ h => h), trivial, trivial⟩) (fun hHeld => ?_)
  clear hK K
  try change wpAnyH _ _ _ _ _ _ _ (Act.put _ (some 37) _) _
  try simp only [Act.put, List.setIfInBounds_toArray, List.set_cons_zero, List.set_cons_succ]
  refine wpAnyH_more (S' := (fun w' => Fr (fun _ => False) W w' ∧ Rd8 w' Y1 X ∧ True)) (fun _ h => ⟨h.1, trivial, trivial⟩) _ _ _ _ ?_
  replace hHeld := And.intro hHeld.1 (And.intro (HRY1.out) (trivial))
  clear ho9 hf9 HRY1
  refine wpAnyH_takeD (i := 2) (v := ?_) (some 38) rfl rfl (by kernel_rfl) (by kernel_rfl) (by kernel_rfl) (fun _ _ _ h => h) (Or.inl ⟨by rfl, ?_⟩) (by assumption) ?_
  rotate_left
  · intro w' hSw
    have hcv := run_str8 (w := w') Tryz.t8 Tryz.underlying5 Tryz.underlying9 kY1 hSw.2.1 HXL.out
    go_simp
    first | done | with_reducible rfl
  try simp only [Act.put, List.setIfInBounds_toArray, List.set_cons_zero, List.set_cons_succ]
  refine wpAnyH_ready (rs := [4]) (by kernel_rfl) (by simp) ?_
  refine AllReadyH.cons rfl (fun K hK => ?_) AllReadyH.nil
  go_simp
  refine (C2.out _ hHeld.1).mono ?_; rintro e w9 ⟨Y2, kY2, rfl, ho9, hf9⟩
  have HRY2 := Lib.hid ho9.rd
  try go_simp
  refine hK.out _ _ (⟨hHeld.1.trans hf9 (fun _ _ h => h), hHeld.2.1.fr hf9 (fun _ _ _ h => h), trivial⟩) (fun hHeld => ?_)
  clear hK K
  try change wpAnyH _ _ _ _ _ _ _ (Act.put _ (some 40) _) _
  try simp only [Act.put, List.setIfInBounds_toArray, List.set_cons_zero, List.set_cons_succ]
  refine wpAnyH_more (S' := (fun w' => Fr (fun _ => False) W w' ∧ Rd8 w' Y1 X ∧ Rd8 w' Y2 X)) (fun _ h => ⟨h.1, h.2.1, trivial⟩) _ _ _ _ ?_
  replace hHeld := And.intro hHeld.1 (And.intro (hHeld.2.1) (HRY2.out))
  clear ho9 hf9 HRY2
  refine wpAnyH_takeD (i := 5) (v := ?_) (some 41) rfl rfl (by kernel_rfl) (by kernel_rfl) (by kernel_rfl) (fun _ _ _ h => h) (Or.inl ⟨by rfl, ?_⟩) (by assumption) ?_
  rotate_left
  · intro w' hSw
    have hcv := run_str8 (w := w') Tryz.t8 Tryz.underlying5 Tryz.underlying9 kY2 hSw.2.2 HXL.out
    go_simp
    first | done | with_reducible rfl
  try simp only [Act.put, List.setIfInBounds_toArray, List.set_cons_zero, List.set_cons_succ]
  refine wpAnyH_takeD (i := 6) (v := ?_) (some 42) rfl rfl (by kernel_rfl) (by kernel_rfl) (by kernel_rfl) (fun _ _ _ h => h) (Or.inl ⟨by rfl, ?_⟩) (by assumption) ?_
  rotate_left
  · intro w' hSw
    go_simp
    first | done | with_reducible rfl
  try simp only [Act.put, List.setIfInBounds_toArray, List.set_cons_zero, List.set_cons_succ]
  refine wpAnyH_takeD (i := 7) (v := ?_) (some 43) rfl rfl (by kernel_rfl) (by kernel_rfl) (by kernel_rfl) (fun _ _ _ h => h) (Or.inl ⟨by rfl, ?_⟩) (by assumption) ?_
  rotate_left
  · intro w' hSw
    go_simp
    first | done | with_reducible rfl
  try simp only [Act.put, List.setIfInBounds_toArray, List.set_cons_zero, List.set_cons_succ]
  refine wpAnyH_takeD (i := 8) (v := ?_) (some 44) rfl rfl (by kernel_rfl) (by kernel_rfl) (by kernel_rfl) (fun _ _ _ h => h) (Or.inl ⟨by rfl, ?_⟩) (by assumption) ?_
  rotate_left
  · intro w' hSw
    go_simp
    first | done | with_reducible rfl
  try simp only [Act.put, List.setIfInBounds_toArray, List.set_cons_zero, List.set_cons_succ]
  refine wpAnyH_takeD (i := 9) (v := ?_) (some 45) rfl rfl (by kernel_rfl) (by kernel_rfl) (by kernel_rfl) (fun _ _ _ h => h) (Or.inl ⟨by rfl, ?_⟩) (by assumption) ?_
  rotate_left
  · intro w' hSw
    have q := HBF.out.fr hSw.1 (fun h => h); have q0 := q.cell 0; have q1 := q.cell 1; have q2 := q.cell 2; simp only [List.getElem?_toArray, List.getElem?_cons_zero, List.getElem?_cons_succ] at q0 q1 q2
    go_simp
    first | done | with_reducible rfl
  try simp only [Act.put, List.setIfInBounds_toArray, List.set_cons_zero, List.set_cons_succ]
  refine wpAnyH_ready (rs := [10]) (by kernel_rfl) (by simp) ?_
  refine AllReadyH.cons rfl (fun K hK => ?_) AllReadyH.nil
  go_simp
  refine (C3.out _ hHeld.1).mono ?_; rintro e w9 ⟨rfl, hf9⟩
  try go_simp
  refine hK.out _ _ (⟨hHeld.1.trans hf9 (fun _ _ h => h), hHeld.2.1.fr hf9 (fun _ _ _ h => h), hHeld.2.2.fr hf9 (fun _ _ _ h => h)⟩) (fun hHeld => ?_)
  clear hK K
  try change wpAnyH _ _ _ _ _ _ _ (Act.put _ (some 46) _) _
  try simp only [Act.put, List.setIfInBounds_toArray, List.set_cons_zero, List.set_cons_succ]
  clear hf9
  refine wpAnyH_takeD (i := 11) (v := ?_) (some 47) rfl rfl (by kernel_rfl) (by kernel_rfl) (by kernel_rfl) (fun _ _ _ h => h) (Or.inl ⟨by rfl, ?_⟩) (by assumption) ?_
  rotate_left
  · intro w' hSw
    go_simp
    first | done | with_reducible rfl
  try simp only [Act.put, List.setIfInBounds_toArray, List.set_cons_zero, List.set_cons_succ]
  refine wpAnyH_takeD (i := 12) (v := ?_) (some 48) rfl rfl (by kernel_rfl) (by kernel_rfl) (by kernel_rfl) (fun _ _ _ h => h) (Or.inl ⟨by rfl, ?_⟩) (by assumption) ?_
  rotate_left
  · intro w' hSw
    go_simp
    first | done | with_reducible rfl
  try simp only [Act.put, List.setIfInBounds_toArray, List.set_cons_zero, List.set_cons_succ]
  refine wpAnyH_takeD (i := 13) (v := ?_) (some 49) rfl rfl (by kernel_rfl) (by kernel_rfl) (by kernel_rfl) (fun _ _ _ h => h) (Or.inl ⟨by rfl, ?_⟩) (by assumption) ?_
  rotate_left
  · intro w' hSw
    go_simp
    first | done | with_reducible rfl
  try simp only [Act.put, List.setIfInBounds_toArray, List.set_cons_zero, List.set_cons_succ]
  refine wpAnyH_takeD (i := 14) (v := ?_) (some 50) rfl rfl (by kernel_rfl) (by kernel_rfl) (by kernel_rfl) (fun _ _ _ h => h) (Or.inl ⟨by rfl, ?_⟩) (by assumption) ?_
  rotate_left
  · intro w' hSw
    go_simp
    first | done | with_reducible rfl
  try simp only [Act.put, List.setIfInBounds_toArray, List.set_cons_zero, List.set_cons_succ]
  refine wpAnyH_takeD (i := 15) (v := ?_) (some 51) rfl rfl (by kernel_rfl) (by kernel_rfl) (by kernel_rfl) (fun _ _ _ h => h) (Or.inl ⟨by rfl, ?_⟩) (by assumption) ?_
  rotate_left
  · intro w' hSw
    go_simp
    first | done | with_reducible rfl
  try simp only [Act.put, List.setIfInBounds_toArray, List.set_cons_zero, List.set_cons_succ]
  refine wpAnyH_takeD (i := 16) (v := ?_) (some 52) rfl rfl (by kernel_rfl) (by kernel_rfl) (by kernel_rfl) (fun _ _ _ h => h) (Or.inl ⟨by rfl, ?_⟩) (by assumption) ?_
  rotate_left
  · intro w' hSw
    go_simp
    first | done | with_reducible rfl
  try simp only [Act.put, List.setIfInBounds_toArray, List.set_cons_zero, List.set_cons_succ]
  refine wpAnyH_takeD (i := 17) (v := ?_) (some 53) rfl rfl (by kernel_rfl) (by kernel_rfl) (by kernel_rfl) (fun _ _ _ h => h) (Or.inl ⟨by rfl, ?_⟩) (by assumption) ?_
  rotate_left
  · intro w' hSw
    go_simp
    first | done | with_reducible rfl
  try simp only [Act.put, List.setIfInBounds_toArray, List.set_cons_zero, List.set_cons_succ]
  refine wpAnyH_takeD (i := 18) (v := ?_) (some 54) rfl rfl (by kernel_rfl) (by kernel_rfl) (by kernel_rfl) (fun _ _ _ h => h) (Or.inl ⟨by rfl, ?_⟩) (by assumption) ?_
  rotate_left
  · intro w' hSw
    go_simp
    first | done | with_reducible rfl
  try simp only [Act.put, List.setIfInBounds_toArray, List.set_cons_zero, List.set_cons_succ]
  refine wpAnyH_takeD (i := 19) (v := ?_) (some 55) rfl rfl (by kernel_rfl) (by kernel_rfl) (by kernel_rfl) (fun _ _ _ h => h) (Or.inl ⟨by rfl, ?_⟩) (by assumption) ?_
  rotate_left
  · intro w' hSw
    go_simp
    first | done | with_reducible rfl
  try simp only [Act.put, List.setIfInBounds_toArray, List.set_cons_zero, List.set_cons_succ]
  refine wpAnyH_takeD (i := 20) (v := ?_) (some 56) rfl rfl (by kernel_rfl) (by kernel_rfl) (by kernel_rfl) (fun _ _ _ h => h) (Or.inl ⟨by rfl, ?_⟩) (by assumption) ?_
  rotate_left
  · intro w' hSw
    go_simp
    first | done | with_reducible rfl
  try simp only [Act.put, List.setIfInBounds_toArray, List.set_cons_zero, List.set_cons_succ]
  refine wpAnyH_takeD (i := 21) (v := ?_) (some 57) rfl rfl (by kernel_rfl) (by kernel_rfl) (by kernel_rfl) (fun _ _ _ h => h) (Or.inl ⟨by rfl, ?_⟩) (by assumption) ?_
  rotate_left
  · intro w' hSw
    go_simp
    first | done | with_reducible rfl
  try simp only [Act.put, List.setIfInBounds_toArray, List.set_cons_zero, List.set_cons_succ]
  refine wpAnyH_takeD (i := 22) (v := ?_) (some 58) rfl rfl (by kernel_rfl) (by kernel_rfl) (by kernel_rfl) (fun _ _ _ h => h) (Or.inl ⟨by rfl, ?_⟩) (by assumption) ?_
  rotate_left
  · intro w' hSw
    go_simp
    first | done | with_reducible rfl
  try simp only [Act.put, List.setIfInBounds_toArray, List.set_cons_zero, List.set_cons_succ]
  refine wpAnyH_takeD (i := 24) (v := ?_) (some 60) rfl rfl (by kernel_rfl) (by kernel_rfl) (by kernel_rfl) (fun _ _ _ h => h) (Or.inl ⟨by rfl, ?_⟩) (by assumption) ?_
  rotate_left
  · intro w' hSw
    go_simp
    first | done | with_reducible rfl
  try simp only [Act.put, List.setIfInBounds_toArray, List.set_cons_zero, List.set_cons_succ]
  refine wpAnyH_takeD (i := 25) (v := ?_) (some 61) rfl rfl (by kernel_rfl) (by kernel_rfl) (by kernel_rfl) (fun _ _ _ h => h) (Or.inl ⟨by rfl, ?_⟩) (by assumption) ?_
  rotate_left
  · intro w' hSw
    go_simp
    first | done | with_reducible rfl
  try simp only [Act.put, List.setIfInBounds_toArray, List.set_cons_zero, List.set_cons_succ]
  refine wpAnyH_ready (rs := [23]) (by kernel_rfl) (by simp) ?_
  refine AllReadyH.cons rfl (fun K hK => ?_) AllReadyH.nil
  go_simp
  refine (C4.out _ hHeld.1).mono ?_; rintro e w9 ⟨rfl, hf9⟩
  try go_simp
  refine hK.out _ _ (⟨hHeld.1.trans hf9 (fun _ _ h => h), hHeld.2.1.fr hf9 (fun _ _ _ h => h), hHeld.2.2.fr hf9 (fun _ _ _ h => h)⟩) (fun hHeld => ?_)
  clear hK K
  try change wpAnyH _ _ _ _ _ _ _ (Act.put _ (some 59) _) _
  try simp only [Act.put, List.setIfInBounds_toArray, List.set_cons_zero, List.set_cons_succ]
  clear hf9
  refine wpAnyH_ready (rs := [26]) (by kernel_rfl) (by simp) ?_
  refine AllReadyH.cons rfl (fun K hK => ?_) AllReadyH.nil
  go_simp
  refine (C5.out _ hHeld.1).mono ?_; rintro e w9 ⟨rfl, hf9⟩
  try go_simp
  refine hK.out _ _ (⟨hHeld.1.trans hf9 (fun _ _ h => h), hHeld.2.1.fr hf9 (fun _ _ _ h => h), hHeld.2.2.fr hf9 (fun _ _ _ h => h)⟩) (fun hHeld => ?_)
  clear hK K
  try change wpAnyH _ _ _ _ _ _ _ (Act.put _ (some 62) _) _
  try simp only [Act.put, List.setIfInBounds_toArray, List.set_cons_zero, List.set_cons_succ]
  clear hf9
  refine wpAnyH_takeD (i := 27) (v := ?_) (some 63) rfl rfl (by kernel_rfl) (by kernel_rfl) (by kernel_rfl) (fun _ _ _ h => h) (Or.inl ⟨by rfl, ?_⟩) (by assumption) ?_
  rotate_left
  · intro w' hSw
    go_simp
    first | done | with_reducible rfl
  try simp only [Act.put, List.setIfInBounds_toArray, List.set_cons_zero, List.set_cons_succ]
  refine wpAnyH_takeD (i := 28) (v := ?_) (some 64) rfl rfl (by kernel_rfl) (by kernel_rfl) (by kernel_rfl) (fun _ _ _ h => h) (Or.inl ⟨by rfl, ?_⟩) (by assumption) ?_
  rotate_left
  · intro w' hSw
    go_simp
    first | done | with_reducible rfl
  try simp only [Act.put, List.setIfInBounds_toArray, List.set_cons_zero, List.set_cons_succ]
  refine wpAnyH_takeD (i := 29) (v := ?_) (some 65) rfl rfl (by kernel_rfl) (by kernel_rfl) (by kernel_rfl) (fun _ _ _ h => h) (Or.inl ⟨by rfl, ?_⟩) (by assumption) ?_
  rotate_left
  · intro w' hSw
    go_simp
    first | done | with_reducible rfl
  try simp only [Act.put, List.setIfInBounds_toArray, List.set_cons_zero, List.set_cons_succ]
  refine wpAnyH_takeD (i := 30) (v := ?_) (some 66) rfl rfl (by kernel_rfl) (by kernel_rfl) (by kernel_rfl) (fun _ _ _ h => h) (Or.inl ⟨by rfl, ?_⟩) (by assumption) ?_
  rotate_left
  · intro w' hSw
    go_simp
    first | done | with_reducible rfl
  try simp only [Act.put, List.setIfInBounds_toArray, List.set_cons_zero, List.set_cons_succ]
  refine wpAnyH_takeD (i := 31) (v := ?_) (some 67) rfl rfl (by kernel_rfl) (by kernel_rfl) (by kernel_rfl) (fun _ _ _ h => h) (Or.inl ⟨by rfl, ?_⟩) (by assumption) ?_
  rotate_left
  · intro w' hSw
    go_simp
    first | done | with_reducible rfl
  try simp only [Act.put, List.setIfInBounds_toArray, List.set_cons_zero, List.set_cons_succ]
  refine wpAnyH_takeD (i := 33) (v := ?_) (some 69) rfl rfl (by kernel_rfl) (by kernel_rfl) (by kernel_rfl) (fun _ _ _ h => h) (Or.inl ⟨by rfl, ?_⟩) (by assumption) ?_
  rotate_left
  · intro w' hSw
    go_simp
    first | done | with_reducible rfl
  try simp only [Act.put, List.setIfInBounds_toArray, List.set_cons_zero, List.set_cons_succ]
  refine wpAnyH_takeD (i := 34) (v := ?_) (some 70) rfl rfl (by kernel_rfl) (by kernel_rfl) (by kernel_rfl) (fun _ _ _ h => h) (Or.inl ⟨by rfl, ?_⟩) (by assumption) ?_
  rotate_left
  · intro w' hSw
    go_simp
    first | done | with_reducible rfl
  try simp only [Act.put, List.setIfInBounds_toArray, List.set_cons_zero, List.set_cons_succ]
  refine wpAnyH_ready (rs := [32]) (by kernel_rfl) (by simp) ?_
  refine AllReadyH.cons rfl (fun K hK => ?_) AllReadyH.nil
  go_simp
  refine (C6.out _ hHeld.1).mono ?_; rintro e w9 ⟨rfl, hf9⟩
  try go_simp
  refine hK.out _ _ (⟨hHeld.1.trans hf9 (fun _ _ h => h), hHeld.2.1.fr hf9 (fun _ _ _ h => h), hHeld.2.2.fr hf9 (fun _ _ _ h => h)⟩) (fun hHeld => ?_)
  clear hK K
  try change wpAnyH _ _ _ _ _ _ _ (Act.put _ (some 68) _) _
  try simp only [Act.put, List.setIfInBounds_toArray, List.set_cons_zero, List.set_cons_succ]
  clear hf9
  refine wpAnyH_ready (rs := [35]) (by kernel_rfl) (by simp) ?_
  refine AllReadyH.cons rfl (fun K hK => ?_) AllReadyH.nil
  go_simp
  refine (C7.out _ hHeld.1).mono ?_; rintro e w9 ⟨rfl, hf9⟩
  try go_simp
  refine hK.out _ _ (⟨hHeld.1.trans hf9 (fun _ _ h => h), hHeld.2.1.fr hf9 (fun _ _ _ h => h), hHeld.2.2.fr hf9 (fun _ _ _ h => h)⟩) (fun hHeld => ?_)
  clear hK K
  try change wpAnyH _ _ _ _ _ _ _ (Act.put _ (some 71) _) _
  try simp only [Act.put, List.setIfInBounds_toArray, List.set_cons_zero, List.set_cons_succ]
  clear hf9
  refine wpAnyH_takeD (i := 36) (v := ?_) (some 72) rfl rfl (by kernel_rfl) (by kernel_rfl) (by kernel_rfl) (fun _ _ _ h => h) (Or.inl ⟨by rfl, ?_⟩) (by assumption) ?_
  rotate_left
  · intro w' hSw
    go_simp
    first | done | with_reducible rfl
  try simp only [Act.put, List.setIfInBounds_toArray, List.set_cons_zero, List.set_cons_succ]
  refine wpAnyH_takeD (i := 37) (v := ?_) (some 73) rfl rfl (by kernel_rfl) (by kernel_rfl) (by kernel_rfl) (fun _ _ _ h => h) (Or.inl ⟨by rfl, ?_⟩) (by assumption) ?_
  rotate_left
  · intro w' hSw
    go_simp
    first | done | with_reducible rfl
  try simp only [Act.put, List.setIfInBounds_toArray, List.set_cons_zero, List.set_cons_succ]
  refine wpAnyH_done (by kernel_rfl) ?_ _
  have HH := Lib.hid hHeld.1
  clear hHeld C1 C2 C3 C4 C5 C6 C7
  go_wp2_with fail
  refine (C8.out _ HH.out).mono ?_; rintro e w8 ⟨rfl, hf8⟩
  have HH8 := Lib.hid (HH.out.trans hf8 (fun _ _ h => h))
  clear hf8
  go_wp2_with fail
  refine (C9.out _ HH8.out).mono ?_; rintro e w10 ⟨rfl, hf9⟩
  have HH9 := Lib.hid (HH8.out.trans hf9 (fun _ _ h => h))
  clear hf9
  go_wp2
  go_ret
  exact ⟨rfl, HFW.out.trans HH9.out (fun _ _ h => h)⟩
end Go.Proofs.YtieoeoonopcjbaaGreatDoor

/- From a row's readings to the words of the walks, and back. -/
namespace Go.Proofs.YtieoeoonopcjbaaGreatDoor
open Go.ChangeShapes Go.WideShapes Go.ChangeAt Go.RowKit

theorem Tryz.own : ownKnob Tryz.prog.godebug = none := by kernel_rfl
theorem Tryz.laidOut : laidOutB Tryz.prog = true := by kernel_rfl
theorem Tryz.cellsU32 : Tryz.prog.cellsOf 266 = 1 := by kernel_rfl
theorem Tryz.cellsU8 : Tryz.prog.cellsOf 5 = 1 := by kernel_rfl
theorem Tryz.et : Tryz.prog.globalNamed "errors.errorType" = some 0 := by kernel_rfl
theorem Tryz.rt : (Tryz.prog.cutTypes.find? (·.1 == "internal/reflectlite.rtype")).map (·.2) = some 217 := by kernel_rfl
theorem Tryz.oneRow : ((List.range 299).filter fun t => Tryz.prog.rowNamed t [101, 114, 114, 111, 114]) = [27] := by kernel_rfl
theorem Tryz.size : Tryz.prog.types.size = 299 := by kernel_rfl

def halvesList : List Int := [0, 274646895, 549293790, 820201905, 1098587580, 1361435347, 1640403810, 1905808397, 2197175160, 2460548119, 2722870694, 2987750089, 3280807620, 3553878443, 3811616794, 4084100981]
theorem halves_list : ∀ i : Fin 16, halvesList.getD i.val 0 = (halfN i.val : Int) := by decide +kernel

theorem laid_mem {P : Program} {w : World} : ∀ {l : List (String × DataW Unit)} {ps : List MemPlace}, DataW.LaidVars P w l ps → ∀ {n : String} {d : DataW Unit}, (n, d) ∈ l →
    ∃ g t cs fuel p, P.globalNamed n = some g ∧ (P.globals[g]?).map (·.type) = some t ∧ w.var? P n = some cs ∧ DataW.trod (fun _ => ()) P w 0 (fun _ => true) false fuel t cs.toList = some (d, p)
  | [], _, _, _, _, hm => by cases hm
  | (n', d') :: r, ps, h, n, d, hm => by
    obtain ⟨g, t, cs, fuel, p, q, h1, h2, h3, h4, h5, _⟩ := h
    cases hm with
    | head => exact ⟨g, t, cs, fuel, p, h1, h2, h3, h4⟩
    | tail _ hm => exact laid_mem h5 hm

theorem errT_of_laid {W : World} {l : List (String × DataW Unit)} (h : handlesMet Tryz.prog l W) (hm : ("errors.errorType", (Rows.laid_errors_errorType : DataW Unit)) ∈ l) : ErrT W := by
  obtain ⟨name, u, ty, e1, e2, e3, e4, e5⟩ := h _ hm
  have en : name = [101, 114, 114, 111, 114] := (Option.some.inj e1).symm
  subst en
  obtain rfl := Option.some.inj (Tryz.rt.symm.trans e2)
  have hm : ty ∈ (List.range 299).filter fun t => Tryz.prog.rowNamed t [101, 114, 114, 111, 114] := List.mem_filter.2 ⟨List.mem_range.2 (by rw [← Tryz.size]; exact e3), e4⟩
  rw [Tryz.oneRow] at hm
  obtain rfl := List.mem_singleton.1 hm
  have hh : typeHandle Tryz.prog 27 = .pointer (some ⟨6, 27, none⟩) := by kernel_rfl
  rw [hh] at e5
  show W.cell? _ = _
  simpa using World.var?_cell Tryz.et e5 0

/-- Nothing old has turned: all arguments read as they did. -/
theorem below_trodAll {H : Type} {enc : TypeId × Value → H} {P : Program} (hl : laidOutB P = true) {W W' : World} (hb : Below W.heap.size W W') :
    ∀ {ts : List TypeId} {vs : List Value} {ds : List (DataW H)} {ps : List MemPlace}, (∀ t ∈ ts, P.readableRec t = true ∧ t < P.types.size) → DataW.TrodAll enc P W 0 (fun _ => true) true ts vs ds ps → (∀ x ∈ ps, x.block < W.heap.size) →
      DataW.TrodAll enc P W' 0 (fun b => decide (b < W.heap.size)) true ts vs ds ps
  | [], [], [], _, _, h, _ => h
  | t :: ts, v :: vs, d :: ds, ps, hr, ⟨p, q, h1, h2, e⟩, hp => by
    subst e
    obtain ⟨r1, r2⟩ := hr t (List.mem_cons_self ..)
    exact ⟨p, q, Below.trod hl r1 r2 h1 hb (fun x hx => hp x (List.mem_append_left _ hx)), below_trodAll hl hb (fun t ht => hr t (List.mem_cons_of_mem _ ht)) h2 (fun x hx => hp x (List.mem_append_right _ hx)), rfl⟩
  | [], _ :: _, _, _, _, h, _ => by cases h
  | [], [], _ :: _, _, _, h, _ => by cases h
  | _ :: _, [], _, _, _, h, _ => by cases h
  | _ :: _, _ :: _, [], _, _, h, _ => by cases h

/-- WHAT EVERY LAW ENDS IN: true, and nothing old has turned. -/
theorem post_true {H : Type} {enc : TypeId × Value → H} {f : Func} {s : ChangeSpec} {W W' : World} {args : Array Value} {ds gs : List (DataW H)} {before : List MemPlace} (fresh handsOn : Bool)
    (hW : DataW.Whole enc Tryz.prog f.params.toList s.vars false W args.toList ds gs before) (hv : s.vars = []) (hr : f.resultTypes = #[4])
    (hs : s.fn H (ds ++ gs) = { results := [.lit (.bool true)], args := ds }) (hp : (f.params.toList.all fun t => Tryz.prog.readableRec t && decide (t < Tryz.prog.types.size)) = true)
    (hf : Fr (fun _ => False) W W') : s.post enc Tryz.prog f false fresh handsOn false W args (.bool true) W' := by
  have hb : Below W.heap.size W W' := hf.below _ (Nat.le_refl _) (fun _ _ h => h)
  obtain ⟨p, q, hA, hV, hpq, h3, h4⟩ := hW
  have hlt : ∀ x ∈ p, x.block < W.heap.size := fun x hx => by
    have := (show DataW.Whole enc Tryz.prog f.params.toList s.vars false W args.toList ds gs before from ⟨p, q, hA, hV, hpq, h3, h4⟩).lt x (by rw [hpq]; exact List.mem_append_left _ hx)
    simpa using this
  refine ⟨ds, gs, before, [], p, [], ⟨p, q, hA, hV, hpq, h3, h4⟩, ?_, ?_, ?_, hb.frame _, fun h => by cases h⟩
  · rw [hs, hr]
    exact trodAll_mk1 (shut_bool Tryz.underlying4 true)
  · rw [hs]
    exact below_trodAll Tryz.laidOut hb (fun t ht => by simpa using List.all_eq_true.1 hp t ht) hA hlt
  · rw [hs, hv]
    rfl

set_option maxRecDepth 100000 in
/-- A SLICE OF BYTES THAT CAME IN. -/
theorem open_bytes {H : Type} {enc : TypeId × Value → H} {W : World} {base : Nat} {v : Value} {d : DataW H} {ps : List MemPlace} (hval : Value.okWide Tryz.prog W .any base 23 v) (h : DataW.Trod enc Tryz.prog W 0 (fun _ => true) true 23 v d ps) :
    ∃ A n c xs, v = .slice A n c ∧ Rd8 W A xs ∧ xs.length = n ∧ n ≤ c ∧ (c : Int) ≤ 9223372036854775807 ∧ (∀ ad, A = some ad → 0 < n → ad.block < W.heap.size) := by
  obtain ⟨A, n, c, rfl⟩ := okWide_slice Tryz.underlying23 hval
  obtain ⟨fuel, hf⟩ := h
  rcases open_ints Tryz.underlying23 Tryz.underlying5 Tryz.cellsU8 hf with ⟨hcs, hx⟩ | ⟨a, len', cap', zs, hcs, _, hl, hm, hz, hx, hcell, hwz⟩
  · simp [Value.cells] at hcs
    obtain ⟨rfl, rfl, rfl⟩ := hcs
    exact ⟨none, 0, 0, [], rfl, Rd8.nil _ _, rfl, Nat.le_refl _, by omega, fun ad e => by cases e⟩
  · simp [Value.cells] at hcs
    obtain ⟨rfl, rfl, rfl⟩ := hcs
    unfold maxLen at hm
    simp only [if_true] at hz
    have hcl : ∀ j, j < n → (a.spot = none ∧ W.cell? ⟨a.block, a.off + j, none⟩ = some (.int .u8 (((zs.take n).map fun z => UInt8.ofNat z.toNat).getD j 0).toNat)) := by
      intro j hj
      have h0 := hcell j (by omega)
      have hsp := World.cell?_spot h0
      obtain ⟨b, o, sp⟩ := a
      have hsp0 : sp = none := by
        have := World.cell?_spot (hcell 0 (by omega))
        simpa [Addr.add] using this
      subst hsp0
      refine ⟨rfl, ?_⟩
      rw [add_at] at h0
      rw [h0]
      have hw := bounds_u8 (hwz (zs.getD j 0) (by simp [List.getD, show j < zs.length by omega]))
      have e : ((zs.take n).map fun z => UInt8.ofNat z.toNat).getD j 0 = UInt8.ofNat (zs.getD j 0).toNat := by
        simp [List.getD, show j < n from hj, show j < zs.length by omega]
      rw [e, UInt8.toNat_ofNat', Nat.mod_eq_of_lt (by omega)]
      congr 2
      omega
    refine ⟨some a, n, c, (zs.take n).map fun z => UInt8.ofNat z.toNat, rfl, fun h0 => ⟨a, rfl, ?_, fun j hj => ?_⟩, by simp; omega, hl, by omega, fun ad e h0 => ?_⟩
    · simp at h0; exact (hcl 0 (by omega)).1
    · simp at hj
      have := (hcl j (by omega)).2
      simpa [List.getD, show j < n by omega, show j < zs.length by omega] using this
    · injection e with e
      subst e
      have := World.block_lt_of_cell? W _ (hcl 0 h0).2
      exact this
end Go.Proofs.YtieoeoonopcjbaaGreatDoor

/- The listed variables of event's laws; events that came in. -/
namespace Go.Proofs.YtieoeoonopcjbaaGreatDoor
open Go.ChangeShapes Go.WideShapes Go.ChangeAt Go.RowKit Go.Deep

/-! ### the variables -/
theorem mapM_at' {α β : Type} {f : α → Option β} {l : List α} {r : List β} (h : l.mapM f = some r) (i : Nat) (a : α) (ha : l[i]? = some a) : ∃ b, r[i]? = some b ∧ f a = some b := Lib.mapM_at h i a ha
/-- An array of strings that reads so holds these strings. -/
theorem strs_of_tab {H : Type} {enc : TypeId × Value → H} {P : Program} {w : World} {base : Nat} {sp : Nat → Bool} {held : Bool} {fuel : Nat} {t e : TypeId} {n : Nat} {cs : List Value} {zs : List (List UInt8)} {p : List MemPlace}
    (ht : P.underlying t = some (.array n e)) (he : P.underlying e = some .string) (hce : P.cellsOf e = 1) (hct : P.cellsOf t = n)
    (h : DataW.trod enc P w base sp held fuel t cs = some (.agg (zs.map fun z => .lit (.string z)), p)) (i : Nat) (z : List UInt8) (hz : zs[i]? = some z) : ∃ s : ByteArray, cs[i]? = some (.string s) ∧ s.data.toList = z := by
  cases fuel with
  | zero => simp [DataW.trod] at h
  | succ fuel =>
    simp only [DataW.trod, ht, hce, hct, Nat.mul_one] at h
    split at h
    · rename_i hl
      obtain ⟨xs, hm, hx⟩ := Option.map_eq_some_iff.1 h
      have hxs : xs.map (·.1) = zs.map fun z => (DataW.lit (.string z) : DataW H) := by
        have := congrArg Prod.fst hx
        simpa using this
      have hxl : xs.length = n := by simpa using Lib.mapM_length hm
      have hzl : zs.length = n := by
        have := congrArg List.length hxs
        simp at this
        omega
      have hi : i < n := by
        have := (List.getElem?_eq_some_iff.1 hz).1
        omega
      obtain ⟨b, hb, hf⟩ := Lib.mapM_at hm i i (by simp [hi])
      obtain ⟨s, hc, rfl, _⟩ := DataW.trod_string he hf
      have h1 : cs[i]? = some (.string s) := by
        have := congrArg (·[0]?) hc
        simpa [List.getElem?_take, List.getElem?_drop] using this
      have h2 : (xs.map (·.1))[i]? = some (DataW.lit (.string s.data.toList) : DataW H) := by simp [hb]
      rw [hxs] at h2
      simp only [List.getElem?_map, hz, Option.map_some, Option.some.injEq, DataW.lit.injEq, Lit.string.injEq] at h2
      exact ⟨s, h1, h2.symm⟩
    · cases h
theorem Tryz.gNames : Tryz.prog.globalNamed "teasel/event.names" = some 1 := by kernel_rfl
theorem Tryz.gNamesType : (Tryz.prog.globals[1]?).map (·.type) = some 175 := by kernel_rfl
theorem Tryz.cellsNames : Tryz.prog.cellsOf 175 = 24 := by kernel_rfl
theorem Tryz.cellsStr : Tryz.prog.cellsOf 9 = 1 := by kernel_rfl
theorem names_data : (Rows.laid_teasel_event_names : DataW Unit) = .agg ((nameTab.map fun s => s.data.toList).map fun z => .lit (.string z)) := by kernel_rfl
theorem nam_of_laid {W : World} {l : List (String × DataW Unit)} (h : laidMet Tryz.prog l W) (hm : ("teasel/event.names", (Rows.laid_teasel_event_names : DataW Unit)) ∈ l) : NamT W := by
  obtain ⟨ps, hl, _, _⟩ := h
  obtain ⟨g, t, cs, fuel, p, h1, h2, h3, h4⟩ := laid_mem hl hm
  obtain rfl := Option.some.inj (Tryz.gNames.symm.trans h1)
  obtain rfl := Option.some.inj (Tryz.gNamesType.symm.trans h2)
  rw [names_data] at h4
  intro j hj
  have hlen : nameTab.length = 24 := rfl
  obtain ⟨s, e1, e2⟩ := strs_of_tab Tryz.underlying175 Tryz.underlying9 Tryz.cellsStr Tryz.cellsNames h4 j (nameTab.getD j ⟨#[]⟩).data.toList (by simp [List.getD, show j < nameTab.length by omega])
  have hs : s = nameTab.getD j ⟨#[]⟩ := by
    have : s.data = (nameTab.getD j ⟨#[]⟩).data := Array.toList_inj.1 e2
    cases s; cases hx : nameTab.getD j ⟨#[]⟩; rw [hx] at this; simp only at this; rw [this]
  rw [hs] at e1
  exact (World.var?_cell Tryz.gNames h3 j).trans (by simpa using e1)
def fiveE : List (String × DataW Unit) := [("math/bits.deBruijn32tab", Rows.laid_math_bits_deBruijn32tab), ("math/bits.deBruijn64tab", Rows.laid_math_bits_deBruijn64tab), ("internal/strconv.uint64pow10", Rows.laid_internal_strconv_uint64pow10), ("errors.errorType", Rows.laid_errors_errorType), ("teasel/event.names", Rows.laid_teasel_event_names)]
theorem met_of_laidE {W : World} (h : laidMetH Tryz.prog fiveE W) : ErrT W ∧ NamT W := by
  have h' : laidMet Tryz.prog [("math/bits.deBruijn32tab", Rows.laid_math_bits_deBruijn32tab), ("math/bits.deBruijn64tab", Rows.laid_math_bits_deBruijn64tab), ("internal/strconv.uint64pow10", Rows.laid_internal_strconv_uint64pow10), ("teasel/event.names", Rows.laid_teasel_event_names)] W ∧ handlesMet Tryz.prog [("errors.errorType", Rows.laid_errors_errorType)] W := h
  exact ⟨errT_of_laid h'.2 (List.mem_cons_self ..), nam_of_laid h'.1 (List.mem_cons_of_mem _ (List.mem_cons_of_mem _ (List.mem_cons_of_mem _ (List.mem_cons_self ..))))⟩
def listOfE : DataW Unit → List Value
  | .agg ds => ds.map fun d => match d with | .lit (.int k n) => .int k n | .lit (.string z) => .string ⟨z.toArray⟩ | _ => undef
  | _ => []
/-- A WORLD FOR THE WITNESS: the settled one, the five variables holding what they must. -/
noncomputable def laidWorldE (os : Os) : World :=
  let w0 := World.holding Tryz.prog os ⟨#[], #[], []⟩
  let put (d : DataW Unit) (o : Obj) : Obj := match o with | .cells _ t frozen => .cells (listOfE d).toArray t frozen | o => o
  { w0 with heap := ((((w0.heap.modify 1 (put Rows.laid_teasel_event_names)).modify 3 (put Rows.laid_internal_strconv_uint64pow10)).modify 4 (put Rows.laid_math_bits_deBruijn32tab)).modify 5 (put Rows.laid_math_bits_deBruijn64tab)).modify 0 fun
      | .cells _ t frozen => .cells #[.iface 217 (.agg #[.pointer (some ⟨6, 27, none⟩)])] t frozen
      | o => o }

/-! ### events -/
theorem Tryz.cellsEv : Tryz.prog.cellsOf 68 = 7 := by kernel_rfl
theorem Tryz.cellsI : Tryz.prog.cellsOf 3 = 1 := by kernel_rfl
theorem Tryz.cellsBs : Tryz.prog.cellsOf 23 = 1 := by kernel_rfl
theorem Tryz.bytesU8 : Tryz.prog.bytesOf 5 = 1 := by kernel_rfl
theorem Tryz.bytesEv : Tryz.prog.bytesOf 68 = 72 := by kernel_rfl
section
variable {H : Type} {enc : TypeId × Value → H} {P : Program} {w : World} {base : Nat} {spare : TypeId → Bool} {held : Bool}

theorem trod_struct7 {t : TypeId} {f0 f1 f2 f3 f4 f5 f6 : Field} {fuel : Nat} {cs : List Value} {x : DataW H × List MemPlace} (ht : P.underlying t = some (.struct #[f0, f1, f2, f3, f4, f5, f6])) (h : DataW.trod enc P w base spare held fuel t cs = some x) :
    ∃ y0 y1 y2 y3 y4 y5 y6 n, x.1 = .agg [y0.1, y1.1, y2.1, y3.1, y4.1, y5.1, y6.1] ∧ DataW.trod enc P w base spare held n f0.type ((cs.drop f0.offset).take (P.cellsOf f0.type)) = some y0 ∧
      DataW.trod enc P w base spare held n f1.type ((cs.drop f1.offset).take (P.cellsOf f1.type)) = some y1 ∧ DataW.trod enc P w base spare held n f2.type ((cs.drop f2.offset).take (P.cellsOf f2.type)) = some y2 ∧
      DataW.trod enc P w base spare held n f3.type ((cs.drop f3.offset).take (P.cellsOf f3.type)) = some y3 ∧ DataW.trod enc P w base spare held n f4.type ((cs.drop f4.offset).take (P.cellsOf f4.type)) = some y4 ∧
      DataW.trod enc P w base spare held n f5.type ((cs.drop f5.offset).take (P.cellsOf f5.type)) = some y5 ∧ DataW.trod enc P w base spare held n f6.type ((cs.drop f6.offset).take (P.cellsOf f6.type)) = some y6 := by
  obtain ⟨xs, n, _, rfl, hl, hlen, hf⟩ := DataW.trod_struct ht h
  match xs, hlen with
  | [y0, y1, y2, y3, y4, y5, y6], _ => exact ⟨y0, y1, y2, y3, y4, y5, y6, n, by simp, by simpa using hf 0 f0 rfl, by simpa using hf 1 f1 rfl, by simpa using hf 2 f2 rfl, by simpa using hf 3 f3 rfl, by simpa using hf 4 f4 rfl, by simpa using hf 5 f5 rfl, by simpa using hf 6 f6 rfl⟩
end

theorem weightsAll_mem {H : Type} {P : Program} {e : TypeId} {d : DataW H} : ∀ {l : List (DataW H)}, d ∈ l → ∀ z ∈ d.weights P e, z ∈ DataW.weightsAll P e l
  | [], h, _, _ => by cases h
  | x :: r, h, z, hz => by
    rw [DataW.weightsAll]
    rcases List.mem_cons.1 h with e | e
    · subst e; exact List.mem_append_left _ hz
    · exact List.mem_append_right _ (weightsAll_mem e z hz)
theorem bulk_pos {H : Type} (d : DataW H) : 1 ≤ Rows.uptoBulk d := by
  cases d with
  | lit l => cases l <;> simp [Rows.uptoBulk]
  | _ => simp [Rows.uptoBulk]
theorem bulk_len {H : Type} : ∀ l : List (DataW H), l.length ≤ Rows.uptoBulkAll l
  | [] => Nat.zero_le _
  | d :: r => by
    have h1 := bulk_pos d
    have h2 := bulk_len r
    simp only [Rows.uptoBulkAll, List.length_cons]
    omega
theorem bulk_append {H : Type} : ∀ l r : List (DataW H), Rows.uptoBulkAll (l ++ r) = Rows.uptoBulkAll l + Rows.uptoBulkAll r
  | [], r => by simp [Rows.uptoBulkAll]
  | d :: l, r => by simp only [List.cons_append, Rows.uptoBulkAll, bulk_append l r]; omega
/-- What a reading of bytes among cells tells. -/
theorem bytes_of_trod_b {H : Type} {enc : TypeId × Value → H} {W : World} {fuel : Nat} {cs : List Value} {x : DataW H × List MemPlace} (hf : DataW.trod enc Tryz.prog W 0 (fun _ => true) true fuel 23 cs = some x) :
    ∃ A n c xs, cs = [.slice A n c] ∧ Rd8 W A xs ∧ xs.length = n ∧ n ≤ c ∧ c ≤ maxLen ∧ (∀ ad, A = some ad → 0 < n → ad.block < W.heap.size) ∧ ((∀ z ∈ x.1.weights Tryz.prog 23, z ≤ reachBytes) → n ≤ reachBytes) ∧ n + 1 ≤ Rows.uptoBulk x.1 := by
  rcases open_ints Tryz.underlying23 Tryz.underlying5 Tryz.cellsU8 hf with ⟨hcs, hx⟩ | ⟨a, n, c, zs, hcs, _, hl, hm, hz, hx, hcell, hwz⟩
  · exact ⟨none, 0, 0, [], hcs, Rd8.nil _ _, rfl, Nat.le_refl _, Nat.zero_le _, fun ad e => (by cases e), fun _ => Nat.zero_le _, bulk_pos _⟩
  · simp only [if_true] at hz
    have hcl : ∀ j, j < n → (a.spot = none ∧ W.cell? ⟨a.block, a.off + j, none⟩ = some (.int .u8 (((zs.take n).map fun z => UInt8.ofNat z.toNat).getD j 0).toNat)) := by
      intro j hj
      have h0 := hcell j (by omega)
      have hsp := World.cell?_spot h0
      obtain ⟨b, o, sp⟩ := a
      have hsp0 : sp = none := by
        have := World.cell?_spot (hcell 0 (by omega))
        simpa [Addr.add] using this
      subst hsp0
      refine ⟨rfl, ?_⟩
      rw [add_at] at h0
      rw [h0]
      have hw := bounds_u8 (hwz (zs.getD j 0) (by simp [List.getD, show j < zs.length by omega]))
      have e : ((zs.take n).map fun z => UInt8.ofNat z.toNat).getD j 0 = UInt8.ofNat (zs.getD j 0).toNat := by
        simp [List.getD, show j < n from hj, show j < zs.length by omega]
      rw [e, UInt8.toNat_ofNat', Nat.mod_eq_of_lt (by omega)]
      congr 2
      omega
    refine ⟨some a, n, c, (zs.take n).map fun z => UInt8.ofNat z.toNat, hcs, fun h0 => ⟨a, rfl, ?_, fun j hj => ?_⟩, by simp; omega, hl, hm, fun ad e h0 => ?_, fun hw => ?_, ?_⟩
    · simp at h0; exact (hcl 0 (by omega)).1
    · simp at hj
      have := (hcl j (by omega)).2
      simpa [List.getD, show j < n by omega, show j < zs.length by omega] using this
    · injection e with e
      subst e
      have := World.block_lt_of_cell? W _ (hcl 0 h0).2
      exact this
    · subst hx
      have hw0 := hw ((lits (H := H) .u8 (zs.take n)).length + (lits (H := H) .u8 (zs.drop n)).length) (by simp [DataW.weights, Tryz.underlying23, Tryz.bytesU8])
      simp [lits] at hw0
      omega
    · subst hx
      have h9 := bulk_len (lits (H := H) .u8 (zs.take n))
      simp only [Rows.uptoBulk]
      simp [lits] at h9
      simp [lits] at *
      omega


/-- One event among cells. -/
theorem ev_trod {H : Type} {enc : TypeId × Value → H} {W : World} {fuel : Nat} {v0 v1 v2 v3 v4 v5 v6 : Value} {x : DataW H × List MemPlace} (hf : DataW.trod enc Tryz.prog W 0 (fun _ => true) true fuel 68 [v0, v1, v2, v3, v4, v5, v6] = some x)
    (hwt : ∀ z ∈ x.1.weights Tryz.prog 68, z ≤ reachBytes) : ∃ q : VL, [v0, v1, v2, v3, v4, v5, v6] = q.cells ∧ RdV W (fun k => k < W.heap.size) q := by
  obtain ⟨y0, y1, y2, y3, y4, y5, y6, j, hxy, u0, u1, u2, u3, u4, u5, u6⟩ := trod_struct7 Tryz.underlying68 hf
  simp only [Tryz.cellsI, Tryz.cellsBs, List.drop, List.take] at u0 u1 u2 u3 u4 u5 u6
  obtain ⟨z0, e0, _, w0⟩ := DataW.trod_int Tryz.underlying3 u0
  obtain ⟨z1, e1, _, w1⟩ := DataW.trod_int Tryz.underlying3 u1
  obtain ⟨z2, e2, _, w2⟩ := DataW.trod_int Tryz.underlying3 u2
  obtain ⟨z3, e3, _, w3⟩ := DataW.trod_int Tryz.underlying3 u3
  obtain ⟨z4, e4, _, w4⟩ := DataW.trod_int Tryz.underlying3 u4
  obtain ⟨z5, e5, _, w5⟩ := DataW.trod_int Tryz.underlying3 u5
  obtain ⟨A2, n2, c2, xs, e6, r1, r2, r3, r4, r5, r6, r8⟩ := bytes_of_trod_b u6
  simp only [List.cons.injEq, and_true] at e0 e1 e2 e3 e4 e5 e6
  subst e0; subst e1; subst e2; subst e3; subst e4; subst e5; subst e6
  have r7 := r6 (fun z hz => hwt z (by
    rw [hxy]
    simp only [DataW.weights, Tryz.underlying68, DataW.weightsEach]
    simp [DataW.weightsEach, hz]))
  subst r2
  unfold reachBytes at r7
  exact ⟨⟨⟨z0, z1, z2, z3, z4, z5, xs⟩, A2, c2⟩, rfl, r1, { k := bounds_i64 w0, a := bounds_i64 w1, r := bounds_i64 w2, i := bounds_i64 w3, l := bounds_i64 w4, n := bounds_i64 w5, d := by simp only; omega }, r5⟩

theorem list_seven {l : List Value} (h : l.length = 7) : ∃ a b c d e f g, l = [a, b, c, d, e, f, g] := by
  match l, h with
  | [a, b, c, d, e, f, g], _ => exact ⟨a, b, c, d, e, f, g, rfl⟩
set_option maxRecDepth 100000 in
theorem evs_trod {H : Type} {enc : TypeId × Value → H} {W : World} {fuel : Nat} {cs : List Value} {x : DataW H × List MemPlace} (hf : DataW.trod enc Tryz.prog W 0 (fun _ => true) true fuel 22 cs = some x)
    (hwt : ∀ z ∈ x.1.weights Tryz.prog 22, z ≤ reachBytes) :
    ∃ A n c ps, cs = [.slice A n c] ∧ Vs W A n ps (fun k => k < W.heap.size) ∧ n ≤ c ∧ c ≤ maxLen ∧ n ≤ 4398046511104 := by
  rcases open_slice Tryz.underlying22 hf with ⟨hcs, hx⟩ | ⟨a, n, cap, m, k, D, Pl, hcs, _, hl, hm, hmm, hx, hall⟩
  · exact ⟨none, 0, 0, [], hcs, Vs.nil _ _ _, Nat.le_refl _, Nat.zero_le _, by omega⟩
  · simp only [if_true] at hmm
    subst hmm
    subst hx
    have hn : n ≤ 4398046511104 := by
      have := hwt _ (by simp only [DataW.weights, Tryz.underlying22, Tryz.bytesEv]; exact List.mem_cons_self ..)
      unfold reachBytes at this
      simp at this
      omega
    have hwi : ∀ i, i < n → ∀ z ∈ (D i).weights Tryz.prog 68, z ≤ reachBytes := fun i hi z hz => hwt z (by
      simp only [DataW.weights, Tryz.underlying22]
      refine List.mem_cons_of_mem _ (List.mem_append_left _ (weightsAll_mem (List.mem_map.2 ⟨i, List.mem_range.2 hi, rfl⟩) z hz)))
    have hsp0 : 0 < n → a.spot = none := fun h0 => by
      obtain ⟨cs', h1, _⟩ := hall 0 (by omega)
      rw [Tryz.cellsEv] at h1
      obtain ⟨_, hlen, hcell⟩ := World.cells?_some h1
      have h7 := World.cell?_spot ((hcell 0 (by omega)).trans (List.getElem?_eq_getElem (by omega)))
      simpa [Addr.add] using h7
    have each : ∀ i, i < n → ∃ q : VL, (∀ j u, q.cells[j]? = some u → W.cell? ⟨a.block, a.off + (i * 7 + j), none⟩ = some u) ∧ RdV W (fun k => k < W.heap.size) q := by
      intro i hi
      obtain ⟨cs', h1, h2⟩ := hall i (by omega)
      rw [Tryz.cellsEv] at h1
      obtain ⟨_, hlen, hcell⟩ := World.cells?_some h1
      obtain ⟨v0, v1, v2, v3, v4, v5, v6, rfl⟩ := list_seven hlen
      obtain ⟨q, hq, hr⟩ := ev_trod h2 (hwi i hi)
      refine ⟨q, fun j u hu => ?_, hr⟩
      have hj : j < 7 := by
        have := (List.getElem?_eq_some_iff.1 hu).1
        rw [VL.cells_len] at this; exact this
      have c0 := hcell j hj
      rw [hq, hu] at c0
      have hsp : a.spot = none := hsp0 (by omega)
      obtain ⟨bl, o, sp⟩ := a
      cases hsp
      rw [add_add, add_at] at c0
      exact c0
    obtain ⟨q, hq⟩ := choose_lt each
    refine ⟨some a, n, m, (List.range n).map q, hcs, ⟨by simp, fun h0 => ?_, fun p hp => ?_⟩, hl, hm, hn⟩
    · have hsp := hsp0 h0
      have hc0 := (hq 0 h0).1 0 _ rfl
      obtain ⟨bl, o, sp⟩ := a
      cases hsp
      refine ⟨bl, o, rfl, World.block_lt_of_cell? W _ hc0, fun j u hu => ?_⟩
      have hj : j < n * 7 := by
        have := (List.getElem?_eq_some_iff.1 hu).1
        rw [vlc_len] at this
        simpa using this
      have e := vlc_at (ps := (List.range n).map q) (i := j / 7) (j := j % 7) (by simp; omega) (by omega)
      rw [show j / 7 * 7 + j % 7 = j by omega, hu] at e
      have e2 : ((List.range n).map q).getD (j / 7) default = q (j / 7) := by simp [List.getD, show j / 7 < n by omega]
      rw [e2] at e
      have := (hq (j / 7) (by omega)).1 (j % 7) u e.symm
      rw [show j / 7 * 7 + j % 7 = j by omega] at this
      exact this
    · obtain ⟨i, hi, rfl⟩ := List.mem_map.1 hp
      exact (hq i (List.mem_range.1 hi)).2
set_option maxRecDepth 100000 in
theorem open_evs {H : Type} {enc : TypeId × Value → H} {W : World} {base : Nat} {v : Value} {d : DataW H} {ps : List MemPlace} (hval : Value.okWide Tryz.prog W .any base 22 v) (h : DataW.Trod enc Tryz.prog W 0 (fun _ => true) true 22 v d ps)
    (hwt : ∀ z ∈ d.weights Tryz.prog 22, z ≤ reachBytes) :
    ∃ A n c ps, v = .slice A n c ∧ Vs W A n ps (fun k => k < W.heap.size) ∧ n ≤ c ∧ c ≤ maxLen ∧ n ≤ 4398046511104 := by
  obtain ⟨A, n, c, rfl⟩ := okWide_slice Tryz.underlying22 hval
  obtain ⟨fuel, hf⟩ := h
  obtain ⟨A', n', c', ps', e, h1⟩ := evs_trod hf hwt
  simp [Value.cells] at e
  obtain ⟨rfl, rfl, rfl⟩ := e
  exact ⟨A, n, c, ps', rfl, h1⟩
set_option maxRecDepth 100000 in
theorem open_ev {H : Type} {enc : TypeId × Value → H} {W : World} {base : Nat} {v : Value} {d : DataW H} {ps : List MemPlace} (hval : Value.okWide Tryz.prog W .any base 68 v) (h : DataW.Trod enc Tryz.prog W 0 (fun _ => true) true 68 v d ps)
    (hwt : ∀ z ∈ d.weights Tryz.prog 68, z ≤ reachBytes) : ∃ q : VL, v = q.val ∧ RdV W (fun k => k < W.heap.size) q := by
  obtain ⟨cs, rfl, hsz⟩ := okWide_struct Tryz.underlying68 hval
  obtain ⟨fuel, hf⟩ := h
  rw [Tryz.cellsEv] at hsz
  obtain ⟨cs⟩ := cs
  simp only [Value.cells, List.size_toArray] at hf hsz
  obtain ⟨v0, v1, v2, v3, v4, v5, v6, rfl⟩ := list_seven hsz
  obtain ⟨q, hq, hr⟩ := ev_trod hf hwt
  exact ⟨q, by unfold VL.val; rw [← hq], hr⟩
end Go.Proofs.YtieoeoonopcjbaaGreatDoor

/- The listed variables of EventBytes: the powers of ten, too. -/
namespace Go.Proofs.YtieoeoonopcjbaaGreatDoor
open Go.ChangeShapes Go.WideShapes Go.ChangeAt Go.RowKit

theorem Tryz.gPowType : (Tryz.prog.globals[3]?).map (·.type) = some 265 := by kernel_rfl
theorem Tryz.cellsPow : Tryz.prog.cellsOf 265 = 20 := by kernel_rfl
theorem Tryz.cellsU64 : Tryz.prog.cellsOf 184 = 1 := by kernel_rfl
theorem pow_data : (Rows.laid_internal_strconv_uint64pow10 : DataW Unit) = Lib.tabData .u64 Lib.pow10Tab := by kernel_rfl
theorem pow_of_laid {W : World} {l : List (String × DataW Unit)} (h : laidMet Tryz.prog l W) (hm : ("internal/strconv.uint64pow10", (Rows.laid_internal_strconv_uint64pow10 : DataW Unit)) ∈ l) : PowT W := by
  obtain ⟨ps, hl, _, _⟩ := h
  obtain ⟨g, t, cs, fuel, p, h1, h2, h3, h4⟩ := laid_mem hl hm
  obtain rfl := Option.some.inj (Tryz.gPow.symm.trans h1)
  obtain rfl := Option.some.inj (Tryz.gPowType.symm.trans h2)
  rw [pow_data] at h4
  unfold PowT Lib.TabIs
  rw [h3, ← Lib.cells_of_tab Tryz.underlying265 Tryz.underlying184 Tryz.cellsU64 Tryz.cellsPow h4]
theorem met_of_laidX {W : World} (h : laidMetH Tryz.prog fiveE W) : ErrT W ∧ NamT W ∧ PowT W := by
  have h' : laidMet Tryz.prog [("math/bits.deBruijn32tab", Rows.laid_math_bits_deBruijn32tab), ("math/bits.deBruijn64tab", Rows.laid_math_bits_deBruijn64tab), ("internal/strconv.uint64pow10", Rows.laid_internal_strconv_uint64pow10), ("teasel/event.names", Rows.laid_teasel_event_names)] W ∧ handlesMet Tryz.prog [("errors.errorType", Rows.laid_errors_errorType)] W := h
  exact ⟨(met_of_laidE h).1, (met_of_laidE h).2, pow_of_laid h'.1 (List.mem_cons_of_mem _ (List.mem_cons_of_mem _ (List.mem_cons_self ..)))⟩
end Go.Proofs.YtieoeoonopcjbaaGreatDoor

/- Whatever events and bytes it is handed, the law EventBytes returns true, and its arguments read as they did. No condition. -/
namespace Go.Proofs.YtieoeoonopcjbaaGreatDoor.bytes
open Go.ChangeShapes Go.WideShapes Go.ChangeAt Go.RowKit

theorem met {W : World} (h : laidMetH Tryz.prog Rows.eventBytesRow.laid W) : ErrT W ∧ NamT W ∧ PowT W := met_of_laidX h

set_option maxRecDepth 100000 in
theorem contract (H : Type) (enc : TypeId × Value → H) (W : World) (base : Nat) (args : Array Value) (ds gs : List (DataW H)) (before : List MemPlace)
    (hval : ∀ (j : Nat) t v, Tryz.f3.params[j]? = some t → args[j]? = some v → Value.okWide Tryz.prog W .any base t v)
    (hW : DataW.Whole enc Tryz.prog Tryz.f3.params.toList Rows.eventBytesSpec.vars false W args.toList ds gs before) (hwt : (DataW.weightsEach Tryz.prog (Tryz.f3.params.toList ++ (OpenSpec.ofChange Rows.eventBytesSpec).bare.plain.varTypes Tryz.prog) (ds ++ gs)).all (· ≤ reachBytes) = true) (hL : laidMetH Tryz.prog Rows.eventBytesRow.laid W) :
    Calls Tryz.prog 3 args W fun e W' => ∃ v, e = .returned v ∧ Rows.eventBytesSpec.post enc Tryz.prog Tryz.f3 false true false false W args v W' := by
  obtain ⟨hE, hT, hP⟩ := met hL
  have hW' := hW
  obtain ⟨p, q, hA0, hV, hpq, hfz, hnd⟩ := hW
  have hA : DataW.TrodAll enc Tryz.prog W 0 (fun _ => true) true Tryz.f3.params.toList args.toList ds p := hA0
  rw [Tryz.params3] at hA hval
  obtain ⟨v0, vs0, d0, ds0, p0, q0, hargs, rfl, _, h0, r0⟩ := trodAll_cons hA
  obtain ⟨v1, vs1, d1, ds1, p1, q1, rfl, rfl, _, h1, r1⟩ := trodAll_cons r0
  obtain ⟨v2, vs2, d2, ds2, p2, q2, rfl, rfl, _, h2, r2⟩ := trodAll_cons r1
  obtain ⟨rfl, rfl, _⟩ := trodAll_nil r2
  obtain rfl : args = #[v0, v1, v2] := by cases args; simp_all
  obtain ⟨rfl, _⟩ := trodVars_none hV
  have hw : ∀ z ∈ DataW.weightsEach Tryz.prog [22, 23, 22] [d0, d1, d2], z ≤ reachBytes := fun z hz => by
    have := List.all_eq_true.1 hwt z (by rw [Tryz.params3]; exact hz)
    simpa using this
  obtain ⟨A0, n0, c0, l0, rfl, hl0, hnc0, hc0, hn0⟩ := open_evs (hval 0 22 v0 rfl rfl) h0 (fun z hz => hw z (by simp [DataW.weightsEach, hz]))
  obtain ⟨A1, n1, c1, x1, rfl, hx1, hy1, hz1, hc1⟩ := open_bytes (hval 1 23 v1 rfl rfl) h1
  obtain ⟨A2, n2, c2, l2, rfl, hl2, hnc2, hc2, hn2⟩ := open_evs (hval 2 22 v2 rfl rfl) h2 (fun z hz => hw z (by simp [DataW.weightsEach, hz]))
  refine (bytesE_any A0 n0 c0 l0 A1 n1 c1 x1 A2 n2 c2 l2 W hE hT hP hl0 hnc0 hc0 hn0 hx1 hy1 hz1 hl2 hnc2 hc2 hn2).mono fun e W' ⟨he, hf⟩ => ?_
  subst he
  exact ⟨_, rfl, post_true true false hW' rfl rfl rfl (by kernel_rfl) hf⟩

def wargs : Array Value := #[.slice none 0 0, .slice none 0 0, .slice none 0 0]
theorem laid_met (os : Os) : laidMetH Tryz.prog Rows.eventBytesRow.laid ((laidWorldE os).forCall (fun _ _ => 0) ⟨#[], wargs, []⟩).memory :=
  laidMetH_of_parts (laidMet_of_run' 8 (by kernel_rfl) (by kernel_rfl)) (by kernel_rfl)
theorem reads (os : Os) {H : Type} (enc : TypeId × Value → H) : ∃ places, DataW.whole enc Tryz.prog ((laidWorldE os).forCall (fun _ _ => 0) ⟨#[], wargs, []⟩).memory Tryz.f3.params.toList Rows.eventBytesSpec.vars false wargs.toList 8 = some ([.nil, .nil, .nil], [], places) :=
  ⟨[], by kernel_rfl⟩

set_option maxRecDepth 100000 in
theorem lifted (os : Os) (started : os.Started) (H : Type) (enc : TypeId × Value → H) (F : Stop.Interp) :
    ReturnsInHanded {} Tryz.checked os 3 .any ((OpenSpec.ofChange Rows.eventBytesSpec).preRow enc Tryz.prog Tryz.f3 Rows.eventBytesRow.domain false Rows.eventBytesRow.laid) (((OpenSpec.ofChange Rows.eventBytesSpec).at F).post enc Tryz.prog Tryz.f3 false true false false) := by
  obtain ⟨places, hx⟩ := reads os enc
  refine returnsInHanded_of_row (C := Tryz.checked) (s := OpenSpec.ofChange Rows.eventBytesSpec) Tryz.own started (by kernel_rfl) Tryz.func3
    (witness_row_at (enc := enc) (C := Tryz.checked) false (laidWorldE os) wargs rfl (by kernel_rfl) (by kernel_rfl) (by kernel_rfl)
      (OpenSpec.preRow_of_cond 8 hx (by kernel_rfl) (fun k hk => by cases hk) (by kernel_rfl) (laid_met os))) ?_
  intro W base args ds gs before hval hW _ _ hwt hL _ _
  exact contract H enc W base args ds gs before hval hW hwt hL

theorem said : Rows.EventBytesSaid :=
  OpenClaim.holds_of_cond 3 Tryz.f3 rfl rfl rfl rfl rfl rfl rfl ⟨rfl, rfl, rfl, rfl, rfl⟩ rfl rfl rfl rfl rfl (by kernel_rfl) Tryz.func3 (by kernel_rfl)
    (of_decide_eq_true (by kernel_rfl)) (by unfold Func.isWrapper; first | (rw [if_pos (by decide +kernel)]; kernel_rfl) | (rw [if_neg (by decide +kernel)]; exact ⟨rfl, rfl⟩))
    (fun os started H enc _ F => by rw [OpenClaim.pre_eq_preRow]; exact lifted os started H enc F)

theorem plain (f : FuncId) (fn : Func) (hf : Tryz.pinned.checked.prog.funcNamed "teasel/teasellaw12.EventBytes" = some f) (hfn : Tryz.pinned.checked.prog.funcs[f]? = some fn) :
    true = Tryz.pinned.checked.prog.looks [] ∧ ∀ (j : Nat) t, fn.params[j]? = some t → Tryz.pinned.checked.prog.wantsStandIn t = false := by
  obtain rfl : f = 3 := Option.some.inj ((show Tryz.prog.funcNamed "teasel/teasellaw12.EventBytes" = some 3 by kernel_rfl).symm.trans hf) |>.symm
  obtain rfl : fn = Tryz.f3 := (Option.some.inj (Tryz.func3.symm.trans hfn)).symm
  refine ⟨by kernel_rfl, fun j t ht => ?_⟩
  have hall : (Tryz.f3.params.toList.all fun t => !(Tryz.prog.wantsStandIn t)) = true := by kernel_rfl
  have h1 := List.all_eq_true.1 hall t (by have := Array.mem_of_getElem? ht; simpa using this)
  exact (show Tryz.prog.wantsStandIn t = false by simpa using h1)

theorem card : Rows.EventBytesCardSaid :=
  Claim7.holds_tied_plain_at .later [] _ _ _ _ said (fun _ h => by cases h) (by kernel_rfl) (fun _ h => by cases h) eventBytes_row_tie rfl ⟨rfl, rfl⟩ (by kernel_rfl) rfl plain (by kernel_rfl)
#print axioms card
end Go.Proofs.YtieoeoonopcjbaaGreatDoor.bytes
