/- MatchKeeps: the walk. -/
import Derived.Test.YtkinbcmnfpkncaaRp
import Derived.Test.YtkinbcmnfpkncaaRq
import Derived.Test.YtkinbcmnfpkncaaRg
namespace Go.Proofs.Ytkinbcmnfpkncaa
open Go.RowKit Go.Maps

theorem KI.keep {w0 w : World} {g : Nat} {t : MT Int} (h : KI w0 w g t) (ok : t.ok) (hp : t.pushed ≤ 1000000) {c : Int} (hc : I64 c) {ff : FuncId} {lb : Array Value} (p : Int → Bool) (hcf : ∀ args W, (callFunc ff args).run Try.prog W = .ok (.enter ff args) W)
    (hf : ∀ w', Fr (fun _ => False) w w' → ∀ x ∈ t.row c, Calls Try.prog ff (#[.int .i64 x.2] ++ lb) w' fun e w'' => e = .returned (.bool (p x.2)) ∧ w'' = w') :
    Calls Try.prog 13 #[.pointer (some ⟨g, 0, none⟩), .int .i64 c, .func (.func ff) #[] lb] w fun e w' => e = .returned (.int .i64 ((t.row c).length - ((t.row c).filter fun x => p x.2).length : Nat)) ∧ KI w0 w' g (t.drop c ((t.row c).filter fun x => p x.2)) := by
  obtain ⟨F, ⟨br, D, h1⟩, h2, h3⟩ := h
  refine (keep_I h1 ok hp hc p hcf hf).mono ?_
  rintro e w' ⟨rfl, F', k1, k2, k3⟩
  refine ⟨rfl, F', k1, fun y hy => ?_, h3.trans k2 (fun y hy e => by have := h2 y e; omega)⟩
  rcases k3 y hy with e | e
  · exact h2 y e
  · have := h3.size; omega
/-- Lists of a law's own, and a row of names beside them. -/
def KN (w0 w : World) (g : Nat) (t : MT Int) (v : Value) (ns : List Int) : Prop := ∃ F, Mt 55 tP IV w g F t ∧ (∀ k, F k → w0.heap.size ≤ k) ∧ Fr (fun _ => False) w0 w ∧ RI w v ns ∧ ∀ k, v.ownBlock = some k → ¬ F k
theorem KN.ki {w0 w : World} {g : Nat} {t : MT Int} {v : Value} {ns : List Int} (h : KN w0 w g t v ns) : KI w0 w g t := by
  obtain ⟨F, h1, h2, h3, _⟩ := h
  exact ⟨F, h1, h2, h3⟩
theorem KN.fr {w0 w w' : World} {g : Nat} {t : MT Int} {v : Value} {ns : List Int} (h : KN w0 w g t v ns) (hf : Fr (fun _ => False) w w') : KN w0 w' g t v ns := by
  obtain ⟨F, h1, h2, h3, h4, h5⟩ := h
  exact ⟨F, h1.fr0 hf, h2, h3.trans hf (fun _ _ h => h), Row.fr0 h4 hf, h5⟩
theorem KI.names {w0 w : World} {g : Nat} {t : MT Int} (h : KI w0 w g t) (hp : t.pushed ≤ 1000000) :
    Calls Try.prog 21 #[.pointer (some ⟨g, 0, none⟩)] w fun e w' => ∃ v ns, e = .returned v ∧ KN w0 w' g t v ns ∧ NamesOf t ns := by
  obtain ⟨F, ⟨br, D, h1⟩, h2, h3⟩ := h
  refine (names_I h1 hp).mono ?_
  rintro e w' ⟨v, ns, rfl, k1, k2, k3, k4⟩
  exact ⟨v, ns, rfl, ⟨F, ⟨br, D, h1.fr k3 (fun _ _ h => h)⟩, h2, h3.trans k3 (fun _ _ h => h), k1, fun k hk e => by have := k2 k hk; have := h1.flt k e; omega⟩, k4⟩
theorem KN.pop {w0 w : World} {g : Nat} {t : MT Int} {v : Value} {ns : List Int} (h : KN w0 w g t v ns) (hp : t.pushed ≤ 1000000) {c : Int} (hc : I64 c) {x b : Value} (hv : hd_I (t.row c) = #[x, b]) :
    Calls Try.prog 11 #[.pointer (some ⟨g, 0, none⟩), .int .i64 c] w fun e w' => e = .returned (.tuple #[x, b]) ∧ KN w0 w' g (t.pop c) v ns := by
  obtain ⟨F, h1, h2, h3, h4, h5⟩ := h
  refine (pop_I h1 hp hc).mono ?_
  rintro e w' ⟨rfl, F', k1, k2, k3⟩
  refine ⟨by rw [← hv], F', k1, fun y hy => ?_, h3.trans k2 (fun y hy e => by have := h2 y e; omega), Row.fr h4 k2 h5, fun k hk e => ?_⟩
  · rcases k3 y hy with e | e
    · exact h2 y e
    · have := h3.size; omega
  · rcases k3 k e with e | e
    · exact h5 k hk e
    · have := Row.lt h4 hk; omega
/-- One of the names. -/
theorem KN.at_ {w0 w : World} {g : Nat} {t : MT Int} {A : Option Addr} {m c : Nat} {ns : List Int} (h : KN w0 w g t (.slice A m c) ns) {i : Nat} (hi : i < ns.length) {x : Int} (hx : ns[i]'hi = x) : ∃ b off, A = some ⟨b, off, none⟩ ∧ ∀ w', Fr (fun _ => False) w w' → w'.cell? ⟨b, off + i, none⟩ = some (.int .i64 x) := by
  obtain ⟨F, h1, h2, h3, h4, h5⟩ := h
  obtain ⟨A', c', e, _, _, hA⟩ := Row.form h4
  injection e with e1 e2 e3
  subst e1
  obtain ⟨b, off, rfl⟩ := hA (by omega)
  refine ⟨b, off, rfl, fun w' hf => ?_⟩
  have := Row.cell (Row.fr0 h4 hf) (j := i) (u := .int .i64 x) (by rw [List.getElem?_map, List.getElem?_eq_getElem hi, hx]; rfl)
  exact this

set_option maxRecDepth 100000 in
set_option maxHeartbeats 1000000 in
theorem keepsF {w : World} {kb : Nat} {b : Int} (hb : w.cell? ⟨kb, 0, none⟩ = some (.int .i64 b)) (h0 : ¬ b = 0) (x : Int) :
    Calls Try.prog 20 #[.int .i64 x, .pointer (some ⟨kb, 0, none⟩)] w fun e w' => e = .returned (.bool (kp b x)) ∧ w' = w := by
  unfold kp
  obtain ⟨y, hy⟩ : ∃ y, x.tmod b = y := ⟨_, rfl⟩
  rw [hy]
  go_enter Try.func20, Try.ntmps20
  go_wp2
  go_ret
  exact ⟨rfl, rfl⟩

/-- The list that the i-th number goes to. -/
def kF (q : Int) (i : Nat) : Int := (i : Int).tmod q
theorem kF_in {q : Int} (hq : 1 ≤ q) (i : Nat) : 0 ≤ kF q i ∧ kF q i < q := by
  unfold kF
  have h := (tmod_in (i : Int) q hq).2
  have := Int.tmod_nonneg q (show (0 : Int) ≤ (i : Int) by omega)
  exact ⟨this, h⟩

set_option maxRecDepth 100000 in
set_option maxHeartbeats 8000000 in
theorem keeps_any (A : Option Addr) (n c : Nat) (xs : List Int) (q b : Int) (w : World) (hq : I64 q) (hb : I64 b) :
    Calls Try.prog 5 #[.slice A n c, .int .i64 q, .int .i64 b] w fun e w' => e = .returned (.bool true) ∧ Fr (fun _ => False) w w' := by
  clear hq hb xs
  obtain ⟨W0, hW0⟩ : ∃ W0, w.alloc (.cells #[.int .i64 b] 3) = W0 := ⟨_, rfl⟩
  obtain ⟨kb, hkb⟩ : ∃ kb, w.heap.size = kb := ⟨_, rfl⟩
  have HB0 : Hid (Bk W0 kb 3 #[.int .i64 b]) := Lib.hid (by rw [← hW0, ← hkb]; exact Bk.new _ _ _)
  have HF0 : Hid (Fr (fun _ => False) w W0) := Lib.hid (by rw [← hW0]; exact (Fr.refl _ _).alloc _)
  have CK := Lib.hid (known_any W0)
  have HBX : Hid (∀ w', Fr (fun _ => False) W0 w' → w'.cell? ⟨kb, 0, none⟩ = some (.int .i64 b)) := Lib.hid (fun w' hf => (HB0.out.fr hf (fun h => h)).cell 0)
  go_enter Try.func5, Try.ntmps5
  go_wp2_with fail
  clear hW0 hkb
  refine CK.out.mono ?_; rintro e w1 ⟨rfl, hf1⟩
  have HF1 := Lib.hid hf1
  have c5 := HBX.out w1 hf1
  clear hf1 CK
  by_cases h0 : (300 : Int) < (n : Int)
  · have d0 : decide ((300 : Int) < (n : Int)) = true := decide_eq_true h0
    have d0' : decide (300 < n) = true := decide_eq_true (by omega)
    clear h0
    go_wp2
    go_ret
    exact ⟨rfl, HF0.out.trans HF1.out (fun _ _ h => h)⟩
  have d0 : decide ((300 : Int) < (n : Int)) = false := decide_eq_false h0
  have d0' : decide (300 < n) = false := decide_eq_false (by omega)
  by_cases h1 : q < 1
  · have d1 : decide (q < 1) = true := decide_eq_true h1
    clear h0 h1
    go_wp2
    go_ret
    exact ⟨rfl, HF0.out.trans HF1.out (fun _ _ h => h)⟩
  have d1 : decide (q < 1) = false := decide_eq_false h1
  by_cases h2 : (10 : Int) < q
  · have d2 : decide ((10 : Int) < q) = true := decide_eq_true h2
    clear h0 h1 h2
    go_wp2
    go_ret
    exact ⟨rfl, HF0.out.trans HF1.out (fun _ _ h => h)⟩
  have d2 : decide ((10 : Int) < q) = false := decide_eq_false h2
  by_cases h3 : b < 1
  · have d3 : decide (b < 1) = true := decide_eq_true h3
    clear h0 h1 h2 h3
    go_wp2
    go_ret
    exact ⟨rfl, HF0.out.trans HF1.out (fun _ _ h => h)⟩
  have d3 : decide (b < 1) = false := decide_eq_false h3
  by_cases h4 : (10 : Int) < b
  · have d4 : decide ((10 : Int) < b) = true := decide_eq_true h4
    clear h0 h1 h2 h3 h4
    go_wp2
    go_ret
    exact ⟨rfl, HF0.out.trans HF1.out (fun _ _ h => h)⟩
  have d4 : decide ((10 : Int) < b) = false := decide_eq_false h4
  have HN : Hid (n ≤ 300) := Lib.hid (by omega)
  have HQ : Hid (1 ≤ q ∧ q ≤ 10) := Lib.hid (by omega)
  have HB : Hid (1 ≤ b ∧ b ≤ 10) := Lib.hid (by omega)
  clear h0 h1 h2 h3 h4
  go_wp2_with fail
  clear d0 d0' d1 d2 d3 d4 c5
  refine (KI.made HF1.out (most := 300) (by omega) (by omega)).mono ?_; rintro e w2 ⟨g, rfl, hk, -⟩
  have HK2 : Hid (KI W0 w2 g (ordT (kF q) 0)) := Lib.hid hk
  have HF : Hid (∀ i, I64 (kF q i)) := Lib.hid (fun i => by
    have h1 := kF_in HQ.out.1 i
    have h2 := HQ.out
    constructor <;> omega)
  clear hk HF1
  go_wp2_with fail
  go_loopw [9] (fun v wr => ∃ i : Nat, v = .int .i64 (i : Int) ∧ i ≤ n ∧ Hid (KI W0 wr g (ordT (kF q) i))) (fun v _ => n - (intOf v).toNat)
  case atStart => exact ⟨0, rfl, Nat.zero_le _, HK2⟩
  case round =>
    clear HK2
    obtain ⟨i, rfl, hin, HK⟩ := hrel
    by_cases hi : i < n
    · have di : decide ((i : Int) < (n : Int)) = true := decide_eq_true (by omega)
      have di' : decide (i < n) = true := decide_eq_true hi
      have HIN := Lib.hid hi
      have hq0 : ¬ q = 0 := by have := HQ.out; omega
      obtain ⟨z, hz⟩ : ∃ z, kF q i = z := ⟨_, rfl⟩
      have hwr : (i : Int).tmod q = z := by rw [← hz]; rfl
      have CP := Lib.hid (HK.out.push (ordT_ok (by have := HN.out; omega)) (by have := HN.out; show i ≤ 1000000; omega) (HF.out i) (i : Int) (ordT_full (by have := HN.out; omega) _))
      rw [ordT_push, hz] at CP
      have hwi := wrap_succ (k := i) (by have := HN.out; omega)
      have hmd : (i : Int) % q = z := by rw [← hwr, Int.tmod_eq_emod_of_nonneg (by omega)]
      clear hi hin hz
      go_wp2_with fail
      refine CP.out.mono ?_; rintro e w3 ⟨rfl, hk⟩
      have HK3 := Lib.hid hk
      clear hk CP HK di di'
      go_wp2
      go_roundw
      case rel => exact ⟨i + 1, by first | rfl | (push_cast; rfl) | (go_num; done), HIN.out, HK3⟩
      case measure =>
        show n - ((i : Int) + 1).toNat < n - ((i : Int)).toNat
        exact meas_up HIN.out
    · have di : decide ((i : Int) < (n : Int)) = false := decide_eq_false (by omega)
      have di' : decide (i < n) = false := decide_eq_false hi
      obtain rfl : i = n := by omega
      have HP0 : Hid (∃ s, Kpt (kF q) i b 0 s ∧ KI W0 wr g s) := Lib.hid ⟨_, Kpt.start HN.out b (fun j => (kF_in HQ.out.1 j).1), HK.out⟩
      clear hi hin HK
      go_wp2_with fail
      go_loopw [10, 11] (fun u v wr => ∃ (k m : Nat), u = .int .i64 (m : Int) ∧ v = .int .i64 (k : Int) ∧ Hid ((k : Int) ≤ q ∧ m = cntP (goneP (kF q) b k) i) ∧ Hid (∃ s, Kpt (kF q) i b k s ∧ KI W0 wr g s)) (fun _ v _ => q.toNat - (intOf v).toNat)
      case atStart => exact ⟨0, 0, rfl, rfl, Lib.hid ⟨by have := HQ.out; show (0 : Int) ≤ q; omega, by
        rw [cntP_none]
        intro j _
        have := (kF_in HQ.out.1 j).1
        unfold goneP
        simp; omega⟩, HP0⟩
      case round =>
        clear HP0
        obtain ⟨k, m, rfl, rfl, HKM, HS⟩ := hrel
        by_cases hkq : (k : Int) < q
        · have dk : decide ((k : Int) < q) = true := decide_eq_true hkq
          have HKQ := Lib.hid hkq
          have hIk : I64 (k : Int) := by have := HKM.out; have := HQ.out; exact ⟨by omega, by omega⟩
          obtain ⟨s, hs, hk⟩ := HS.out
          have hbz : ¬ b = 0 := by have := HB.out; omega
          have CP := Lib.hid (hk.keep (ff := 20) (lb := #[.pointer (some ⟨kb, 0, none⟩)]) hs.ok (by rw [hs.ps]; have := HN.out; omega) hIk (kp b) (fun _ _ => by kernel_rfl) (fun w' hf x _ => keepsF (HBX.out w' (hk.old.trans hf (fun _ _ h => h))) hbz x.2))
          have hrow := hs.hi (k : Int) (Int.le_refl _)
          have hcount : ((s.row k).length - ((s.row k).filter fun x => kp b x.2).length : Nat) = (ordR (kF q) i k).length - (keepR (kF q) i b k).length := by rw [hrow]; rfl
          rw [hcount] at CP
          have HNX : Hid (Kpt (kF q) i b ((k : Int) + 1) (s.drop k ((s.row k).filter fun x => kp b x.2))) := Lib.hid hs.next
          have HG : Hid (m + ((ordR (kF q) i k).length - (keepR (kF q) i b k).length) = cntP (goneP (kF q) b ((k : Int) + 1)) i) := Lib.hid (by rw [gone_next, HKM.out.2])
          generalize (ordR (kF q) i k).length - (keepR (kF q) i b k).length = dd at *
          have hwg : IntKind.wrap .i64 ((m : Int) + (dd : Int)) = (m : Int) + (dd : Int) := by have h1 := HG.out; have h2 := cntP_le (goneP (kF q) b ((k : Int) + 1)) i; have := HN.out; simp only [IntKind.wrap_i64]; omega
          have hwk := wrap_succ (k := k) (by have := HKM.out; have := HQ.out; omega)
          clear hs hk hkq hIk HS hrow hcount
          go_wp2_with fail
          refine CP.out.mono ?_; rintro e w3 ⟨rfl, hk3⟩
          have HK3 := Lib.hid hk3
          clear CP hk3
          go_wp2
          go_roundw
          case rel => exact ⟨k + 1, m + dd, by first | rfl | (push_cast; rfl) | (go_num; done), by first | rfl | (push_cast; rfl) | (go_num; done), Lib.hid ⟨by have := HKQ.out; push_cast; omega, by rw [HG.out]; push_cast; rfl⟩, Lib.hid ⟨_, by push_cast; exact HNX.out, HK3.out⟩⟩
          case measure =>
            show q.toNat - ((k : Int) + 1).toNat < q.toNat - ((k : Int)).toNat
            exact meas_up (by have := HKQ.out; omega)
        · have dk : decide ((k : Int) < q) = false := decide_eq_false hkq
          have hkq' : (k : Int) = q := by have := HKM.out; omega
          obtain ⟨s, hs, hk⟩ := HS.out
          rw [hkq'] at hs
          have hall := hs.all (fun j => (kF_in HQ.out.1 j).2)
          have CN := Lib.hid (hk.names (by rw [hs.ps]; have := HN.out; omega))
          have HKQ : Hid (m = cntP (goneP (kF q) b q) i) := Lib.hid (by have h9 := HKM.out.2; rw [hkq'] at h9; exact h9)
          have HALL := Lib.hid hall
          have HOK := Lib.hid hs.ok
          have HPS := Lib.hid hs.ps
          clear hs hk hkq hkq' hall HS HKM
          go_wp2_with fail
          refine CN.out.mono ?_; rintro e w3 ⟨v3, ns, rfl, hkn, hno⟩
          have HKN := Lib.hid hkn
          have HRI : Hid (Rise ns) := Lib.hid hno.1
          have HNS : Hid (∀ x, x ∈ ns → I64 x ∧ keepR (kF q) i b x ≠ []) := Lib.hid (fun x hx => by have := (hno.2.1 x).1 hx; rw [HALL.out] at this; exact this)
          have HMM : Hid (∀ j, j < i → keepR (kF q) i b (kF q j) ≠ [] → kF q j ∈ ns) := Lib.hid (fun j hj hne => (hno.2.1 _).2 ⟨HF.out j, by rw [HALL.out]; exact hne⟩)
          have HLN : Hid (ns.length ≤ 300) := Lib.hid (by have h1 := hno.2.2; rw [HPS.out] at h1; have := HN.out; omega)
          have HNN : Hid (∀ x, x ∉ ns → keepR (kF q) i b x = []) := Lib.hid (fun x hx => by
            by_cases h : keepR (kF q) i b x = []
            · exact h
            · refine absurd ((hno.2.1 x).2 ⟨?_, by rw [HALL.out]; exact h⟩) hx
              obtain ⟨y, hy⟩ := List.exists_mem_of_ne_nil _ h
              obtain ⟨j, _, hj, _⟩ := keepR_mem.1 hy
              rw [← hj]; exact HF.out j)
          have HP0 : Hid (Pp (keepR (kF q) i b) i ns 0 0 s) := Lib.hid (Pp.start HOK.out HPS.out HALL.out HNN.out)
          have HSUM := Lib.hid (keeps_all (f := kF q) (n := i) (b := b) (k := q) HRI.out HMM.out (fun j => (kF_in HQ.out.1 j).2))
          rw [← HKQ.out] at HSUM
          obtain ⟨A3, c3, hv3⟩ : ∃ A3 c3, v3 = .slice A3 ns.length c3 := by
            obtain ⟨F, _, _, _, h4, _⟩ := hkn
            obtain ⟨A', c', e, _⟩ := Row.form h4
            exact ⟨A', c', e⟩
          subst hv3
          obtain ⟨nl, hnl⟩ : ∃ nl, ns.length = nl := ⟨_, rfl⟩
          rw [hnl] at HKN HLN
          have HNL := Lib.hid hnl
          rw [hnl]
          clear CN hkn hno HALL HOK HPS HNN HMM hnl dk
          generalize hR : keepR (kF q) i b = R at *
          go_wp2_with fail
          go_loopw [13, 14] (fun u v wr => ∃ (j L : Nat), u = .int .i64 (L : Int) ∧ v = .int .i64 (j : Int) ∧ j ≤ nl ∧ Hid (L = sumL R (ns.take j)) ∧ Hid (∃ s, Pp R i ns j 0 s ∧ KN W0 wr g s (.slice A3 nl c3) ns)) (fun _ v _ => nl - (intOf v).toNat)
          case atStart => exact ⟨0, 0, rfl, rfl, Nat.zero_le _, Lib.hid (by rw [List.take_zero]; rfl), Lib.hid ⟨s, HP0.out, HKN.out⟩⟩
          case round =>
            clear HP0 HKN
            obtain ⟨j, L, rfl, rfl, hjn, HL, HS⟩ := hrel
            obtain ⟨s, hpp, hkn⟩ := HS.out
            have HPP := Lib.hid hpp
            have HKN := Lib.hid hkn
            clear hpp hkn HS
            by_cases hlt : j < nl
            · have dj : decide ((j : Int) < (nl : Int)) = true := decide_eq_true (by omega)
              have dj' : decide (j < nl) = true := decide_eq_true hlt
              have j0 : (0 : Int) ≤ (j : Int) := by omega
              have j1 : (j : Int) < (nl : Int) := by omega
              have HJ := Lib.hid hlt
              have hjl : j < ns.length := by rw [HNL.out]; exact hlt
              obtain ⟨x, hx⟩ : ∃ x, ns[j] = x := ⟨_, rfl⟩
              have HX : Hid (∃ h : j < ns.length, ns[j]'h = x) := Lib.hid ⟨hjl, hx⟩
              have hxm : x ∈ ns := by rw [← hx]; exact List.getElem_mem _
              have HXI := Lib.hid (HNS.out x hxm)
              obtain ⟨b3, o3, rfl, hcell⟩ := HKN.out.at_ hjl hx
              have HC := Lib.hid hcell
              have hrow : (s.row x) = R x := by have := HPP.out.at_ hjl; rw [hx] at this; rw [this]; rfl
              have CL := Lib.hid (fun w' (hf : Fr (fun _ => False) wr w') => (HKN.out.fr hf).ki.len HXI.out.1)
              rw [hrow] at CL
              have HLP : Hid (0 < (R x).length) := Lib.hid (List.length_pos_iff.2 HXI.out.2)
              have hln : ((((R x).length : Nat) : Int) == 0) = false := by rw [beq_eq_false_iff_ne]; have := HLP.out; omega
              have hln2 : ((R x).length == 0) = false := by rw [beq_eq_false_iff_ne]; have := HLP.out; omega
              clear hjn hlt hxm hcell hrow hx hjl
              go_wp2_with fail
              rcases Nat.eq_zero_or_pos j with hz | hz
              · have dz : decide ((0 : Int) < (j : Int)) = false := decide_eq_false (by omega)
                have dz' : decide (0 < j) = false := decide_eq_false (by omega)
                clear hz
                refine wp_region_held_drew (S := fun w' => Fr (fun _ => False) wr w') (by kernel_rfl) ((Fr.refl _ _).drew) (fun hHeld => ?_)
                refine wpAnyH_takeD (i := 0) (v := ?_) (some 80) rfl rfl (by kernel_rfl) (by kernel_rfl) (by kernel_rfl) (fun _ _ _ h => h) (Or.inl ⟨by rfl, ?_⟩) (by assumption) ?_
                rotate_left
                · intro w' hSw
                  go_simp
                  first | done | with_reducible rfl
                try simp only [Act.put, List.setIfInBounds_toArray, List.set_cons_zero, List.set_cons_succ]
                refine wpAnyH_takeD (i := 1) (v := ?_) (some 81) rfl rfl (by kernel_rfl) (by kernel_rfl) (by kernel_rfl) (fun _ _ _ h => h) (Or.inl ⟨by rfl, ?_⟩) (by assumption) ?_
                rotate_left
                · intro w' hSw
                  go_simp
                  first | done | with_reducible rfl
                try simp only [Act.put, List.setIfInBounds_toArray, List.set_cons_zero, List.set_cons_succ]
                refine wpAnyH_takeD (i := 2) (v := ?_) (some 82) rfl rfl (by kernel_rfl) (by kernel_rfl) (by kernel_rfl) (fun _ _ _ h => h) (Or.inl ⟨by rfl, ?_⟩) (by assumption) ?_
                rotate_left
                · intro w' hSw
                  go_simp
                  first | done | with_reducible rfl
                try simp only [Act.put, List.setIfInBounds_toArray, List.set_cons_zero, List.set_cons_succ]
                refine wpAnyH_takeD (i := 3) (v := ?_) (some 83) rfl rfl (by kernel_rfl) (by kernel_rfl) (by kernel_rfl) (fun _ _ _ h => h) (Or.inl ⟨by rfl, ?_⟩) (by assumption) ?_
                rotate_left
                · intro w' hSw
                  go_simp
                  first | done | with_reducible rfl
                try simp only [Act.put, List.setIfInBounds_toArray, List.set_cons_zero, List.set_cons_succ]
                refine wpAnyH_takeD (i := 4) (v := ?_) (some 84) rfl rfl (by kernel_rfl) (by kernel_rfl) (by kernel_rfl) (fun _ _ _ h => h) (Or.inl ⟨by rfl, ?_⟩) (by assumption) ?_
                rotate_left
                · intro w' hSw
                  have c3 := HC.out w' hSw
                  go_simp
                  first | done | with_reducible rfl
                try simp only [Act.put, List.setIfInBounds_toArray, List.set_cons_zero, List.set_cons_succ]
                refine wpAnyH_ready (rs := [5]) (by kernel_rfl) (by simp) ?_
                refine AllReadyH.cons rfl (fun K hK => ?_) AllReadyH.nil
                go_simp
                refine (CL.out _ hHeld).mono ?_; rintro e w4 ⟨rfl, rfl⟩
                try go_simp
                refine hK.out _ _ (hHeld) (fun hHeld => ?_)
                clear hK K
                try change wpAnyH _ _ _ _ _ _ _ (Act.put _ (some 85) _) _
                try simp only [Act.put, List.setIfInBounds_toArray, List.set_cons_zero, List.set_cons_succ]
                refine wpAnyH_takeD (i := 6) (v := ?_) (some 86) rfl rfl (by kernel_rfl) (by kernel_rfl) (by kernel_rfl) (fun _ _ _ h => h) (Or.inl ⟨by rfl, ?_⟩) (by assumption) ?_
                rotate_left
                · intro w' hSw
                  go_simp
                  first | done | with_reducible rfl
                try simp only [Act.put, List.setIfInBounds_toArray, List.set_cons_zero, List.set_cons_succ]
                refine wpAnyH_takeD (i := 7) (v := ?_) (some 87) rfl rfl (by kernel_rfl) (by kernel_rfl) (by kernel_rfl) (fun _ _ _ h => h) (Or.inl ⟨by rfl, ?_⟩) (by assumption) ?_
                rotate_left
                · intro w' hSw
                  go_simp
                  first | done | with_reducible rfl
                try simp only [Act.put, List.setIfInBounds_toArray, List.set_cons_zero, List.set_cons_succ]
                refine wpAnyH_takeD (i := 8) (v := ?_) (some 88) rfl rfl (by kernel_rfl) (by kernel_rfl) (by kernel_rfl) (fun _ _ _ h => h) (Or.inl ⟨by rfl, ?_⟩) (by assumption) ?_
                rotate_left
                · intro w' hSw
                  go_simp
                  first | done | with_reducible rfl
                try simp only [Act.put, List.setIfInBounds_toArray, List.set_cons_zero, List.set_cons_succ]
                refine wpAnyH_takeD (i := 9) (v := ?_) (some 89) rfl rfl (by kernel_rfl) (by kernel_rfl) (by kernel_rfl) (fun _ _ _ h => h) (Or.inl ⟨by rfl, ?_⟩) (by assumption) ?_
                rotate_left
                · intro w' hSw
                  go_simp
                  first | done | with_reducible rfl
                try simp only [Act.put, List.setIfInBounds_toArray, List.set_cons_zero, List.set_cons_succ]
                refine wpAnyH_takeD (i := 10) (v := ?_) (some 90) rfl rfl (by kernel_rfl) (by kernel_rfl) (by kernel_rfl) (fun _ _ _ h => h) (Or.inl ⟨by rfl, ?_⟩) (by assumption) ?_
                rotate_left
                · intro w' hSw
                  go_simp
                  first | done | with_reducible rfl
                try simp only [Act.put, List.setIfInBounds_toArray, List.set_cons_zero, List.set_cons_succ]
                refine wpAnyH_takeD (i := 11) (v := undef) (some 91) rfl rfl (by kernel_rfl) (by kernel_rfl) (by kernel_rfl) (fun _ _ _ h => h) (Or.inr ⟨by rfl, rfl⟩) (by assumption) ?_
                try simp only [Act.put, List.setIfInBounds_toArray, List.set_cons_zero, List.set_cons_succ]
                refine wpAnyH_takeD (i := 12) (v := undef) (some 92) rfl rfl (by kernel_rfl) (by kernel_rfl) (by kernel_rfl) (fun _ _ _ h => h) (Or.inr ⟨by rfl, rfl⟩) (by assumption) ?_
                try simp only [Act.put, List.setIfInBounds_toArray, List.set_cons_zero, List.set_cons_succ]
                refine wpAnyH_takeD (i := 13) (v := undef) (some 93) rfl rfl (by kernel_rfl) (by kernel_rfl) (by kernel_rfl) (fun _ _ _ h => h) (Or.inr ⟨by rfl, rfl⟩) (by assumption) ?_
                try simp only [Act.put, List.setIfInBounds_toArray, List.set_cons_zero, List.set_cons_succ]
                refine wpAnyH_takeD (i := 14) (v := undef) (some 94) rfl rfl (by kernel_rfl) (by kernel_rfl) (by kernel_rfl) (fun _ _ _ h => h) (Or.inr ⟨by rfl, rfl⟩) (by assumption) ?_
                try simp only [Act.put, List.setIfInBounds_toArray, List.set_cons_zero, List.set_cons_succ]
                refine wpAnyH_takeD (i := 15) (v := undef) (some 95) rfl rfl (by kernel_rfl) (by kernel_rfl) (by kernel_rfl) (fun _ _ _ h => h) (Or.inr ⟨by rfl, rfl⟩) (by assumption) ?_
                try simp only [Act.put, List.setIfInBounds_toArray, List.set_cons_zero, List.set_cons_succ]
                refine wpAnyH_takeD (i := 16) (v := undef) (some 96) rfl rfl (by kernel_rfl) (by kernel_rfl) (by kernel_rfl) (fun _ _ _ h => h) (Or.inr ⟨by rfl, rfl⟩) (by assumption) ?_
                try simp only [Act.put, List.setIfInBounds_toArray, List.set_cons_zero, List.set_cons_succ]
                refine wpAnyH_takeD (i := 17) (v := undef) (some 97) rfl rfl (by kernel_rfl) (by kernel_rfl) (by kernel_rfl) (fun _ _ _ h => h) (Or.inr ⟨by rfl, rfl⟩) (by assumption) ?_
                try simp only [Act.put, List.setIfInBounds_toArray, List.set_cons_zero, List.set_cons_succ]
                refine wpAnyH_takeD (i := 18) (v := undef) (some 98) rfl rfl (by kernel_rfl) (by kernel_rfl) (by kernel_rfl) (fun _ _ _ h => h) (Or.inr ⟨by rfl, rfl⟩) (by assumption) ?_
                try simp only [Act.put, List.setIfInBounds_toArray, List.set_cons_zero, List.set_cons_succ]
                refine wpAnyH_takeD (i := 19) (v := undef) (some 99) rfl rfl (by kernel_rfl) (by kernel_rfl) (by kernel_rfl) (fun _ _ _ h => h) (Or.inr ⟨by rfl, rfl⟩) (by assumption) ?_
                try simp only [Act.put, List.setIfInBounds_toArray, List.set_cons_zero, List.set_cons_succ]
                refine wpAnyH_takeD (i := 20) (v := undef) (some 100) rfl rfl (by kernel_rfl) (by kernel_rfl) (by kernel_rfl) (fun _ _ _ h => h) (Or.inr ⟨by rfl, rfl⟩) (by assumption) ?_
                try simp only [Act.put, List.setIfInBounds_toArray, List.set_cons_zero, List.set_cons_succ]
                refine wpAnyH_takeD (i := 21) (v := ?_) (some 101) rfl rfl (by kernel_rfl) (by kernel_rfl) (by kernel_rfl) (fun _ _ _ h => h) (Or.inl ⟨by rfl, ?_⟩) (by assumption) ?_
                rotate_left
                · intro w' hSw
                  go_simp
                  first | done | with_reducible rfl
                try simp only [Act.put, List.setIfInBounds_toArray, List.set_cons_zero, List.set_cons_succ]
                refine wpAnyH_takeD (i := 22) (v := ?_) (some 102) rfl rfl (by kernel_rfl) (by kernel_rfl) (by kernel_rfl) (fun _ _ _ h => h) (Or.inl ⟨by rfl, ?_⟩) (by assumption) ?_
                rotate_left
                · intro w' hSw
                  go_simp
                  first | done | with_reducible rfl
                try simp only [Act.put, List.setIfInBounds_toArray, List.set_cons_zero, List.set_cons_succ]
                refine wpAnyH_done (by kernel_rfl) ?_ _
                have _done := hHeld
                have HKX := Lib.hid (HKN.out.fr hHeld)
                clear hHeld HKN CL
                go_wp2_with fail
                go_loopw [13, 15] (fun u v wr => ∃ (p : Nat) (last : Int), u = .int .i64 ((L + p : Nat) : Int) ∧ v = .int .i64 last ∧ Hid (p ≤ (R x).length ∧ -1 ≤ last ∧ (∀ y ∈ (R x).drop p, last < (y.1 : Int))) ∧ Hid (∃ s, Pp R i ns j p s ∧ KN W0 wr g s (.slice (some ⟨b3, o3, none⟩) nl c3) ns)) (fun u _ _ => L + (R x).length - (intOf u).toNat)
                case atStart => exact ⟨0, -1, rfl, rfl, Lib.hid ⟨Nat.zero_le _, Int.le_refl _, fun y _ => by omega⟩, Lib.hid ⟨s, HPP.out, HKX.out⟩⟩
                case round =>
                  clear HKX HPP hln hln2
                  obtain ⟨p, last, rfl, rfl, HPL, HS⟩ := hrel
                  obtain ⟨s, hpp, hkn⟩ := HS.out
                  obtain ⟨hjl, hx⟩ := HX.out
                  have hrow : s.row x = (R x).drop p := by have := hpp.at_ hjl; rw [hx] at this; exact this
                  have CL := Lib.hid (hkn.ki.len HXI.out.1)
                  rw [hrow, List.length_drop] at CL
                  obtain ⟨b3', o3', e3, hcell⟩ := hkn.at_ hjl hx
                  injection e3 with e3
                  injection e3 with e31 e32
                  subst e31 e32
                  have q3 := hcell wr (Fr.refl _ _)
                  by_cases hp : p < (R x).length
                  · have dl : decide ((0 : Int) < (((R x).length - p : Nat) : Int)) = true := decide_eq_true (by omega)
                    have dl' : decide (0 < (R x).length - p) = true := decide_eq_true (by omega)
                    obtain ⟨t, ht, hft, hkp, hhd, hgt⟩ : ∃ t, t < i ∧ kF q t = x ∧ kp b (t : Int) = true ∧ s.row x = (t, (t : Int)) :: (R x).drop (p + 1) ∧ ∀ y ∈ (R x).drop (p + 1), t < y.1 := by
                      rw [← hR] at hpp hp ⊢
                      have := hpp.head hjl (by rw [hx]; exact hp)
                      rw [hx] at this
                      exact this
                    have CP := Lib.hid (hkn.pop (x := .int .i64 (t : Int)) (b := .bool true) (by rw [hpp.ps]; have := HN.out; omega) HXI.out.1 (by rw [hhd]; rfl))
                    have hlast : last < (t : Int) := HPL.out.2.2 (t, (t : Int)) (by rw [← hrow, hhd]; exact List.mem_cons_self ..)
                    have dle : decide ((t : Int) ≤ last) = false := decide_eq_false (by omega)
                    have HPO : Hid (Pp R i ns j (p + 1) (s.pop x)) := Lib.hid (by have := hpp.pop HRI.out hjl; rw [hx] at this; exact this)
                    have HGT := Lib.hid hgt
                    have HP := Lib.hid hp
                    have ht0 : (0 : Int) ≤ (t : Int) := by omega
                    obtain ⟨y, hy⟩ : ∃ y, (t : Int).tmod b = y := ⟨_, rfl⟩
                    have hyz : (y == 0) = false := by rw [← hy]; have := hkp; unfold kp at this; rw [bne_iff_ne] at this; rw [beq_eq_false_iff_ne]; exact this
                    have hymod : (t : Int) % b = y := by rw [← hy, Int.tmod_eq_emod_of_nonneg (by omega)]
                    have hxt : (t : Int).tmod q = x := hft
                    have hxmod : (t : Int) % q = x := by rw [← hxt, Int.tmod_eq_emod_of_nonneg (by omega)]
                    have hxx : (x != x) = false := by simp
                    have hq0 : ¬ q = 0 := by have := HQ.out; omega
                    have hb0 : ¬ b = 0 := by have := HB.out; omega
                    have HLEN : Hid (L + (R x).length ≤ 1000) := Lib.hid (by have h1 := HL.out; have h2 := sumL_next R ns hjl; have h3 := sumL_mono R ns (j + 1); have h4 := HSUM.out; have := HN.out; rw [hx] at h2; omega)
                    clear hpp hkn hjl hx hrow hcell hp ht hft hkp hhd hgt hlast HS
                    go_wp2_with fail
                    refine CL.out.mono ?_; rintro e w4 ⟨rfl, rfl⟩
                    go_wp2_with fail
                    refine CP.out.mono ?_; rintro e w5 ⟨rfl, hk5⟩
                    have HK5 := Lib.hid hk5
                    have HC5 : Hid (∀ w', Fr (fun _ => False) w5 w' → w'.cell? ⟨b3, o3 + j, none⟩ = some (.int .i64 x)) := Lib.hid (by
                      obtain ⟨hjl, hx⟩ := HX.out
                      obtain ⟨b3', o3', e3, hcell⟩ := hk5.at_ hjl hx
                      injection e3 with e3
                      injection e3 with e31 e32
                      subst e31 e32
                      exact hcell)
                    have HBB : Hid (∀ w', Fr (fun _ => False) w5 w' → w'.cell? ⟨kb, 0, none⟩ = some (.int .i64 b)) := Lib.hid (fun w' hf => HBX.out w' (hk5.ki.old.trans hf (fun _ _ h => h)))
                    clear hk5 CL CP dl dl' q3
                    go_wp2_with fail
                    refine wp_region_held_drew (S := fun w' => Fr (fun _ => False) w5 w') (by kernel_rfl) ((Fr.refl _ _).drew) (fun hHeld => ?_)
                    refine wpAnyH_takeD (i := 0) (v := ?_) (some 119) rfl rfl (by kernel_rfl) (by kernel_rfl) (by kernel_rfl) (fun _ _ _ h => h) (Or.inl ⟨by rfl, ?_⟩) (by assumption) ?_
                    rotate_left
                    · intro w' hSw
                      go_simp
                      first | done | with_reducible rfl
                    try simp only [Act.put, List.setIfInBounds_toArray, List.set_cons_zero, List.set_cons_succ]
                    refine wpAnyH_takeD (i := 1) (v := ?_) (some 120) rfl rfl (by kernel_rfl) (by kernel_rfl) (by kernel_rfl) (fun _ _ _ h => h) (Or.inl ⟨by rfl, ?_⟩) (by assumption) ?_
                    rotate_left
                    · intro w' hSw
                      go_simp
                      first | done | with_reducible rfl
                    try simp only [Act.put, List.setIfInBounds_toArray, List.set_cons_zero, List.set_cons_succ]
                    refine wpAnyH_takeD (i := 2) (v := ?_) (some 121) rfl rfl (by kernel_rfl) (by kernel_rfl) (by kernel_rfl) (fun _ _ _ h => h) (Or.inl ⟨by rfl, ?_⟩) (by assumption) ?_
                    rotate_left
                    · intro w' hSw
                      go_simp
                      first | done | with_reducible rfl
                    try simp only [Act.put, List.setIfInBounds_toArray, List.set_cons_zero, List.set_cons_succ]
                    refine wpAnyH_takeD (i := 3) (v := ?_) (some 122) rfl rfl (by kernel_rfl) (by kernel_rfl) (by kernel_rfl) (fun _ _ _ h => h) (Or.inl ⟨by rfl, ?_⟩) (by assumption) ?_
                    rotate_left
                    · intro w' hSw
                      go_simp
                      first | done | with_reducible rfl
                    try simp only [Act.put, List.setIfInBounds_toArray, List.set_cons_zero, List.set_cons_succ]
                    refine wpAnyH_takeD (i := 4) (v := ?_) (some 123) rfl rfl (by kernel_rfl) (by kernel_rfl) (by kernel_rfl) (fun _ _ _ h => h) (Or.inl ⟨by rfl, ?_⟩) (by assumption) ?_
                    rotate_left
                    · intro w' hSw
                      go_simp
                      first | done | with_reducible rfl
                    try simp only [Act.put, List.setIfInBounds_toArray, List.set_cons_zero, List.set_cons_succ]
                    refine wpAnyH_takeD (i := 5) (v := ?_) (some 124) rfl rfl (by kernel_rfl) (by kernel_rfl) (by kernel_rfl) (fun _ _ _ h => h) (Or.inl ⟨by rfl, ?_⟩) (by assumption) ?_
                    rotate_left
                    · intro w' hSw
                      have c5 := HBB.out w' hSw
                      go_simp
                      first | done | with_reducible rfl
                    try simp only [Act.put, List.setIfInBounds_toArray, List.set_cons_zero, List.set_cons_succ]
                    refine wpAnyH_takeD (i := 6) (v := ?_) (some 125) rfl rfl (by kernel_rfl) (by kernel_rfl) (by kernel_rfl) (fun _ _ _ h => h) (Or.inl ⟨by rfl, ?_⟩) (by assumption) ?_
                    rotate_left
                    · intro w' hSw
                      go_simp
                      first | done | with_reducible rfl
                    try simp only [Act.put, List.setIfInBounds_toArray, List.set_cons_zero, List.set_cons_succ]
                    refine wpAnyH_takeD (i := 7) (v := ?_) (some 126) rfl rfl (by kernel_rfl) (by kernel_rfl) (by kernel_rfl) (fun _ _ _ h => h) (Or.inl ⟨by rfl, ?_⟩) (by assumption) ?_
                    rotate_left
                    · intro w' hSw
                      go_simp
                      first | done | with_reducible rfl
                    try simp only [Act.put, List.setIfInBounds_toArray, List.set_cons_zero, List.set_cons_succ]
                    refine wpAnyH_takeD (i := 8) (v := ?_) (some 127) rfl rfl (by kernel_rfl) (by kernel_rfl) (by kernel_rfl) (fun _ _ _ h => h) (Or.inl ⟨by rfl, ?_⟩) (by assumption) ?_
                    rotate_left
                    · intro w' hSw
                      go_simp
                      first | done | with_reducible rfl
                    try simp only [Act.put, List.setIfInBounds_toArray, List.set_cons_zero, List.set_cons_succ]
                    refine wpAnyH_takeD (i := 9) (v := ?_) (some 128) rfl rfl (by kernel_rfl) (by kernel_rfl) (by kernel_rfl) (fun _ _ _ h => h) (Or.inl ⟨by rfl, ?_⟩) (by assumption) ?_
                    rotate_left
                    · intro w' hSw
                      go_simp
                      first | done | with_reducible rfl
                    try simp only [Act.put, List.setIfInBounds_toArray, List.set_cons_zero, List.set_cons_succ]
                    refine wpAnyH_takeD (i := 10) (v := ?_) (some 129) rfl rfl (by kernel_rfl) (by kernel_rfl) (by kernel_rfl) (fun _ _ _ h => h) (Or.inl ⟨by rfl, ?_⟩) (by assumption) ?_
                    rotate_left
                    · intro w' hSw
                      go_simp
                      first | done | with_reducible rfl
                    try simp only [Act.put, List.setIfInBounds_toArray, List.set_cons_zero, List.set_cons_succ]
                    refine wpAnyH_takeD (i := 11) (v := ?_) (some 130) rfl rfl (by kernel_rfl) (by kernel_rfl) (by kernel_rfl) (fun _ _ _ h => h) (Or.inl ⟨by rfl, ?_⟩) (by assumption) ?_
                    rotate_left
                    · intro w' hSw
                      go_simp
                      first | done | with_reducible rfl
                    try simp only [Act.put, List.setIfInBounds_toArray, List.set_cons_zero, List.set_cons_succ]
                    refine wpAnyH_takeD (i := 12) (v := ?_) (some 131) rfl rfl (by kernel_rfl) (by kernel_rfl) (by kernel_rfl) (fun _ _ _ h => h) (Or.inl ⟨by rfl, ?_⟩) (by assumption) ?_
                    rotate_left
                    · intro w' hSw
                      go_simp
                      first | done | with_reducible rfl
                    try simp only [Act.put, List.setIfInBounds_toArray, List.set_cons_zero, List.set_cons_succ]
                    refine wpAnyH_takeD (i := 13) (v := ?_) (some 132) rfl rfl (by kernel_rfl) (by kernel_rfl) (by kernel_rfl) (fun _ _ _ h => h) (Or.inl ⟨by rfl, ?_⟩) (by assumption) ?_
                    rotate_left
                    · intro w' hSw
                      go_simp
                      first | done | with_reducible rfl
                    try simp only [Act.put, List.setIfInBounds_toArray, List.set_cons_zero, List.set_cons_succ]
                    refine wpAnyH_takeD (i := 14) (v := ?_) (some 133) rfl rfl (by kernel_rfl) (by kernel_rfl) (by kernel_rfl) (fun _ _ _ h => h) (Or.inl ⟨by rfl, ?_⟩) (by assumption) ?_
                    rotate_left
                    · intro w' hSw
                      go_simp
                      first | done | with_reducible rfl
                    try simp only [Act.put, List.setIfInBounds_toArray, List.set_cons_zero, List.set_cons_succ]
                    refine wpAnyH_takeD (i := 15) (v := ?_) (some 134) rfl rfl (by kernel_rfl) (by kernel_rfl) (by kernel_rfl) (fun _ _ _ h => h) (Or.inl ⟨by rfl, ?_⟩) (by assumption) ?_
                    rotate_left
                    · intro w' hSw
                      go_simp
                      first | done | with_reducible rfl
                    try simp only [Act.put, List.setIfInBounds_toArray, List.set_cons_zero, List.set_cons_succ]
                    refine wpAnyH_takeD (i := 16) (v := ?_) (some 135) rfl rfl (by kernel_rfl) (by kernel_rfl) (by kernel_rfl) (fun _ _ _ h => h) (Or.inl ⟨by rfl, ?_⟩) (by assumption) ?_
                    rotate_left
                    · intro w' hSw
                      have c3 := HC5.out w' hSw
                      go_simp
                      first | done | with_reducible rfl
                    try simp only [Act.put, List.setIfInBounds_toArray, List.set_cons_zero, List.set_cons_succ]
                    refine wpAnyH_takeD (i := 17) (v := ?_) (some 136) rfl rfl (by kernel_rfl) (by kernel_rfl) (by kernel_rfl) (fun _ _ _ h => h) (Or.inl ⟨by rfl, ?_⟩) (by assumption) ?_
                    rotate_left
                    · intro w' hSw
                      go_simp
                      first | done | with_reducible rfl
                    try simp only [Act.put, List.setIfInBounds_toArray, List.set_cons_zero, List.set_cons_succ]
                    refine wpAnyH_takeD (i := 18) (v := ?_) (some 137) rfl rfl (by kernel_rfl) (by kernel_rfl) (by kernel_rfl) (fun _ _ _ h => h) (Or.inl ⟨by rfl, ?_⟩) (by assumption) ?_
                    rotate_left
                    · intro w' hSw
                      go_simp
                      first | done | with_reducible rfl
                    try simp only [Act.put, List.setIfInBounds_toArray, List.set_cons_zero, List.set_cons_succ]
                    refine wpAnyH_done (by kernel_rfl) ?_ _
                    have HK6 := Lib.hid (HK5.out.fr hHeld)
                    have hwm : IntKind.wrap .i64 ((L : Int) + (p : Int) + 1) = (L : Int) + (p : Int) + 1 := by have := HLEN.out; have := HP.out; simp only [IntKind.wrap_i64]; omega
                    clear hHeld HK5 HC5 HBB
                    go_wp2
                    go_roundw
                    case rel => exact ⟨p + 1, (t : Int), by first | rfl | (push_cast; rfl) | (push_cast; congr 1; omega) | (go_num; done), rfl, Lib.hid ⟨HP.out, by omega, fun y hy => by have := HGT.out y hy; omega⟩, Lib.hid ⟨_, HPO.out, HK6.out⟩⟩
                    case measure =>
                      show L + (R x).length - ((L : Int) + (p : Int) + 1).toNat < L + (R x).length - ((L : Int) + (p : Int)).toNat
                      exact meas_down _ _ _ HP.out
                  · have dl : decide ((0 : Int) < (((R x).length - p : Nat) : Int)) = false := decide_eq_false (by omega)
                    have dl' : decide (0 < (R x).length - p) = false := decide_eq_false (by omega)
                    have hpe : p = (R x).length := by have := HPL.out.1; omega
                    have HNX : Hid (∃ s, Pp R i ns (j + 1) 0 s ∧ KN W0 wr g s (.slice (some ⟨b3, o3, none⟩) nl c3) ns) := Lib.hid ⟨s, hpp.next hjl (by rw [hx]; omega), hkn⟩
                    have HM : Hid (L + p = sumL R (ns.take (j + 1))) := Lib.hid (by rw [sumL_next R ns hjl, hx, ← HL.out, hpe])
                    have hwj := wrap_succ (k := j) (by have := HJ.out; have := HLN.out; omega)
                    clear hpp hkn hjl hx hrow hcell hp hpe HS
                    go_wp2_with fail
                    refine CL.out.mono ?_; rintro e w4 ⟨rfl, rfl⟩
                    clear CL
                    go_wp2
                    go_roundw
                    case rel => exact ⟨j + 1, L + p, rfl, by first | rfl | (push_cast; rfl) | (go_num; done), HJ.out, HM, HNX⟩
                    case measure =>
                      show nl - ((j : Int) + 1).toNat < nl - ((j : Int)).toNat
                      exact meas_up HJ.out
              · have dz : decide ((0 : Int) < (j : Int)) = true := decide_eq_true (by omega)
                have dz' : decide (0 < j) = true := decide_eq_true hz
                obtain ⟨jj, hjj⟩ : ∃ jj, j = jj + 1 := ⟨j - 1, by omega⟩
                have hw1 : IntKind.wrap .i64 ((j : Int) - 1) = (jj : Int) := by have := HJ.out; have := HLN.out; simp only [IntKind.wrap_i64]; omega
                obtain ⟨x1, hx1⟩ : ∃ x1, ns[jj]'(by obtain ⟨h, _⟩ := HX.out; omega) = x1 := ⟨_, rfl⟩
                have HC1 : Hid (∀ w', Fr (fun _ => False) wr w' → w'.cell? ⟨b3, o3 + jj, none⟩ = some (.int .i64 x1)) := Lib.hid (by
                  obtain ⟨b3', o3', e3, hcell⟩ := HKN.out.at_ (i := jj) (by obtain ⟨h, _⟩ := HX.out; omega) hx1
                  injection e3 with e3
                  injection e3 with e31 e32
                  subst e31 e32
                  exact hcell)
                have hle : decide (x ≤ x1) = false := decide_eq_false (by
                  obtain ⟨h, hx⟩ := HX.out
                  have h1 := List.pairwise_iff_getElem.1 HRI.out jj j (by omega) h (by omega)
                  rw [hx1, hx] at h1
                  omega)
                have jj0 : (0 : Int) ≤ (jj : Int) := by omega
                have jj1 : (jj : Int) < (nl : Int) := by have := HJ.out; omega
                clear hx1 hz hjj
                refine wp_region_held_drew (S := fun w' => Fr (fun _ => False) wr w') (by kernel_rfl) ((Fr.refl _ _).drew) (fun hHeld => ?_)
                refine wpAnyH_takeD (i := 0) (v := ?_) (some 80) rfl rfl (by kernel_rfl) (by kernel_rfl) (by kernel_rfl) (fun _ _ _ h => h) (Or.inl ⟨by rfl, ?_⟩) (by assumption) ?_
                rotate_left
                · intro w' hSw
                  go_simp
                  first | done | with_reducible rfl
                try simp only [Act.put, List.setIfInBounds_toArray, List.set_cons_zero, List.set_cons_succ]
                refine wpAnyH_takeD (i := 1) (v := ?_) (some 81) rfl rfl (by kernel_rfl) (by kernel_rfl) (by kernel_rfl) (fun _ _ _ h => h) (Or.inl ⟨by rfl, ?_⟩) (by assumption) ?_
                rotate_left
                · intro w' hSw
                  go_simp
                  first | done | with_reducible rfl
                try simp only [Act.put, List.setIfInBounds_toArray, List.set_cons_zero, List.set_cons_succ]
                refine wpAnyH_takeD (i := 2) (v := ?_) (some 82) rfl rfl (by kernel_rfl) (by kernel_rfl) (by kernel_rfl) (fun _ _ _ h => h) (Or.inl ⟨by rfl, ?_⟩) (by assumption) ?_
                rotate_left
                · intro w' hSw
                  go_simp
                  first | done | with_reducible rfl
                try simp only [Act.put, List.setIfInBounds_toArray, List.set_cons_zero, List.set_cons_succ]
                refine wpAnyH_takeD (i := 3) (v := ?_) (some 83) rfl rfl (by kernel_rfl) (by kernel_rfl) (by kernel_rfl) (fun _ _ _ h => h) (Or.inl ⟨by rfl, ?_⟩) (by assumption) ?_
                rotate_left
                · intro w' hSw
                  go_simp
                  first | done | with_reducible rfl
                try simp only [Act.put, List.setIfInBounds_toArray, List.set_cons_zero, List.set_cons_succ]
                refine wpAnyH_takeD (i := 4) (v := ?_) (some 84) rfl rfl (by kernel_rfl) (by kernel_rfl) (by kernel_rfl) (fun _ _ _ h => h) (Or.inl ⟨by rfl, ?_⟩) (by assumption) ?_
                rotate_left
                · intro w' hSw
                  have c3 := HC.out w' hSw
                  go_simp
                  first | done | with_reducible rfl
                try simp only [Act.put, List.setIfInBounds_toArray, List.set_cons_zero, List.set_cons_succ]
                refine wpAnyH_ready (rs := [5]) (by kernel_rfl) (by simp) ?_
                refine AllReadyH.cons rfl (fun K hK => ?_) AllReadyH.nil
                go_simp
                refine (CL.out _ hHeld).mono ?_; rintro e w4 ⟨rfl, rfl⟩
                try go_simp
                refine hK.out _ _ (hHeld) (fun hHeld => ?_)
                clear hK K
                try change wpAnyH _ _ _ _ _ _ _ (Act.put _ (some 85) _) _
                try simp only [Act.put, List.setIfInBounds_toArray, List.set_cons_zero, List.set_cons_succ]
                refine wpAnyH_takeD (i := 6) (v := ?_) (some 86) rfl rfl (by kernel_rfl) (by kernel_rfl) (by kernel_rfl) (fun _ _ _ h => h) (Or.inl ⟨by rfl, ?_⟩) (by assumption) ?_
                rotate_left
                · intro w' hSw
                  go_simp
                  first | done | with_reducible rfl
                try simp only [Act.put, List.setIfInBounds_toArray, List.set_cons_zero, List.set_cons_succ]
                refine wpAnyH_takeD (i := 7) (v := ?_) (some 87) rfl rfl (by kernel_rfl) (by kernel_rfl) (by kernel_rfl) (fun _ _ _ h => h) (Or.inl ⟨by rfl, ?_⟩) (by assumption) ?_
                rotate_left
                · intro w' hSw
                  go_simp
                  first | done | with_reducible rfl
                try simp only [Act.put, List.setIfInBounds_toArray, List.set_cons_zero, List.set_cons_succ]
                refine wpAnyH_takeD (i := 8) (v := ?_) (some 88) rfl rfl (by kernel_rfl) (by kernel_rfl) (by kernel_rfl) (fun _ _ _ h => h) (Or.inl ⟨by rfl, ?_⟩) (by assumption) ?_
                rotate_left
                · intro w' hSw
                  go_simp
                  first | done | with_reducible rfl
                try simp only [Act.put, List.setIfInBounds_toArray, List.set_cons_zero, List.set_cons_succ]
                refine wpAnyH_takeD (i := 9) (v := ?_) (some 89) rfl rfl (by kernel_rfl) (by kernel_rfl) (by kernel_rfl) (fun _ _ _ h => h) (Or.inl ⟨by rfl, ?_⟩) (by assumption) ?_
                rotate_left
                · intro w' hSw
                  go_simp
                  first | done | with_reducible rfl
                try simp only [Act.put, List.setIfInBounds_toArray, List.set_cons_zero, List.set_cons_succ]
                refine wpAnyH_takeD (i := 10) (v := ?_) (some 90) rfl rfl (by kernel_rfl) (by kernel_rfl) (by kernel_rfl) (fun _ _ _ h => h) (Or.inl ⟨by rfl, ?_⟩) (by assumption) ?_
                rotate_left
                · intro w' hSw
                  go_simp
                  first | done | with_reducible rfl
                try simp only [Act.put, List.setIfInBounds_toArray, List.set_cons_zero, List.set_cons_succ]
                refine wpAnyH_takeD (i := 11) (v := ?_) (some 91) rfl rfl (by kernel_rfl) (by kernel_rfl) (by kernel_rfl) (fun _ _ _ h => h) (Or.inl ⟨by rfl, ?_⟩) (by assumption) ?_
                rotate_left
                · intro w' hSw
                  go_simp
                  first | done | with_reducible rfl
                try simp only [Act.put, List.setIfInBounds_toArray, List.set_cons_zero, List.set_cons_succ]
                refine wpAnyH_takeD (i := 12) (v := ?_) (some 92) rfl rfl (by kernel_rfl) (by kernel_rfl) (by kernel_rfl) (fun _ _ _ h => h) (Or.inl ⟨by rfl, ?_⟩) (by assumption) ?_
                rotate_left
                · intro w' hSw
                  go_simp
                  first | done | with_reducible rfl
                try simp only [Act.put, List.setIfInBounds_toArray, List.set_cons_zero, List.set_cons_succ]
                refine wpAnyH_takeD (i := 13) (v := ?_) (some 93) rfl rfl (by kernel_rfl) (by kernel_rfl) (by kernel_rfl) (fun _ _ _ h => h) (Or.inl ⟨by rfl, ?_⟩) (by assumption) ?_
                rotate_left
                · intro w' hSw
                  go_simp
                  first | done | with_reducible rfl
                try simp only [Act.put, List.setIfInBounds_toArray, List.set_cons_zero, List.set_cons_succ]
                refine wpAnyH_takeD (i := 14) (v := ?_) (some 94) rfl rfl (by kernel_rfl) (by kernel_rfl) (by kernel_rfl) (fun _ _ _ h => h) (Or.inl ⟨by rfl, ?_⟩) (by assumption) ?_
                rotate_left
                · intro w' hSw
                  have c3 := HC.out w' hSw
                  go_simp
                  first | done | with_reducible rfl
                try simp only [Act.put, List.setIfInBounds_toArray, List.set_cons_zero, List.set_cons_succ]
                refine wpAnyH_takeD (i := 15) (v := ?_) (some 95) rfl rfl (by kernel_rfl) (by kernel_rfl) (by kernel_rfl) (fun _ _ _ h => h) (Or.inl ⟨by rfl, ?_⟩) (by assumption) ?_
                rotate_left
                · intro w' hSw
                  go_simp
                  first | done | with_reducible rfl
                try simp only [Act.put, List.setIfInBounds_toArray, List.set_cons_zero, List.set_cons_succ]
                refine wpAnyH_takeD (i := 16) (v := ?_) (some 96) rfl rfl (by kernel_rfl) (by kernel_rfl) (by kernel_rfl) (fun _ _ _ h => h) (Or.inl ⟨by rfl, ?_⟩) (by assumption) ?_
                rotate_left
                · intro w' hSw
                  go_simp
                  first | done | with_reducible rfl
                try simp only [Act.put, List.setIfInBounds_toArray, List.set_cons_zero, List.set_cons_succ]
                refine wpAnyH_takeD (i := 17) (v := ?_) (some 97) rfl rfl (by kernel_rfl) (by kernel_rfl) (by kernel_rfl) (fun _ _ _ h => h) (Or.inl ⟨by rfl, ?_⟩) (by assumption) ?_
                rotate_left
                · intro w' hSw
                  go_simp
                  first | done | with_reducible rfl
                try simp only [Act.put, List.setIfInBounds_toArray, List.set_cons_zero, List.set_cons_succ]
                refine wpAnyH_takeD (i := 18) (v := ?_) (some 98) rfl rfl (by kernel_rfl) (by kernel_rfl) (by kernel_rfl) (fun _ _ _ h => h) (Or.inl ⟨by rfl, ?_⟩) (by assumption) ?_
                rotate_left
                · intro w' hSw
                  go_simp
                  first | done | with_reducible rfl
                try simp only [Act.put, List.setIfInBounds_toArray, List.set_cons_zero, List.set_cons_succ]
                refine wpAnyH_takeD (i := 19) (v := ?_) (some 99) rfl rfl (by kernel_rfl) (by kernel_rfl) (by kernel_rfl) (fun _ _ _ h => h) (Or.inl ⟨by rfl, ?_⟩) (by assumption) ?_
                rotate_left
                · intro w' hSw
                  have c4 := HC1.out w' hSw
                  go_simp
                  first | done | with_reducible rfl
                try simp only [Act.put, List.setIfInBounds_toArray, List.set_cons_zero, List.set_cons_succ]
                refine wpAnyH_takeD (i := 20) (v := ?_) (some 100) rfl rfl (by kernel_rfl) (by kernel_rfl) (by kernel_rfl) (fun _ _ _ h => h) (Or.inl ⟨by rfl, ?_⟩) (by assumption) ?_
                rotate_left
                · intro w' hSw
                  go_simp
                  first | done | with_reducible rfl
                try simp only [Act.put, List.setIfInBounds_toArray, List.set_cons_zero, List.set_cons_succ]
                refine wpAnyH_takeD (i := 21) (v := ?_) (some 101) rfl rfl (by kernel_rfl) (by kernel_rfl) (by kernel_rfl) (fun _ _ _ h => h) (Or.inl ⟨by rfl, ?_⟩) (by assumption) ?_
                rotate_left
                · intro w' hSw
                  go_simp
                  first | done | with_reducible rfl
                try simp only [Act.put, List.setIfInBounds_toArray, List.set_cons_zero, List.set_cons_succ]
                refine wpAnyH_takeD (i := 22) (v := ?_) (some 102) rfl rfl (by kernel_rfl) (by kernel_rfl) (by kernel_rfl) (fun _ _ _ h => h) (Or.inl ⟨by rfl, ?_⟩) (by assumption) ?_
                rotate_left
                · intro w' hSw
                  go_simp
                  first | done | with_reducible rfl
                try simp only [Act.put, List.setIfInBounds_toArray, List.set_cons_zero, List.set_cons_succ]
                refine wpAnyH_done (by kernel_rfl) ?_ _
                have _done := hHeld
                have HKX := Lib.hid (HKN.out.fr hHeld)
                clear hHeld HKN CL
                go_wp2_with fail
                go_loopw [13, 15] (fun u v wr => ∃ (p : Nat) (last : Int), u = .int .i64 ((L + p : Nat) : Int) ∧ v = .int .i64 last ∧ Hid (p ≤ (R x).length ∧ -1 ≤ last ∧ (∀ y ∈ (R x).drop p, last < (y.1 : Int))) ∧ Hid (∃ s, Pp R i ns j p s ∧ KN W0 wr g s (.slice (some ⟨b3, o3, none⟩) nl c3) ns)) (fun u _ _ => L + (R x).length - (intOf u).toNat)
                case atStart => exact ⟨0, -1, rfl, rfl, Lib.hid ⟨Nat.zero_le _, Int.le_refl _, fun y _ => by omega⟩, Lib.hid ⟨s, HPP.out, HKX.out⟩⟩
                case round =>
                  clear HKX HPP hln hln2
                  obtain ⟨p, last, rfl, rfl, HPL, HS⟩ := hrel
                  obtain ⟨s, hpp, hkn⟩ := HS.out
                  obtain ⟨hjl, hx⟩ := HX.out
                  have hrow : s.row x = (R x).drop p := by have := hpp.at_ hjl; rw [hx] at this; exact this
                  have CL := Lib.hid (hkn.ki.len HXI.out.1)
                  rw [hrow, List.length_drop] at CL
                  obtain ⟨b3', o3', e3, hcell⟩ := hkn.at_ hjl hx
                  injection e3 with e3
                  injection e3 with e31 e32
                  subst e31 e32
                  have q3 := hcell wr (Fr.refl _ _)
                  by_cases hp : p < (R x).length
                  · have dl : decide ((0 : Int) < (((R x).length - p : Nat) : Int)) = true := decide_eq_true (by omega)
                    have dl' : decide (0 < (R x).length - p) = true := decide_eq_true (by omega)
                    obtain ⟨t, ht, hft, hkp, hhd, hgt⟩ : ∃ t, t < i ∧ kF q t = x ∧ kp b (t : Int) = true ∧ s.row x = (t, (t : Int)) :: (R x).drop (p + 1) ∧ ∀ y ∈ (R x).drop (p + 1), t < y.1 := by
                      rw [← hR] at hpp hp ⊢
                      have := hpp.head hjl (by rw [hx]; exact hp)
                      rw [hx] at this
                      exact this
                    have CP := Lib.hid (hkn.pop (x := .int .i64 (t : Int)) (b := .bool true) (by rw [hpp.ps]; have := HN.out; omega) HXI.out.1 (by rw [hhd]; rfl))
                    have hlast : last < (t : Int) := HPL.out.2.2 (t, (t : Int)) (by rw [← hrow, hhd]; exact List.mem_cons_self ..)
                    have dle : decide ((t : Int) ≤ last) = false := decide_eq_false (by omega)
                    have HPO : Hid (Pp R i ns j (p + 1) (s.pop x)) := Lib.hid (by have := hpp.pop HRI.out hjl; rw [hx] at this; exact this)
                    have HGT := Lib.hid hgt
                    have HP := Lib.hid hp
                    have ht0 : (0 : Int) ≤ (t : Int) := by omega
                    obtain ⟨y, hy⟩ : ∃ y, (t : Int).tmod b = y := ⟨_, rfl⟩
                    have hyz : (y == 0) = false := by rw [← hy]; have := hkp; unfold kp at this; rw [bne_iff_ne] at this; rw [beq_eq_false_iff_ne]; exact this
                    have hymod : (t : Int) % b = y := by rw [← hy, Int.tmod_eq_emod_of_nonneg (by omega)]
                    have hxt : (t : Int).tmod q = x := hft
                    have hxmod : (t : Int) % q = x := by rw [← hxt, Int.tmod_eq_emod_of_nonneg (by omega)]
                    have hxx : (x != x) = false := by simp
                    have hq0 : ¬ q = 0 := by have := HQ.out; omega
                    have hb0 : ¬ b = 0 := by have := HB.out; omega
                    have HLEN : Hid (L + (R x).length ≤ 1000) := Lib.hid (by have h1 := HL.out; have h2 := sumL_next R ns hjl; have h3 := sumL_mono R ns (j + 1); have h4 := HSUM.out; have := HN.out; rw [hx] at h2; omega)
                    clear hpp hkn hjl hx hrow hcell hp ht hft hkp hhd hgt hlast HS
                    go_wp2_with fail
                    refine CL.out.mono ?_; rintro e w4 ⟨rfl, rfl⟩
                    go_wp2_with fail
                    refine CP.out.mono ?_; rintro e w5 ⟨rfl, hk5⟩
                    have HK5 := Lib.hid hk5
                    have HC5 : Hid (∀ w', Fr (fun _ => False) w5 w' → w'.cell? ⟨b3, o3 + j, none⟩ = some (.int .i64 x)) := Lib.hid (by
                      obtain ⟨hjl, hx⟩ := HX.out
                      obtain ⟨b3', o3', e3, hcell⟩ := hk5.at_ hjl hx
                      injection e3 with e3
                      injection e3 with e31 e32
                      subst e31 e32
                      exact hcell)
                    have HBB : Hid (∀ w', Fr (fun _ => False) w5 w' → w'.cell? ⟨kb, 0, none⟩ = some (.int .i64 b)) := Lib.hid (fun w' hf => HBX.out w' (hk5.ki.old.trans hf (fun _ _ h => h)))
                    clear hk5 CL CP dl dl' q3
                    go_wp2_with fail
                    refine wp_region_held_drew (S := fun w' => Fr (fun _ => False) w5 w') (by kernel_rfl) ((Fr.refl _ _).drew) (fun hHeld => ?_)
                    refine wpAnyH_takeD (i := 0) (v := ?_) (some 119) rfl rfl (by kernel_rfl) (by kernel_rfl) (by kernel_rfl) (fun _ _ _ h => h) (Or.inl ⟨by rfl, ?_⟩) (by assumption) ?_
                    rotate_left
                    · intro w' hSw
                      go_simp
                      first | done | with_reducible rfl
                    try simp only [Act.put, List.setIfInBounds_toArray, List.set_cons_zero, List.set_cons_succ]
                    refine wpAnyH_takeD (i := 1) (v := ?_) (some 120) rfl rfl (by kernel_rfl) (by kernel_rfl) (by kernel_rfl) (fun _ _ _ h => h) (Or.inl ⟨by rfl, ?_⟩) (by assumption) ?_
                    rotate_left
                    · intro w' hSw
                      go_simp
                      first | done | with_reducible rfl
                    try simp only [Act.put, List.setIfInBounds_toArray, List.set_cons_zero, List.set_cons_succ]
                    refine wpAnyH_takeD (i := 2) (v := ?_) (some 121) rfl rfl (by kernel_rfl) (by kernel_rfl) (by kernel_rfl) (fun _ _ _ h => h) (Or.inl ⟨by rfl, ?_⟩) (by assumption) ?_
                    rotate_left
                    · intro w' hSw
                      go_simp
                      first | done | with_reducible rfl
                    try simp only [Act.put, List.setIfInBounds_toArray, List.set_cons_zero, List.set_cons_succ]
                    refine wpAnyH_takeD (i := 3) (v := ?_) (some 122) rfl rfl (by kernel_rfl) (by kernel_rfl) (by kernel_rfl) (fun _ _ _ h => h) (Or.inl ⟨by rfl, ?_⟩) (by assumption) ?_
                    rotate_left
                    · intro w' hSw
                      go_simp
                      first | done | with_reducible rfl
                    try simp only [Act.put, List.setIfInBounds_toArray, List.set_cons_zero, List.set_cons_succ]
                    refine wpAnyH_takeD (i := 4) (v := ?_) (some 123) rfl rfl (by kernel_rfl) (by kernel_rfl) (by kernel_rfl) (fun _ _ _ h => h) (Or.inl ⟨by rfl, ?_⟩) (by assumption) ?_
                    rotate_left
                    · intro w' hSw
                      go_simp
                      first | done | with_reducible rfl
                    try simp only [Act.put, List.setIfInBounds_toArray, List.set_cons_zero, List.set_cons_succ]
                    refine wpAnyH_takeD (i := 5) (v := ?_) (some 124) rfl rfl (by kernel_rfl) (by kernel_rfl) (by kernel_rfl) (fun _ _ _ h => h) (Or.inl ⟨by rfl, ?_⟩) (by assumption) ?_
                    rotate_left
                    · intro w' hSw
                      have c5 := HBB.out w' hSw
                      go_simp
                      first | done | with_reducible rfl
                    try simp only [Act.put, List.setIfInBounds_toArray, List.set_cons_zero, List.set_cons_succ]
                    refine wpAnyH_takeD (i := 6) (v := ?_) (some 125) rfl rfl (by kernel_rfl) (by kernel_rfl) (by kernel_rfl) (fun _ _ _ h => h) (Or.inl ⟨by rfl, ?_⟩) (by assumption) ?_
                    rotate_left
                    · intro w' hSw
                      go_simp
                      first | done | with_reducible rfl
                    try simp only [Act.put, List.setIfInBounds_toArray, List.set_cons_zero, List.set_cons_succ]
                    refine wpAnyH_takeD (i := 7) (v := ?_) (some 126) rfl rfl (by kernel_rfl) (by kernel_rfl) (by kernel_rfl) (fun _ _ _ h => h) (Or.inl ⟨by rfl, ?_⟩) (by assumption) ?_
                    rotate_left
                    · intro w' hSw
                      go_simp
                      first | done | with_reducible rfl
                    try simp only [Act.put, List.setIfInBounds_toArray, List.set_cons_zero, List.set_cons_succ]
                    refine wpAnyH_takeD (i := 8) (v := ?_) (some 127) rfl rfl (by kernel_rfl) (by kernel_rfl) (by kernel_rfl) (fun _ _ _ h => h) (Or.inl ⟨by rfl, ?_⟩) (by assumption) ?_
                    rotate_left
                    · intro w' hSw
                      go_simp
                      first | done | with_reducible rfl
                    try simp only [Act.put, List.setIfInBounds_toArray, List.set_cons_zero, List.set_cons_succ]
                    refine wpAnyH_takeD (i := 9) (v := ?_) (some 128) rfl rfl (by kernel_rfl) (by kernel_rfl) (by kernel_rfl) (fun _ _ _ h => h) (Or.inl ⟨by rfl, ?_⟩) (by assumption) ?_
                    rotate_left
                    · intro w' hSw
                      go_simp
                      first | done | with_reducible rfl
                    try simp only [Act.put, List.setIfInBounds_toArray, List.set_cons_zero, List.set_cons_succ]
                    refine wpAnyH_takeD (i := 10) (v := ?_) (some 129) rfl rfl (by kernel_rfl) (by kernel_rfl) (by kernel_rfl) (fun _ _ _ h => h) (Or.inl ⟨by rfl, ?_⟩) (by assumption) ?_
                    rotate_left
                    · intro w' hSw
                      go_simp
                      first | done | with_reducible rfl
                    try simp only [Act.put, List.setIfInBounds_toArray, List.set_cons_zero, List.set_cons_succ]
                    refine wpAnyH_takeD (i := 11) (v := ?_) (some 130) rfl rfl (by kernel_rfl) (by kernel_rfl) (by kernel_rfl) (fun _ _ _ h => h) (Or.inl ⟨by rfl, ?_⟩) (by assumption) ?_
                    rotate_left
                    · intro w' hSw
                      go_simp
                      first | done | with_reducible rfl
                    try simp only [Act.put, List.setIfInBounds_toArray, List.set_cons_zero, List.set_cons_succ]
                    refine wpAnyH_takeD (i := 12) (v := ?_) (some 131) rfl rfl (by kernel_rfl) (by kernel_rfl) (by kernel_rfl) (fun _ _ _ h => h) (Or.inl ⟨by rfl, ?_⟩) (by assumption) ?_
                    rotate_left
                    · intro w' hSw
                      go_simp
                      first | done | with_reducible rfl
                    try simp only [Act.put, List.setIfInBounds_toArray, List.set_cons_zero, List.set_cons_succ]
                    refine wpAnyH_takeD (i := 13) (v := ?_) (some 132) rfl rfl (by kernel_rfl) (by kernel_rfl) (by kernel_rfl) (fun _ _ _ h => h) (Or.inl ⟨by rfl, ?_⟩) (by assumption) ?_
                    rotate_left
                    · intro w' hSw
                      go_simp
                      first | done | with_reducible rfl
                    try simp only [Act.put, List.setIfInBounds_toArray, List.set_cons_zero, List.set_cons_succ]
                    refine wpAnyH_takeD (i := 14) (v := ?_) (some 133) rfl rfl (by kernel_rfl) (by kernel_rfl) (by kernel_rfl) (fun _ _ _ h => h) (Or.inl ⟨by rfl, ?_⟩) (by assumption) ?_
                    rotate_left
                    · intro w' hSw
                      go_simp
                      first | done | with_reducible rfl
                    try simp only [Act.put, List.setIfInBounds_toArray, List.set_cons_zero, List.set_cons_succ]
                    refine wpAnyH_takeD (i := 15) (v := ?_) (some 134) rfl rfl (by kernel_rfl) (by kernel_rfl) (by kernel_rfl) (fun _ _ _ h => h) (Or.inl ⟨by rfl, ?_⟩) (by assumption) ?_
                    rotate_left
                    · intro w' hSw
                      go_simp
                      first | done | with_reducible rfl
                    try simp only [Act.put, List.setIfInBounds_toArray, List.set_cons_zero, List.set_cons_succ]
                    refine wpAnyH_takeD (i := 16) (v := ?_) (some 135) rfl rfl (by kernel_rfl) (by kernel_rfl) (by kernel_rfl) (fun _ _ _ h => h) (Or.inl ⟨by rfl, ?_⟩) (by assumption) ?_
                    rotate_left
                    · intro w' hSw
                      have c3 := HC5.out w' hSw
                      go_simp
                      first | done | with_reducible rfl
                    try simp only [Act.put, List.setIfInBounds_toArray, List.set_cons_zero, List.set_cons_succ]
                    refine wpAnyH_takeD (i := 17) (v := ?_) (some 136) rfl rfl (by kernel_rfl) (by kernel_rfl) (by kernel_rfl) (fun _ _ _ h => h) (Or.inl ⟨by rfl, ?_⟩) (by assumption) ?_
                    rotate_left
                    · intro w' hSw
                      go_simp
                      first | done | with_reducible rfl
                    try simp only [Act.put, List.setIfInBounds_toArray, List.set_cons_zero, List.set_cons_succ]
                    refine wpAnyH_takeD (i := 18) (v := ?_) (some 137) rfl rfl (by kernel_rfl) (by kernel_rfl) (by kernel_rfl) (fun _ _ _ h => h) (Or.inl ⟨by rfl, ?_⟩) (by assumption) ?_
                    rotate_left
                    · intro w' hSw
                      go_simp
                      first | done | with_reducible rfl
                    try simp only [Act.put, List.setIfInBounds_toArray, List.set_cons_zero, List.set_cons_succ]
                    refine wpAnyH_done (by kernel_rfl) ?_ _
                    have HK6 := Lib.hid (HK5.out.fr hHeld)
                    have hwm : IntKind.wrap .i64 ((L : Int) + (p : Int) + 1) = (L : Int) + (p : Int) + 1 := by have := HLEN.out; have := HP.out; simp only [IntKind.wrap_i64]; omega
                    clear hHeld HK5 HC5 HBB
                    go_wp2
                    go_roundw
                    case rel => exact ⟨p + 1, (t : Int), by first | rfl | (push_cast; rfl) | (push_cast; congr 1; omega) | (go_num; done), rfl, Lib.hid ⟨HP.out, by omega, fun y hy => by have := HGT.out y hy; omega⟩, Lib.hid ⟨_, HPO.out, HK6.out⟩⟩
                    case measure =>
                      show L + (R x).length - ((L : Int) + (p : Int) + 1).toNat < L + (R x).length - ((L : Int) + (p : Int)).toNat
                      exact meas_down _ _ _ HP.out
                  · have dl : decide ((0 : Int) < (((R x).length - p : Nat) : Int)) = false := decide_eq_false (by omega)
                    have dl' : decide (0 < (R x).length - p) = false := decide_eq_false (by omega)
                    have hpe : p = (R x).length := by have := HPL.out.1; omega
                    have HNX : Hid (∃ s, Pp R i ns (j + 1) 0 s ∧ KN W0 wr g s (.slice (some ⟨b3, o3, none⟩) nl c3) ns) := Lib.hid ⟨s, hpp.next hjl (by rw [hx]; omega), hkn⟩
                    have HM : Hid (L + p = sumL R (ns.take (j + 1))) := Lib.hid (by rw [sumL_next R ns hjl, hx, ← HL.out, hpe])
                    have hwj := wrap_succ (k := j) (by have := HJ.out; have := HLN.out; omega)
                    clear hpp hkn hjl hx hrow hcell hp hpe HS
                    go_wp2_with fail
                    refine CL.out.mono ?_; rintro e w4 ⟨rfl, rfl⟩
                    clear CL
                    go_wp2
                    go_roundw
                    case rel => exact ⟨j + 1, L + p, rfl, by first | rfl | (push_cast; rfl) | (go_num; done), HJ.out, HM, HNX⟩
                    case measure =>
                      show nl - ((j : Int) + 1).toNat < nl - ((j : Int)).toNat
                      exact meas_up HJ.out
            · have dj : decide ((j : Int) < (nl : Int)) = false := decide_eq_false (by omega)
              have dj' : decide (j < nl) = false := decide_eq_false hlt
              have hjn' : j = nl := by omega
              subst hjn'
              have htk : ns.take j = ns := List.take_of_length_le (by rw [HNL.out]; exact Nat.le_refl _)
              have hsum : m + L = i := by have h1 := HSUM.out; have h2 := HL.out; rw [htk] at h2; rw [h2]; exact h1
              have hz : ∀ y, s.row y = [] := fun y => HPP.out.lo y (by rw [List.drop_of_length_le (by rw [HNL.out]; exact Nat.le_refl _)]; exact List.not_mem_nil)
              have CN := Lib.hid (HKN.out.ki.names (by rw [HPP.out.ps]; have := HN.out; omega))
              have HZ := Lib.hid hz
              have hws : IntKind.wrap .i64 ((m : Int) + (L : Int)) = (i : Int) := by have := HN.out; simp only [IntKind.wrap_i64]; omega
              have hee : ((i : Int) == (i : Int)) = true := by simp
              clear hjn hlt htk hsum hz
              go_wp2_with fail
              refine CN.out.mono ?_; rintro e w7 ⟨v7, ms, rfl, hkn, hno⟩
              have hms : ms = [] := List.eq_nil_iff_forall_not_mem.2 fun y hy => ((hno.2.1 y).1 hy).2 (HZ.out y)
              have HFIN := Lib.hid (HF0.out.trans hkn.ki.old (fun _ _ h => h))
              obtain ⟨A7, c7, hv7⟩ : ∃ A7 c7, v7 = .slice A7 0 c7 := by
                obtain ⟨F, _, _, _, h4, _⟩ := hkn
                rw [hms] at h4
                obtain ⟨A', c', e, _⟩ := Row.form h4
                exact ⟨A', c', e⟩
              subst hv7
              clear hkn hno hms CN
              go_wp2
              go_ret
              exact ⟨rfl, HFIN.out⟩
end Go.Proofs.Ytkinbcmnfpkncaa
