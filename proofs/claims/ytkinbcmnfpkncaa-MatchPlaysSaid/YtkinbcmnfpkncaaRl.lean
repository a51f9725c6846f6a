/- match: DeleteFunc over a row, by the numbers that are out. -/
import Derived.Test.YtkinbcmnfpkncaaRj
namespace Go.Proofs.Ytkinbcmnfpkncaa
open Go.RowKit Go.Maps

theorem run_clearP {w : World} {b off m c : Nat} {cur : Array Value} (hb : Bk w b tP cur) (h0 : 0 < m) (hfit : off + m * 2 ≤ cur.size) :
    ∃ zs : List Value, zs.length = m * 2 ∧ ∀ ty, (Builtin.clear_ #[59] ty #[.slice (some ⟨b, off, none⟩) m c]).run Try.prog w = .ok (.tuple #[]) (w.setCells b off zs) := by
  have hz : (zeroValue 61).run Try.prog w = .ok (.agg #[.int .i64 0, .int .i64 0]) w := by simp [go_sem]
  obtain ⟨k, rfl⟩ : ∃ k, m = k + 1 := ⟨m - 1, by omega⟩
  have hl : (Builtin.zeroCells (Value.agg #[.int .i64 0, .int .i64 0]).cells (k + 1)).toList.length = (k + 1) * 2 := by
    rw [Array.length_toList, size_zeroCells]; rfl
  have h1 : ∀ u ∈ (Builtin.zeroCells (Value.agg #[.int .i64 0, .int .i64 0]).cells (k + 1)).toList, u.oneCell' = true := by
    intro u hu
    simp only [Builtin.zeroCells, Array.toList_map, List.mem_map] at hu
    obtain ⟨i, _, rfl⟩ := hu
    have hi : i % (Value.agg #[.int .i64 0, .int .i64 0]).cells.size < 2 := Nat.mod_lt _ (by decide)
    generalize i % (Value.agg #[.int .i64 0, .int .i64 0]).cells.size = j at hi
    match j, hi with
    | 0, _ => rfl
    | 1, _ => rfl
  refine ⟨_, hl, fun ty => ?_⟩
  have hst := run_storeCells_cells (P := Try.prog) b off _ 0 w (fun j hj => hb.there (by rw [hl] at hj; omega)) (fun j hj => hb.frozen _) h1
  simp only [Nat.add_zero] at hst
  simp [Builtin.clear_, run_underlying Try.underlying59, hz, hst]
/-- The first i tasks, whatever the others have become. -/
theorem Row.frontP {w : World} {b off n c i : Nat} {q : List (Nat × Int)} {zs : List Value} (h : Row w tP 2 (.slice (some ⟨b, off, none⟩) n c) n (pcs IV q)) (hi : i ≤ n) (hq : q.length = n) : Row (w.setCells b (off + i * 2) zs) tP 2 (.slice (some ⟨b, off, none⟩) i c) i (pcs IV (q.take i)) := by
  rcases h.2 with ⟨e, _⟩ | ⟨b', off', cap, cur, e, hb, h1, h2, h3, h4⟩
  · cases e
  injection e with e1 e2 e3
  injection e1 with e1
  injection e1 with e1 e4
  subst e1 e4 e3
  refine ⟨by rw [pcs_len, List.length_take]; omega, .inr ⟨b, off, c, _, rfl, hb.setCells zs _, by omega, h2, by rw [lay_size]; exact h3, fun j hj => ?_⟩⟩
  rw [pcs_len, List.length_take] at hj
  rw [lay_out _ _ _ _ (.inl (by omega)), h4 j (by rw [pcs_len]; omega), pcs_take, List.getElem?_take_of_lt (by omega)]
theorem filter_take_succ {α : Type} (f : α → Bool) (r : List α) (j : Nat) (hj : j < r.length) : (r.take (j + 1)).filter f = (r.take j).filter f ++ if f r[j] = true then [r[j]] else [] := by
  rw [List.take_add_one, List.getElem?_eq_getElem hj, List.filter_append]
  congr 1
  by_cases h : f r[j] = true <;> simp [h]

/-- The row while it is gone through: i kept ones, the others from j on as they were. -/
structure Del (out : List Int) (r q : List (Nat × Int)) (n i j : Nat) : Prop where
  len : q.length = n
  ij : i < j
  jn : j ≤ n
  tk : q.take i = (r.take j).filter (fun p => !isO out p)
  dr : q.drop j = r.drop j
theorem Del.start {out : List Int} {r : List (Nat × Int)} {n k : Nat} (hl : r.length = n) (hk : k < r.length) (ho : isO out (r[k]'hk) = true) (hb : ∀ j (hj : j < r.length), j < k → isO out r[j] = false) : Del out r r n k (k + 1) := by
  refine ⟨hl, by omega, by omega, ?_, rfl⟩
  rw [filter_take_succ _ r k hk, ho]
  simp only [Bool.not_true, Bool.false_eq_true, if_false, List.append_nil]
  refine (List.filter_eq_self.2 fun p hp => ?_).symm
  obtain ⟨j, hj, rfl⟩ := List.mem_iff_getElem.1 hp
  rw [List.length_take] at hj
  rw [List.getElem_take, hb j (by omega) (by omega)]; rfl
theorem Del.at_ {out : List Int} {r q : List (Nat × Int)} {n i j : Nat} (h : Del out r q n i j) (hl : r.length = n) (hj : j < n) : q[j]'(by have := h.len; omega) = r[j]'(by omega) := by
  have h1 := List.drop_eq_getElem_cons (l := q) (i := j) (by have := h.len; omega)
  have h2 := List.drop_eq_getElem_cons (l := r) (i := j) (by omega)
  have h3 := h.dr
  rw [h1, h2] at h3
  injection h3
theorem Del.dropTail {out : List Int} {r q : List (Nat × Int)} {n i j : Nat} (h : Del out r q n i j) (hl : r.length = n) (hj : j < n) : q.drop (j + 1) = r.drop (j + 1) := by
  have := congrArg List.tail h.dr
  rwa [List.tail_drop, List.tail_drop] at this
theorem Del.out_ {out : List Int} {r q : List (Nat × Int)} {n i j : Nat} (h : Del out r q n i j) (hl : r.length = n) (hj : j < n) {p : Nat × Int} (hp : q[j]'(by have := h.len; omega) = p) (ho : isO out p = true) : Del out r q n i (j + 1) := by
  rw [h.at_ hl hj] at hp
  refine ⟨h.len, by have := h.ij; omega, hj, ?_, h.dropTail hl hj⟩
  rw [filter_take_succ _ r j (by omega), hp, ho]
  simpa using h.tk
theorem Del.keep {out : List Int} {r q : List (Nat × Int)} {n i j : Nat} (h : Del out r q n i j) (hl : r.length = n) (hj : j < n) {p : Nat × Int} (hp : q[j]'(by have := h.len; omega) = p) (ho : isO out p = false) : Del out r (q.set i p) n (i + 1) (j + 1) := by
  rw [h.at_ hl hj] at hp
  have hij := h.ij
  have hlen := h.len
  refine ⟨by simp [hlen], by omega, hj, ?_, ?_⟩
  · rw [filter_take_succ _ r j (by omega), hp, ho, ← h.tk, List.take_add_one, List.take_set_of_le (by omega)]
    simp [show i < q.length by omega]
  · rw [List.drop_set_of_lt (by omega), h.dropTail hl hj]
theorem Del.fin {out : List Int} {r q : List (Nat × Int)} {n i : Nat} (h : Del out r q n i n) (hl : r.length = n) : q.take i = r.filter (fun p => !isO out p) := by
  rw [h.tk, List.take_of_length_le (by omega)]

theorem run_fromP (b off n c i : Nat) (hi : i < n) (hnc : n ≤ c) : ∀ w, (Instr.sliceAt 59 (.slice (some ⟨b, off, none⟩) n c) (some (.int .i64 (i : Int))) none none).run Try.prog w = .ok (.slice (some ⟨b, off + i * 2, none⟩) (n - i) (c - i)) w := fun w => by
  have hck : ¬ (c = i) := by omega
  have h1 : (i : Int) ≤ (n : Int) := by omega
  simp [go_sem, Instr.sliceAt, hck, h1]
theorem run_toP (b off n c i : Nat) (hi : i < n) (hnc : n ≤ c) : ∀ w, (Instr.sliceAt 59 (.slice (some ⟨b, off, none⟩) n c) none (some (.int .i64 (i : Int))) none).run Try.prog w = .ok (.slice (some ⟨b, off, none⟩) i c) w := fun w => by
  have hck : ¬ (c = 0) := by omega
  have h1 : (i : Int) ≤ (c : Int) := by omega
  simp [go_sem, Instr.sliceAt, hck, h1]

set_option maxRecDepth 100000 in
set_option maxHeartbeats 4000000 in
theorem delete_I {w : World} {bo : Nat} {ov : Value} {out : List Int} (ha : Ask w bo ov out) {v : Value} {r : List (Nat × Int)} (hrow : Row w tP 2 v r.length (pcs IV r)) (hn : r.length ≤ 1048576) (hbo : v.ownBlock ≠ some bo) (hov : ∀ k, ov.ownBlock = some k → v.ownBlock ≠ some k) :
    Calls Try.prog 32 #[v, DelF bo] w fun e w' => ∃ v', e = .returned v' ∧ Row w' tP 2 v' (r.filter fun p => !isO out p).length (pcs IV (r.filter fun p => !isO out p)) ∧ v'.ownBlock = v.ownBlock ∧ Fr (fun k => v.ownBlock = some k) w w' := by
  obtain ⟨A, c, rfl, hnc, -, hA⟩ := hrow.form
  obtain ⟨n, hln⟩ : ∃ n, r.length = n := ⟨_, rfl⟩
  rw [hln] at hrow hn hnc hA hbo hov ⊢
  have CI := Lib.hid (index_I ha hrow hln hn)
  have HA := Lib.hid hA
  have H := Lib.hid ha
  have HROW := Lib.hid hrow
  have HL := Lib.hid hln
  have HN := Lib.hid hn
  have HNC := Lib.hid hnc
  have HBO := Lib.hid hbo
  have HOV := Lib.hid hov
  clear ha hrow hln hn hnc hA hbo hov
  unfold DelF at *
  go_enter Try.func32, Try.ntmps32
  go_wp2_with fail
  refine CI.out.mono ?_; rintro e w1 ⟨hf1, hh⟩
  have HF1 := Lib.hid hf1
  clear hf1 CI
  rcases hh with ⟨rfl, hall⟩ | ⟨k, hk, rfl, hok, hbk⟩
  · have hfil : r.filter (fun p => !isO out p) = r := List.filter_eq_self.2 fun p hp => by rw [hall p hp]; rfl
    have HFIL := Lib.hid hfil
    clear hall hfil
    go_wp2
    go_ret
    rw [HFIL.out, HL.out]
    exact ⟨_, rfl, HROW.out.fr0 HF1.out, rfl, HF1.out.mono (fun _ _ h => h.elim)⟩
  · have hkn : k < n := by have := HL.out; omega
    obtain ⟨b, off, rfl⟩ := HA.out (by omega)
    have HD0 := Lib.hid (Del.start HL.out hk hok hbk)
    have hk1 : ((k : Int) == -1) = false := by rw [beq_eq_false_iff_ne]; omega
    have hwk := wrap_succ (k := k) (by have := HN.out; omega)
    have HKN := Lib.hid hkn
    clear hok hbk hk hkn
    go_wp2_with fail
    go_loopw [5, 6] (fun u v wr => ∃ (i j : Nat) (q : List (Nat × Int)), u = .int .i64 (i : Int) ∧ v = .int .i64 (j : Int) ∧ j ≤ n ∧ Hid (Del out r q n i j) ∧ Hid (Row wr tP 2 (.slice (some ⟨b, off, none⟩) n c) n (pcs IV q)) ∧ Hid (Fr (fun x => b = x) w wr)) (fun _ v _ => n - (intOf v).toNat)
    case atStart => exact ⟨k, k + 1, r, rfl, by first | rfl | (push_cast; rfl) | (go_num; done), HKN.out, HD0, Lib.hid (HROW.out.fr0 HF1.out), Lib.hid (HF1.out.mono (fun _ _ h => h.elim))⟩
    case round =>
      clear HD0 hk1 hwk HKN
      obtain ⟨i, j, q, rfl, rfl, hjn, HD, HR, HF⟩ := hrel
      by_cases hlt : j < n
      · have di : decide ((j : Int) < (n : Int)) = true := decide_eq_true (by omega)
        have di' : decide (j < n) = true := decide_eq_true hlt
        have j0 : (0 : Int) ≤ (j : Int) := by omega
        have j1 : (j : Int) < (n : Int) := by omega
        have i0 : (0 : Int) ≤ (i : Int) := by omega
        have i1 : (i : Int) < (n : Int) := by have := HD.out.ij; omega
        have hjq : j < q.length := by have := HD.out.len; omega
        have hiq : i < q.length := by have := HD.out.ij; omega
        obtain ⟨p, hp⟩ : ∃ p, q[j] = p := ⟨_, rfl⟩
        obtain ⟨q0, q1, -, -⟩ := HR.out.task hjq hp
        have HJ := Lib.hid hlt
        have hwj := wrap_succ (k := j) (by have := HN.out; omega)
        have hwi := wrap_succ (k := i) (by have := HN.out; omega)
        obtain ⟨W, hW⟩ : ∃ W, wr.alloc (.cells #[.int .i64 p.1, .int .i64 p.2] 61) = W := ⟨_, rfl⟩
        have hfW : Fr (fun _ => False) wr W := by rw [← hW]; exact (Fr.refl _ _).alloc _
        have HFW : Hid (Fr (fun x => b = x) w W) := Lib.hid (HF.out.trans hfW (fun _ _ h => h.elim))
        have HRW : Hid (Row W tP 2 (.slice (some ⟨b, off, none⟩) n c) n (pcs IV q)) := Lib.hid (HR.out.fr0 hfW)
        have hne : ¬ b = bo := fun e => HBO.out (by rw [e]; rfl)
        have CA := Lib.hid ((H.out.fr HFW.out hne (fun k hk e => HOV.out k hk (by rw [e]; rfl))).call p)
        have HBW : Hid (Bk W wr.heap.size 61 #[.int .i64 p.1, .int .i64 p.2]) := Lib.hid (by rw [← hW]; exact Bk.new _ _ _)
        have HBL : Hid (b < wr.heap.size) := Lib.hid (HR.out.lt (g := b) rfl)
        obtain ⟨gw, hgw⟩ : ∃ gw, wr.heap.size = gw := ⟨_, rfl⟩
        rw [hgw] at HBW HBL
        have m0 := HBW.out.cell 0
        have m1 := HBW.out.cell 1
        simp only [List.getElem?_toArray, List.getElem?_cons_zero, List.getElem?_cons_succ] at m0 m1
        cases hd : isO out p
        · have HDK := Lib.hid (HD.out.keep HL.out hlt hp hd)
          rw [hd] at CA
          have HIQ := Lib.hid hiq
          clear hd hlt hjn hjq hiq hp hfW hne HD HR HF
          obtain ⟨x, hx⟩ : ∃ x : Int, (p.1 : Int) = x := ⟨_, rfl⟩
          obtain ⟨y, hy⟩ : ∃ y : Int, p.2 = y := ⟨_, rfl⟩
          rw [hx, hy] at CA HBW
          rw [hx] at q0 m0
          rw [hy] at q1 m1
          rw [hx, hy] at hW
          go_wp2_with fail
          clear hW hgw
          refine CA.out.mono ?_; rintro e w3 ⟨rfl, hf3⟩
          have HR3 := Lib.hid (HRW.out.fr0 hf3)
          have HF3 := Lib.hid (HFW.out.trans hf3 (fun _ _ h => h.elim))
          have m0 : w3.cell? ⟨gw, 0, none⟩ = some (.int .i64 x) := (HBW.out.fr hf3 (fun h => h)).cell 0
          have m1 : w3.cell? ⟨gw, 1, none⟩ = some (.int .i64 y) := (HBW.out.fr hf3 (fun h => h)).cell 1
          obtain ⟨r0, r1, z0, z1⟩ := HR3.out.task HIQ.out rfl
          have hlay := HR3.out.lays HIQ.out p
          rw [hx, hy] at hlay
          have HLAY := Lib.hid hlay
          have HFF : Hid (Fr (fun x => b = x) w ((w3.setCell ⟨b, off + i * 2, none⟩ (.int .i64 x)).setCell ⟨b, off + i * 2 + 1, none⟩ (.int .i64 y))) := Lib.hid (Fr.setCell (S := fun x => b = x) (p := ⟨b, off + i * 2 + 1, none⟩) (Fr.setCell (S := fun x => b = x) (p := ⟨b, off + i * 2, none⟩) HF3.out (fun _ => rfl) _) (fun _ => rfl) _)
          clear hlay hf3 CA HBW HFW HRW q0 q1 HR3 HF3 di di'
          go_wp2
          go_roundw
          case rel => exact ⟨i + 1, j + 1, _, by first | rfl | (push_cast; rfl) | (go_num; done), by first | rfl | (push_cast; rfl) | (go_num; done), HJ.out, HDK, HLAY, HFF⟩
          case measure =>
            show n - ((j : Int) + 1).toNat < n - ((j : Int)).toNat
            exact meas_up HJ.out
        · have HDK := Lib.hid (HD.out.out_ HL.out hlt hp hd)
          rw [hd] at CA
          clear hd hlt hjn hjq hiq hp hfW hne HD HR HF
          obtain ⟨x, hx⟩ : ∃ x : Int, (p.1 : Int) = x := ⟨_, rfl⟩
          obtain ⟨y, hy⟩ : ∃ y : Int, p.2 = y := ⟨_, rfl⟩
          rw [hx, hy] at CA HBW
          rw [hx] at q0 m0
          rw [hy] at q1 m1
          rw [hx, hy] at hW
          go_wp2_with fail
          clear hW hgw
          refine CA.out.mono ?_; rintro e w3 ⟨rfl, hf3⟩
          have HR3 := Lib.hid (HRW.out.fr0 hf3)
          have HF3 := Lib.hid (HFW.out.trans hf3 (fun _ _ h => h.elim))
          clear hf3 CA HBW HFW HRW q0 q1 di di' m0 m1
          go_wp2
          go_roundw
          case rel => exact ⟨i, j + 1, _, rfl, by first | rfl | (push_cast; rfl) | (go_num; done), HJ.out, HDK, HR3, HF3⟩
          case measure =>
            show n - ((j : Int) + 1).toNat < n - ((j : Int)).toNat
            exact meas_up HJ.out
      · have di : decide ((j : Int) < (n : Int)) = false := decide_eq_false (by omega)
        have di' : decide (j < n) = false := decide_eq_false hlt
        obtain rfl : j = n := by omega
        have hij := HD.out.ij
        obtain ⟨cur, hbk⟩ := HR.out.bk (g := b) rfl
        have hfit : off + i * 2 + (j - i) * 2 ≤ cur.size := by
          rcases HR.out.2 with ⟨e, _⟩ | ⟨b', off', cap, cur', e, hb', h1, h2, h3, h4⟩
          · cases e
          injection e with e1 e2 e3
          injection e1 with e1
          injection e1 with e1 e4
          subst e1 e4 e3
          have hcc : cur' = cur := by unfold Bk at hbk hb'; rw [hbk] at hb'; injection hb' with hb'; injection hb' with hb'; exact hb'.symm
          subst hcc
          omega
        obtain ⟨zs, hz1, hz2⟩ := run_clearP (w := wr) (b := b) (off := off + i * 2) (m := j - i) (c := c - i) hbk (by omega) hfit
        have hs1 := run_fromP b off j c i hij HNC.out
        have hs2 := run_toP b off j c i hij HNC.out
        have hfr := HR.out.frontP (i := i) (zs := zs) (by omega) HD.out.len
        rw [HD.out.fin HL.out] at hfr
        have hlen : (r.filter fun p => !isO out p).length = i := by
          rw [← HD.out.fin HL.out, List.length_take]; have := HD.out.len; omega
        have HFR := Lib.hid hfr
        have HLEN := Lib.hid hlen
        have HFS : Hid (Fr (fun x => (Value.slice (some ⟨b, off, none⟩) j c).ownBlock = some x) w (wr.setCells b (off + i * 2) zs)) := Lib.hid ((Fr.setCells (S := fun x => b = x) zs _ HF.out (fun _ => rfl)).mono (fun x _ e => by rw [← e]; rfl))
        clear hlt hjn hij hbk hfit hz1 hfr hlen HD HR HF
        go_wp2
        go_ret
        exact ⟨_, rfl, by rw [HLEN.out]; exact HFR.out, rfl, HFS.out⟩
end Go.Proofs.Ytkinbcmnfpkncaa
