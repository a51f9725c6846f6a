/- The log's Match, Newer; rise; bytes.Clone; copies. -/
import Derived.Test.YtainkckcipdknaaQc
import Derived.Test.YtainkckcipdknaaNz
import Derived.Deep.RegionWith
import Derived.Handy
namespace Go.Proofs.Ytainkckcipdknaa
open Go.RowKit

set_option maxRecDepth 100000 in
set_option maxHeartbeats 4000000 in
theorem lgMatch {w : World} {g : Nat} {s : LG} {F : Nat → Prop} (h : Lg 65 51 w g s F) (i t : Int) (i0 : -9223372036854775808 ≤ i) (i1 : i ≤ 9223372036854775807) :
    Calls Try.prog 17 #[.pointer (some ⟨g, 0, none⟩), .int .i64 i, .int .i64 t] w fun e w' => e = .returned (.bool (s.mat i t)) ∧ Fr (fun _ => False) w w' := by
  have CT := Lib.hid (lgTerm h i i0 i1)
  clear h
  obtain ⟨q1, d1⟩ : ∃ q, s.is i = q := ⟨_, rfl⟩
  obtain ⟨q2, d2⟩ : ∃ q, (s.term i == t) = q := ⟨_, rfl⟩
  have HR : Hid (s.mat i t = (q1 && q2)) := Lib.hid (by unfold LG.mat; rw [d1, ← d2]; congr 1)
  rw [d1] at CT
  clear d1
  generalize s.term i = tt at *
  cases q1 with
  | false =>
    go_enter Try.func17, Try.ntmps17
    go_wp2_with fail
    refine CT.out.mono ?_; rintro e w1 ⟨rfl, hf1⟩
    go_wp2
    go_ret
    rw [HR.out]
    exact ⟨rfl, hf1⟩
  | true =>
    go_enter Try.func17, Try.ntmps17
    go_wp2_with fail
    refine CT.out.mono ?_; rintro e w1 ⟨rfl, hf1⟩
    go_wp2
    go_ret
    rw [HR.out]
    exact ⟨rfl, hf1⟩

set_option maxRecDepth 100000 in
set_option maxHeartbeats 4000000 in
theorem lgNewer {w : World} {g : Nat} {s : LG} {F : Nat → Prop} (h : Lg 65 51 w g s F) (i t : Int) :
    Calls Try.prog 26 #[.pointer (some ⟨g, 0, none⟩), .int .i64 i, .int .i64 t] w fun e w' => e = .returned (.bool (s.newer i t)) ∧ Fr (fun _ => False) w w' := by
  have CT := Lib.hid (lgLast h)
  clear h
  obtain ⟨li, hli⟩ : ∃ x, s.lastI = x := ⟨_, rfl⟩
  obtain ⟨lt, hlt⟩ : ∃ x, s.lastT = x := ⟨_, rfl⟩
  have HR : Hid (s.newer i t = (decide (lt < t) || (decide (t = lt) && decide (li ≤ i)))) := Lib.hid (by unfold LG.newer; rw [hli, hlt])
  rw [hli, hlt] at CT
  clear hli hlt
  rcases Int.lt_trichotomy lt t with h1 | h1 | h1
  · go_enter Try.func26, Try.ntmps26
    go_wp2_with fail
    refine CT.out.mono ?_; rintro e w1 ⟨rfl, hf1⟩
    go_wp2
    go_ret
    rw [HR.out]
    exact ⟨by simp [h1], hf1⟩
  · subst h1
    obtain ⟨q, hq⟩ : ∃ q, decide (li ≤ i) = q := ⟨_, rfl⟩
    go_enter Try.func26, Try.ntmps26
    go_wp2_with fail
    refine CT.out.mono ?_; rintro e w1 ⟨rfl, hf1⟩
    go_wp2
    go_ret
    rw [HR.out, hq]
    exact ⟨by simp, hf1⟩
  · have d1 : decide (lt < t) = false := decide_eq_false (by omega)
    have d2 : (t == lt) = false := by rw [beq_eq_false_iff_ne]; omega
    go_enter Try.func26, Try.ntmps26
    go_wp2_with fail
    refine CT.out.mono ?_; rintro e w1 ⟨rfl, hf1⟩
    go_wp2
    go_ret
    rw [HR.out, d1, decide_eq_false (show ¬ (t = lt) by omega)]
    exact ⟨rfl, hf1⟩

theorem riseL_at {m : Int} {l : List En} {k : Nat} (h : k < l.length) : riseL m (l.drop k) = (decide (m ≤ (l.getD k default).t) && riseL (l.getD k default).t (l.drop (k + 1))) := by
  rw [drop_getD h]; rfl
set_option maxRecDepth 100000 in
set_option maxHeartbeats 4000000 in
theorem rise_any (t : Int) (A : Option Addr) (n c : Nat) (ps : List EL) (F : Nat → Prop) (w : World) (h : Es w A n ps F) (hF : ∀ k, F k → k < w.heap.size) (hn : (n : Int) ≤ 4611686018427387904) :
    Calls Try.prog 28 #[.int .i64 t, .slice A n c] w fun e w' => e = .returned (.bool (rise t (ps.map EL.e))) ∧ Fr (fun _ => False) w w' := by
  have H := Lib.hid h
  have hl := h.len
  have HL := Lib.hid hl
  obtain ⟨m0, hm0⟩ : ∃ m, max t 1 = m := ⟨_, rfl⟩
  have HM : Hid (rise t (ps.map EL.e) = riseL m0 (ps.map EL.e)) := Lib.hid (by unfold rise; rw [hm0])
  obtain ⟨es, hes⟩ : ∃ es, ps.map EL.e = es := ⟨_, rfl⟩
  have HE := Lib.hid hes
  have HEL : Hid (es.length = n) := Lib.hid (by rw [← hes, List.length_map, hl])
  rw [hes] at HM ⊢
  have HN := Lib.hid hn
  clear h hl hes hF
  by_cases ht : 1 ≤ t
  · have hm1 : t = m0 := by omega
    subst hm1
    clear hm0
    go_enter Try.func28, Try.ntmps28
    go_wp2_with fail
    go_loopw [12, 5] (fun u v wr => ∃ (k : Nat) (m : Int), u = .int .i64 (k : Int) ∧ v = .int .i64 m ∧ k ≤ n ∧ riseL m (es.drop k) = riseL t es ∧ Fr (fun _ => False) w wr) (fun u _ _ => n - (intOf u).toNat)
    case atStart => exact ⟨0, _, rfl, rfl, Nat.zero_le _, rfl, Fr.refl _ _⟩
    case round =>
      obtain ⟨k, m, rfl, rfl, hk, hr, hf⟩ := hrel
      have HR := Lib.hid hr
      have HF := Lib.hid hf
      have hk0 : (0 : Int) ≤ (k : Int) := by omega
      clear hr hf
      by_cases hlt : k < n
      · have hlt' : (k : Int) < n := by omega
        obtain ⟨b, off, rfl, e0, e1, he⟩ := (H.out.fr0 HF.out).at hlt
        have HX : Hid ((es.getD k default).t = (ps.getD k default).e.t) := Lib.hid (by rw [← HE.out, getD_map EL.e (by rw [HL.out]; exact hlt)])
        have HRA := Lib.hid (riseL_at (m := m) (l := es) (k := k) (by rw [HEL.out]; exact hlt))
        have hok := he.ok
        unfold EL.ok at hok
        obtain ⟨o1, o2, _⟩ := hok
        have HBV : Hid (∃ A2 n2 c2, (ps.getD k default).bv = .slice A2 n2 c2) := Lib.hid ⟨_, _, _, rfl⟩
        generalize (ps.getD k default).bv = bv at *
        obtain ⟨A2, n2, c2, rfl⟩ := HBV.out
        generalize (ps.getD k default).e.t = x at *
        clear he HBV
        by_cases hx : x < m
        · go_wp2
          go_ret
          refine ⟨?_, HF.out.alloc _⟩
          rw [HM.out, ← HR.out, HRA.out, HX.out, decide_eq_false (by omega)]
          rfl
        · have d0 : decide (x < m) = false := decide_eq_false hx
          go_wp2
          refine ⟨⟨k + 1, x, by simp, rfl, by omega, ?_, HF.out.alloc _⟩, ?_⟩
          · rw [← HR.out, HRA.out, HX.out, decide_eq_true (by omega)]
            rfl
          · first | omega | (show _ < _; simp [intOf]; omega)
      · obtain rfl : k = n := by omega
        go_wp2
        go_ret
        refine ⟨?_, HF.out⟩
        rw [HM.out, ← HR.out, List.drop_of_length_le (by rw [HEL.out]; exact Nat.le_refl _)]
        rfl
  · have hm1 : 1 = m0 := by omega
    subst hm1
    clear hm0
    go_enter Try.func28, Try.ntmps28
    go_wp2_with fail
    go_loopw [12, 5] (fun u v wr => ∃ (k : Nat) (m : Int), u = .int .i64 (k : Int) ∧ v = .int .i64 m ∧ k ≤ n ∧ riseL m (es.drop k) = riseL 1 es ∧ Fr (fun _ => False) w wr) (fun u _ _ => n - (intOf u).toNat)
    case atStart => exact ⟨0, _, rfl, rfl, Nat.zero_le _, rfl, Fr.refl _ _⟩
    case round =>
      obtain ⟨k, m, rfl, rfl, hk, hr, hf⟩ := hrel
      have HR := Lib.hid hr
      have HF := Lib.hid hf
      have hk0 : (0 : Int) ≤ (k : Int) := by omega
      clear hr hf
      by_cases hlt : k < n
      · have hlt' : (k : Int) < n := by omega
        obtain ⟨b, off, rfl, e0, e1, he⟩ := (H.out.fr0 HF.out).at hlt
        have HX : Hid ((es.getD k default).t = (ps.getD k default).e.t) := Lib.hid (by rw [← HE.out, getD_map EL.e (by rw [HL.out]; exact hlt)])
        have HRA := Lib.hid (riseL_at (m := m) (l := es) (k := k) (by rw [HEL.out]; exact hlt))
        have hok := he.ok
        unfold EL.ok at hok
        obtain ⟨o1, o2, _⟩ := hok
        have HBV : Hid (∃ A2 n2 c2, (ps.getD k default).bv = .slice A2 n2 c2) := Lib.hid ⟨_, _, _, rfl⟩
        generalize (ps.getD k default).bv = bv at *
        obtain ⟨A2, n2, c2, rfl⟩ := HBV.out
        generalize (ps.getD k default).e.t = x at *
        clear he HBV
        by_cases hx : x < m
        · go_wp2
          go_ret
          refine ⟨?_, HF.out.alloc _⟩
          rw [HM.out, ← HR.out, HRA.out, HX.out, decide_eq_false (by omega)]
          rfl
        · have d0 : decide (x < m) = false := decide_eq_false hx
          go_wp2
          refine ⟨⟨k + 1, x, by simp, rfl, by omega, ?_, HF.out.alloc _⟩, ?_⟩
          · rw [← HR.out, HRA.out, HX.out, decide_eq_true (by omega)]
            rfl
          · first | omega | (show _ < _; simp [intOf]; omega)
      · obtain rfl : k = n := by omega
        go_wp2
        go_ret
        refine ⟨?_, HF.out⟩
        rw [HM.out, ← HR.out, List.drop_of_length_le (by rw [HEL.out]; exact Nat.le_refl _)]
        rfl

set_option maxRecDepth 100000 in
set_option maxHeartbeats 2000000 in
theorem clone_any (A : Option Addr) (n c : Nat) (xs : List UInt8) (w : World) (hr : Rd8 w A xs) (hn : xs.length = n) (hb : n ≤ 140737488355328) :
    Calls Try.prog 46 #[.slice A n c] w fun e w' => ∃ A' c', e = .returned (.slice A' n c') ∧ Own8 w' 5 (.slice A' n c') xs ∧ Fresh w w' (.slice A' n c') := by
  rcases A with _ | ad
  · have h0 : xs = [] := by
      rcases Nat.eq_zero_or_pos xs.length with h0 | h0
      · exact List.eq_nil_of_length_eq_zero h0
      · obtain ⟨ad, h, _⟩ := hr h0; cases h
    subst h0
    simp at hn
    subst hn
    have hq := fun W => Lib.run_eql_slice_nil (P := Try.prog) W 49 5 none 0 c 0 0 Try.underlying49
    go_enter Try.func46, Try.ntmps46
    go_wp2
    go_ret
    exact ⟨none, 0, rfl, Own8.nil _ _, Fresh.nil _ _ (Fr.refl _ _)⟩
  · have hq := fun W => Lib.run_eql_slice_nil (P := Try.prog) W 49 5 (some ad) n c 0 0 Try.underlying49
    go_enter Try.func46, Try.ntmps46
    have hf0 : Fr (fun _ => False) w (w.alloc (.cells #[] 5)) := (Fr.refl _ _).alloc _
    go_wp2_with (at_builtin; (refine wpList_append8s _ rfl (.tmp 5) (.tmp 6) Try.t8n rfl _ [] rfl (Own8.fresh w _ #[] 0 rfl (by decide)) (some ad) n c xs rfl hn (hr.fr hf0 (fun _ _ _ h => h)) (by simp; omega) ?_; intro A1 c1 w1 ho1 hf1 hm1))
    go_ret
    simp only [List.length_nil, Nat.zero_add, List.nil_append, hn] at ho1 hm1 ⊢
    exact ⟨A1, c1, rfl, ho1, (Fresh.new w _ 0 0).step hf1 hm1⟩

/-- The copy of an entry: its bytes are elsewhere. -/
def EL.at (p : EL) (A : Option Addr) (c : Nat) : EL := ⟨p.e, A, c⟩
/-- The copies under way: k of them lie at the head of block b. -/
structure Cop (w wr : World) (b n : Nat) (es : List En) (k : Nat) (qs : List EL) : Prop where
  len : qs.length = k
  es : qs.map EL.e = es.take k
  fr : Fr (fun _ => False) w wr
  nb : w.heap.size ≤ b
  row : ∃ cur, Bk wr b 51 cur ∧ cur.size = n * 2 ∧ ∀ j, j < k * 2 → cur[j]? = (elc qs)[j]?
  each : ∀ q ∈ qs, OwE wr q ∧ ∀ x, q.bv.ownBlock = some x → w.heap.size ≤ x
theorem Cop.two {w wr : World} {b n k : Nat} {es : List En} {qs : List EL} (h : Cop w wr b n es k qs) (hk : k < n) :
    (∃ v0 v1, wr.cell? ⟨b, k * 2, none⟩ = some v0 ∧ wr.cell? ⟨b, k * 2 + 1, none⟩ = some v1) ∧ wr.frozen? ⟨b, k * 2, none⟩ = false ∧ wr.frozen? ⟨b, k * 2 + 1, none⟩ = false := by
  obtain ⟨cur, hb, hs, _⟩ := h.row
  obtain ⟨v0, s0⟩ := Option.isSome_iff_exists.1 (hb.there (i := k * 2) (by omega))
  obtain ⟨v1, s1⟩ := Option.isSome_iff_exists.1 (hb.there (i := k * 2 + 1) (by omega))
  exact ⟨⟨v0, v1, s0, s1⟩, hb.frozen _, hb.frozen _⟩
theorem Cop.fr0 {w wr w' : World} {b n k : Nat} {es : List En} {qs : List EL} (h : Cop w wr b n es k qs) (hf : Fr (fun _ => False) wr w') : Cop w w' b n es k qs := by
  obtain ⟨h1, h2, h3, h4, ⟨cur, hb, hs, hc⟩, h6⟩ := h
  exact ⟨h1, h2, h3.trans hf (fun _ _ h => h), h4, ⟨cur, hb.fr hf (fun h => h), hs, hc⟩, fun q hq => ⟨(h6 q hq).1.fr hf (fun _ _ h => h), (h6 q hq).2⟩⟩
theorem Cop.put {w wr : World} {b n k : Nat} {es : List En} {qs : List EL} (h : Cop w wr b n es k qs) (hk : k < n) (hn : es.length = n) {q : EL} (hq : q.e = es.getD k default) (ho : OwE wr q) (hx : ∀ x, q.bv.ownBlock = some x → w.heap.size ≤ x) :
    Cop w ((wr.setCell ⟨b, k * 2, none⟩ (.int .i64 q.e.t)).setCell ⟨b, k * 2 + 1, none⟩ q.bv) b n es (k + 1) (qs ++ [q]) := by
  obtain ⟨h1, h2, h3, h4, ⟨cur, hb, hs, hc⟩, h6⟩ := h
  have hf : Fr (fun x => x = b) wr ((wr.setCell ⟨b, k * 2, none⟩ (.int .i64 q.e.t)).setCell ⟨b, k * 2 + 1, none⟩ q.bv) :=
    Fr.setCell (S := fun x => x = b) (p := ⟨b, k * 2 + 1, none⟩) (Fr.setCell (S := fun x => x = b) (p := ⟨b, k * 2, none⟩) (Fr.refl _ _) (fun _ => rfl) _) (fun _ => rfl) _
  have ne : ∀ p : EL, OwE wr p → ∀ x, p.bv.ownBlock = some x → ¬ x = b := fun p hp x e1 e2 => by
    subst e2
    exact hp.own.ne hb (by decide) e1
  have hl : (elc qs).length = k * 2 := by rw [elc_len, h1]
  refine ⟨by simp [h1], ?_, ?_, h4, ⟨lay cur (k * 2) q.cells, (hb.set _ _).set _ _, by rw [lay_size]; exact hs, fun j hj => ?_⟩, fun p hp => ?_⟩
  · rw [List.map_append, h2, take_succ_getD (by omega), List.map_cons, List.map_nil, hq]
  · refine h3.trans (T := fun x => x = b) hf (fun x hx e => ?_)
    subst e; exact absurd hx (by omega)
  · rw [elc_app]
    have e2 : elc [q] = q.cells := by simp [elc]
    have e3 : q.cells.length = 2 := rfl
    rw [e2]
    by_cases hj0 : j < k * 2
    · rw [lay_out _ _ _ _ (.inl (by omega)), hc j hj0, List.getElem?_append_left (by omega)]
    · rw [List.getElem?_append_right (by omega), hl, show j = k * 2 + (j - k * 2) by omega, lay_in _ _ _ _ (by omega) (by omega)]
      congr 1; omega
  · rcases List.mem_append.1 hp with hp | hp
    · exact ⟨(h6 p hp).1.fr hf (ne p (h6 p hp).1), (h6 p hp).2⟩
    · simp at hp; subst hp
      exact ⟨ho.fr hf (ne p ho), hx⟩
theorem Try.makeE (n : Nat) (hn : n ≤ 5000000000000) : ∃ cur : Array Value, cur.size = n * 2 ∧ ∀ w : World,
    (Instr.makeSlice 22 (.int .i64 (n : Int)) (.int .i64 (n : Int))).run Try.prog w = .ok (.slice (some ⟨w.heap.size, 0, none⟩) n n) (w.alloc (.cells cur 51)) := by
  obtain ⟨i, hi, hz, hsz, hby⟩ := info_parts Try.teE.info
  refine ⟨madeCells (Value.agg #[.int .i64 0, .slice none 0 0]).cells (n * i.size), by simp [madeCells, hsz], fun w => ?_⟩
  have h1 := run_make (P := Try.prog) w 22 51 i _ Try.teE.sl hi hz .i64 .i64 (n : Int) (n : Int) (by omega) (Int.le_refl _) (by rw [hby]; omega) (by omega)
  simpa using h1

set_option maxRecDepth 100000 in
set_option maxHeartbeats 4000000 in
theorem copies_any (A : Option Addr) (n c : Nat) (ps : List EL) (F : Nat → Prop) (w : World) (h : Es w A n ps F) (hF : ∀ k, F k → k < w.heap.size) (hn : n ≤ 5000000000000) :
    Calls Try.prog 29 #[.slice A n c] w fun e w' => ∃ v qs, e = .returned v ∧ NewE w w' 51 v qs ∧ qs.map EL.e = ps.map EL.e := by
  have hl := h.len
  by_cases h0 : n = 0
  · subst h0
    obtain rfl : ps = [] := List.eq_nil_of_length_eq_zero hl
    go_enter Try.func29, Try.ntmps29
    go_wp2
    go_ret
    exact ⟨_, [], rfl, ⟨OwnE.nil _ _, Fr.refl _ _, fun k hk => by rcases hk with e | ⟨p, hp, _⟩; (simp [Value.ownBlock] at e); cases hp⟩, rfl⟩
  · have H := Lib.hid h
    have HL := Lib.hid hl
    obtain ⟨es, hes⟩ : ∃ es, ps.map EL.e = es := ⟨_, rfl⟩
    have HE := Lib.hid hes
    have HEL : Hid (es.length = n) := Lib.hid (by rw [← hes, List.length_map, hl])
    rw [hes]
    obtain ⟨cur0, hc0, hmk⟩ := Try.makeE n (by omega)
    have hnI : (n : Int) ≤ 5000000000000 := by omega
    have d0 : ((n : Int) == 0) = false := by rw [beq_eq_false_iff_ne]; omega
    have hn0 : 0 < n := by omega
    obtain ⟨W, hW⟩ : ∃ W, w.alloc (.cells cur0 51) = W := ⟨_, rfl⟩
    obtain ⟨b, hb⟩ : ∃ b, w.heap.size = b := ⟨_, rfl⟩
    have HC0 : Hid (Cop w W b n es 0 []) := Lib.hid (by
      rw [← hW, ← hb]
      exact ⟨rfl, by simp, (Fr.refl _ _).alloc _, Nat.le_refl _, ⟨cur0, Bk.new _ _ _, hc0, fun j hj => by omega⟩, fun q hq => by cases hq⟩)
    have HWF : Hid (Fr (fun _ => False) w W) := Lib.hid (by rw [← hW]; exact (Fr.refl _ _).alloc _)
    clear h hl hes hF hc0 h0
    go_enter Try.func29, Try.ntmps29
    go_wp2_with fail
    clear hW hb hmk
    go_loopw [14] (fun u wr => ∃ k : Nat, u = .int .i64 (k : Int) ∧ k ≤ n ∧ ∃ qs, Cop w wr b n es k qs) (fun u _ => n - (intOf u).toNat)
    case atStart => exact ⟨0, rfl, Nat.zero_le _, [], HC0.out⟩
    case round =>
      obtain ⟨k, rfl, hk, qs, hcop⟩ := hrel
      have HCOP0 := Lib.hid hcop
      have hk0 : (0 : Int) ≤ (k : Int) := by omega
      clear hcop HC0
      by_cases hlt : k < n
      · have hlt' : (k : Int) < n := by omega
        obtain ⟨ba, off, rfl, e0, e1, he⟩ := (H.out.fr0 HCOP0.out.fr).at hlt
        obtain ⟨p, hp⟩ : ∃ p, ps.getD k default = p := ⟨_, rfl⟩
        rw [hp] at e0 e1 he
        have HPE : Hid (p.e = es.getD k default) := Lib.hid (by rw [← HE.out, getD_map EL.e (by rw [HL.out]; exact hlt), hp])
        have HOK : Hid p.ok := Lib.hid he.ok
        have HRD := Lib.hid he.rd
        have hd2 : p.e.d.length ≤ 140737488355328 := by have := he.ok.2.2; omega
        unfold EL.bv at e1
        clear he hp
        obtain ⟨W1, hW1⟩ : ∃ W1, wr.alloc (.cells #[.int .i64 p.e.t, .slice p.A p.e.d.length p.c] 51) = W1 := ⟨_, rfl⟩
        obtain ⟨eb, heb⟩ : ∃ eb, wr.heap.size = eb := ⟨_, rfl⟩
        have HW1 : Hid (Fr (fun _ => False) wr W1) := Lib.hid (by rw [← hW1]; exact (Fr.refl _ _).alloc _)
        have HB1 : Hid (∀ w', Fr (fun _ => False) W1 w' → w'.cell? ⟨eb, 0, none⟩ = some (.int .i64 p.e.t) ∧ w'.cell? ⟨eb, 1, none⟩ = some (.slice p.A p.e.d.length p.c)) := Lib.hid (fun w' hf => by
          have hb := (Bk.new wr 51 #[.int .i64 p.e.t, .slice p.A p.e.d.length p.c])
          rw [hW1, heb] at hb
          have := hb.fr hf (fun h => h)
          exact ⟨this.cell 0, this.cell 1⟩)
        have HCOP := Lib.hid (HCOP0.out.fr0 HW1.out)
        have CC := Lib.hid (fun w' (hf : Fr (fun _ => False) W1 w') => clone_any p.A p.e.d.length p.c p.e.d w' ((HRD.out.fr HW1.out (fun _ _ _ h => h)).fr hf (fun _ _ _ h => h)) rfl hd2)
        go_wp2_with fail
        clear hW1 heb e0 e1
        refine wp_region_Z [9] (fun w' => Fr (fun _ => False) W1 w') (by kernel_rfl) ((Fr.refl _ _).drew) (fun hHeld => ?_)
        refine anyZ_pure (i := 0) (v := ?_) (some 19) rfl rfl (by kernel_rfl) (by kernel_rfl) (by kernel_rfl) (by kernel_rfl) (fun _ _ _ h => h) (Or.inl ⟨by rfl, ?_⟩) (fun _ => hHeld) ?_
        rotate_left
        · intro w' _
          go_simp
          first | done | with_reducible rfl
        try simp only [Go.Act.put, List.setIfInBounds_toArray, List.set_cons_zero, List.set_cons_succ]
        refine anyZ_pure (i := 1) (v := ?_) (some 20) rfl rfl (by kernel_rfl) (by kernel_rfl) (by kernel_rfl) (by kernel_rfl) (fun _ _ _ h => h) (Or.inl ⟨by rfl, ?_⟩) (fun _ => hHeld) ?_
        rotate_left
        · intro w' _
          go_simp
          first | done | with_reducible rfl
        try simp only [Go.Act.put, List.setIfInBounds_toArray, List.set_cons_zero, List.set_cons_succ]
        refine anyZ_pure (i := 2) (v := ?_) (some 21) rfl rfl (by kernel_rfl) (by kernel_rfl) (by kernel_rfl) (by kernel_rfl) (fun _ _ _ h => h) (Or.inl ⟨by rfl, ?_⟩) (fun _ => hHeld) ?_
        rotate_left
        · intro w' _
          go_simp
          first | done | with_reducible rfl
        try simp only [Go.Act.put, List.setIfInBounds_toArray, List.set_cons_zero, List.set_cons_succ]
        refine anyZ_read (i := 3) (v := ?_) (some 22) [7, 8, 9] rfl rfl (by kernel_rfl) (by kernel_rfl) (by kernel_rfl) (by kernel_rfl) (by kernel_rfl) (by kernel_rfl) (fun _ _ _ h => h) (Or.inl ⟨by rfl, ?_⟩) hHeld ?_
        rotate_left
        · intro w' hSw
          obtain ⟨m0, m1⟩ := HB1.out w' hSw
          go_simp
          first | done | with_reducible rfl
        try simp only [Go.Act.put, List.setIfInBounds_toArray, List.set_cons_zero, List.set_cons_succ]
        refine anyZ_pure (i := 4) (v := ?_) (some 23) rfl rfl (by kernel_rfl) (by kernel_rfl) (by kernel_rfl) (by kernel_rfl) (fun _ _ _ h => h) (Or.inl ⟨by rfl, ?_⟩) (fun _ => hHeld) ?_
        rotate_left
        · intro w' _
          go_simp
          first | done | with_reducible rfl
        try simp only [Go.Act.put, List.setIfInBounds_toArray, List.set_cons_zero, List.set_cons_succ]
        refine anyZ_read (i := 5) (v := ?_) (some 24) [6, 7, 8, 9] rfl rfl (by kernel_rfl) (by kernel_rfl) (by kernel_rfl) (by kernel_rfl) (by kernel_rfl) (by kernel_rfl) (fun _ _ _ h => h) (Or.inl ⟨by rfl, ?_⟩) hHeld ?_
        rotate_left
        · intro w' hSw
          obtain ⟨m0, m1⟩ := HB1.out w' hSw
          go_simp
          first | done | with_reducible rfl
        try simp only [Go.Act.put, List.setIfInBounds_toArray, List.set_cons_zero, List.set_cons_succ]
        refine anyZ_ready (rs := [6]) (by kernel_rfl) (by simp) ?_
        refine AllZ.step rfl (fun K hK => ?_) AllZ.nil
        go_simp
        refine (CC.out _ hHeld).mono ?_; rintro e v1 ⟨A1, c1, rfl, ho1, hf1⟩
        try go_simp
        refine hK.out _ _ (hHeld.trans hf1.1 (fun _ _ h => h)) (fun hHeld => ?_)
        clear hK K
        try change anyZ _ _ _ _ _ _ _ _ (Go.Act.put _ (some 25) _) _
        try simp only [Go.Act.put, List.setIfInBounds_toArray, List.set_cons_zero, List.set_cons_succ]
        refine anyZ_pure (i := 7) (v := ?_) (some 26) rfl rfl (by kernel_rfl) (by kernel_rfl) (by kernel_rfl) (by kernel_rfl) (fun _ _ _ h => h) (Or.inl ⟨by rfl, ?_⟩) (fun _ => hHeld) ?_
        rotate_left
        · intro w' _
          go_simp
          first | done | with_reducible rfl
        try simp only [Go.Act.put, List.setIfInBounds_toArray, List.set_cons_zero, List.set_cons_succ]
        refine anyZ_pure (i := 8) (v := ?_) (some 27) rfl rfl (by kernel_rfl) (by kernel_rfl) (by kernel_rfl) (by kernel_rfl) (fun _ _ _ h => h) (Or.inl ⟨by rfl, ?_⟩) (fun _ => hHeld) ?_
        rotate_left
        · intro w' _
          go_simp
          first | done | with_reducible rfl
        try simp only [Go.Act.put, List.setIfInBounds_toArray, List.set_cons_zero, List.set_cons_succ]
        refine anyZ_ready (rs := [9]) (by kernel_rfl) (by simp) ?_
        refine AllZ.last rfl (by kernel_rfl) (fun K hK => ?_) AllZ.nil
        go_simp
        obtain ⟨⟨u0, u1, s0, s1⟩, t0, t1⟩ := (HCOP.out.fr0 hHeld).two hlt
        have HC9 := Lib.hid (HCOP.out.fr0 hHeld)
        try go_simp
        refine hK.out _ _ ?_
        clear hK K
        try change anyZ _ _ _ _ _ _ _ _ (Go.Act.put _ none _) _
        try simp only [Go.Act.put, List.setIfInBounds_toArray, List.set_cons_zero, List.set_cons_succ]
        refine anyZ_done (by kernel_rfl) ?_ _
        clear hHeld
        go_wp2
        have ho : OwE _ (EL.at p A1 c1) := ⟨ho1, HOK.out⟩
        have hp := HC9.out.put hlt HEL.out (q := EL.at p A1 c1) HPE.out ho (fun x hx => Nat.le_trans HCOP0.out.fr.size (Nat.le_trans HW1.out.size (hf1.2 x hx)))
        refine ⟨⟨k + 1, by simp, by omega, _, hp⟩, ?_⟩
        first | omega | (show _ < _; simp [intOf]; omega)
      · obtain rfl : k = n := by omega
        go_wp2
        go_ret
        obtain ⟨h1, h2, h3, h4, ⟨cur, hb, hs, hc⟩, h6⟩ := HCOP0.out
        have h1' := h1
        refine ⟨.slice (some ⟨b, 0, none⟩) k k, qs, rfl, ⟨⟨⟨by rw [elc_len], .inr ⟨b, 0, k, cur, by rw [h1'], hb, by omega, by unfold maxLen; omega, by omega, fun j hj => by rw [Nat.zero_add]; exact hc j (by rw [elc_len] at hj; omega)⟩⟩, fun q hq => (h6 q hq).1⟩, h3, fun x hx => ?_⟩, ?_⟩
        · rcases hx with e | ⟨q, hq, e⟩
          · have : b = x := by simpa [Value.ownBlock] using e
            omega
          · exact (h6 q hq).2 x e
        · rw [h2, List.take_of_length_le (by rw [HEL.out]; exact Nat.le_refl _)]
end Go.Proofs.Ytainkckcipdknaa
