/- match: the reference's lists in memory: New, Len, Peek, Push. -/
import Derived.Test.YtkinbcmnfpkncaaRn
namespace Go.Proofs.Ytkinbcmnfpkncaa
open Go.RowKit Go.Maps

abbrev tQ : TypeId := 63
theorem teQ : TE Try.prog 56 tQ 2 16 (.agg #[.int .i64 0, .int .i64 0]) := ⟨Try.underlying56, by kernel_rfl, rfl, by omega⟩
/-- The cells of a row of tasks. -/
def tcs (L : List (Int × Int)) : List Value := L.flatMap fun p => [.int .i64 p.1, .int .i64 p.2]
theorem tcs_len (L : List (Int × Int)) : (tcs L).length = L.length * 2 := by
  induction L with
  | nil => rfl
  | cons p r ih => simp only [tcs, List.flatMap_cons, List.length_append, List.length_cons, List.length_nil] at ih ⊢; omega
theorem tcs_append (r s : List (Int × Int)) : tcs (r ++ s) = tcs r ++ tcs s := by simp [tcs]
theorem tcs_cons (p : Int × Int) (r : List (Int × Int)) : tcs (p :: r) = .int .i64 p.1 :: .int .i64 p.2 :: tcs r := rfl
theorem tcs_at (r : List (Int × Int)) (k : Nat) (h : k < r.length) {p : Int × Int} (hp : r[k]'h = p) : (tcs r)[k * 2]? = some (.int .i64 p.1) ∧ (tcs r)[k * 2 + 1]? = some (.int .i64 p.2) := by
  subst hp
  induction r generalizing k with
  | nil => simp at h
  | cons p r ih =>
    cases k with
    | zero => exact ⟨rfl, rfl⟩
    | succ k =>
      have := ih k (by simpa using h)
      rw [tcs_cons, show (k + 1) * 2 = k * 2 + 1 + 1 by omega]
      simpa using this
theorem tcs_one (L : List (Int × Int)) : ∀ u ∈ tcs L, u.oneCell' = true := by
  intro u hu
  obtain ⟨p, _, hp⟩ := List.mem_flatMap.1 hu
  simp at hp
  rcases hp with rfl | rfl <;> rfl
/-- Rows of tasks. -/
def RT (w : World) (v : Value) (L : List (Int × Int)) : Prop := Row w tQ 2 v L.length (tcs L)
theorem RT.task {w : World} {A : Option Addr} {n c : Nat} {L : List (Int × Int)} (h : RT w (.slice A n c) L) {k : Nat} (hk : k < L.length) {p : Int × Int} (hp : L[k]'hk = p) : ∃ b off, A = some ⟨b, off, none⟩ ∧ ∀ w', Fr (fun x => (Value.slice A n c).ownBlock ≠ some x) w w' → w'.cell? ⟨b, off + k * 2, none⟩ = some (.int .i64 p.1) ∧ w'.cell? ⟨b, off + k * 2 + 1, none⟩ = some (.int .i64 p.2) := by
  obtain ⟨A', c', e, _, _, hA⟩ := Row.form h
  injection e with e1 e2 e3
  subst e1
  obtain ⟨b, off, rfl⟩ := hA (by omega)
  refine ⟨b, off, rfl, fun w' hf => ?_⟩
  have h' : RT w' _ L := Row.fr h hf (fun g hg hn => hn hg)
  have hat := tcs_at L k hk hp
  exact ⟨Row.cell h' hat.1, by have := Row.cell h' hat.2; rwa [← Nat.add_assoc] at this⟩
/-- The reference's lists: their struct at block g, all tasks as they were put. -/
structure RfM (w : World) (g : Nat) (F : Nat → Prop) (most : Int) (L : List (Int × Int)) (v : Value) : Prop where
  blk : Bk w g 58 #[.int .i64 most, v]
  row : RT w v L
  fg : F g
  fv : ∀ k, v.ownBlock = some k → F k
  flt : ∀ k, F k → k < w.heap.size
  ll : L.length ≤ 1000000
theorem RfM.fr {S F : Nat → Prop} {w w' : World} {g : Nat} {most : Int} {L : List (Int × Int)} {v : Value} (h : RfM w g F most L v) (hf : Fr S w w') (hS : ∀ k, F k → ¬ S k) : RfM w' g F most L v :=
  ⟨h.blk.fr hf (hS _ h.fg), Row.fr h.row hf (fun k hk => hS k (h.fv k hk)), h.fg, h.fv, fun k hk => Nat.lt_of_lt_of_le (h.flt k hk) hf.size, h.ll⟩
theorem RfM.fr0 {F : Nat → Prop} {w w' : World} {g : Nat} {most : Int} {L : List (Int × Int)} {v : Value} (h : RfM w g F most L v) (hf : Fr (fun _ => False) w w') : RfM w' g F most L v := h.fr hf (fun _ _ h => h)
theorem RfM.ne {F : Nat → Prop} {w : World} {g : Nat} {most : Int} {L : List (Int × Int)} {v : Value} (h : RfM w g F most L v) : v.ownBlock ≠ some g := Row.ne h.row h.blk (by decide)
theorem RfM.lenv {F : Nat → Prop} {w : World} {g : Nat} {most : Int} {L : List (Int × Int)} {A : Option Addr} {n c : Nat} (h : RfM w g F most L (.slice A n c)) : n = L.length := Row.len h.row
theorem RfM.task {F : Nat → Prop} {w : World} {g : Nat} {most : Int} {L : List (Int × Int)} {A : Option Addr} {n c : Nat} (h : RfM w g F most L (.slice A n c)) {k : Nat} (hk : k < L.length) {p : Int × Int} (hp : L[k]'hk = p) : ∃ b off, A = some ⟨b, off, none⟩ ∧ ∀ w', Fr (fun x => ¬ F x) w w' → w'.cell? ⟨b, off + k * 2, none⟩ = some (.int .i64 p.1) ∧ w'.cell? ⟨b, off + k * 2 + 1, none⟩ = some (.int .i64 p.2) := by
  obtain ⟨b, off, e, hc⟩ := h.row.task hk hp
  exact ⟨b, off, e, fun w' hf => hc w' (hf.mono (fun x _ hx e => hx (h.fv x e)))⟩
def Rf (w : World) (g : Nat) (F : Nat → Prop) (most : Int) (L : List (Int × Int)) : Prop := ∃ v, RfM w g F most L v
/-- From such lists within F to others. -/
def RfTo (w : World) (g : Nat) (F : Nat → Prop) (w' : World) (most : Int) (L : List (Int × Int)) : Prop := ∃ F', Rf w' g F' most L ∧ Fr F w w' ∧ ∀ k, F' k → F k ∨ w.heap.size ≤ k
theorem RfM.to {F : Nat → Prop} {w w' : World} {g : Nat} {most : Int} {L : List (Int × Int)} {v : Value} (h : RfM w g F most L v) (hf : Fr (fun _ => False) w w') : RfTo w g F w' most L := ⟨F, ⟨v, h.fr0 hf⟩, hf.mono (fun _ _ h => h.elim), fun _ h => .inl h⟩
/-- The row is another one: its own, or new. -/
theorem RfM.relay {F : Nat → Prop} {w w1 w2 : World} {g : Nat} {most : Int} {L L' : List (Int × Int)} {v v' : Value} (h : RfM w g F most L v) (f1 : Fr (fun k => v.ownBlock = some k) w w1) (hr : RT w1 v' L') (hm : ∀ k, v'.ownBlock = some k → v.ownBlock = some k ∨ w.heap.size ≤ k) (hb : Bk w2 g 58 #[.int .i64 most, v']) (f2 : Fr (fun x => x = g) w1 w2) (hl : L'.length ≤ 1000000) : RfTo w g F w2 most L' := by
  have hgl := h.flt g h.fg
  have hv' : ∀ k, v'.ownBlock = some k → (F k ∧ k ≠ g) ∨ w.heap.size ≤ k := fun k hk => by
    rcases hm k hk with e | e
    · exact .inl ⟨h.fv k e, fun e2 => h.ne (e2 ▸ e)⟩
    · exact .inr e
  have hs := f1.size
  have hr2 : RT w2 v' L' := Row.fr hr f2 (fun k hk e => by rcases hv' k hk with h1 | h1 <;> omega)
  refine ⟨fun k => F k ∨ (w.heap.size ≤ k ∧ k < w2.heap.size), ⟨v', hb, hr2, .inl h.fg, fun k hk => ?_, fun k hk => ?_, hl⟩, (f1.mono (fun k _ hk => h.fv k hk)).trans f2 (fun x _ e => by subst e; exact h.fg), fun k hk => hk.imp id (fun e => e.1)⟩
  · rcases hv' k hk with h1 | h1
    · exact .inl h1.1
    · exact .inr ⟨h1, Row.lt hr2 hk⟩
  · rcases hk with hk | hk
    · have := h.flt k hk; have := f2.size; omega
    · exact hk.2

/-- How many tasks of a list there are. -/
def cntL (L : List (Int × Int)) (c : Int) : Nat := (L.filter fun p => decide (p.1 = c)).length
theorem cntL_le (L : List (Int × Int)) (c : Int) : cntL L c ≤ L.length := List.length_filter_le _ _
theorem cntL_take (L : List (Int × Int)) (c : Int) {k : Nat} (h : k < L.length) {p : Int × Int} (hp : L[k]'h = p) : cntL (L.take (k + 1)) c = cntL (L.take k) c + if p.1 = c then 1 else 0 := by
  unfold cntL
  rw [List.take_add_one, List.getElem?_eq_getElem h, hp, List.filter_append, List.length_append]
  by_cases e : p.1 = c <;> simp [e]

set_option maxRecDepth 100000 in
set_option maxHeartbeats 4000000 in
theorem rlen_any {w : World} {g : Nat} {F : Nat → Prop} {most : Int} {L : List (Int × Int)} {v : Value} (h : RfM w g F most L v) (c : Int) :
    Calls Try.prog 16 #[.pointer (some ⟨g, 0, none⟩), .int .i64 c] w fun e w' => e = .returned (.int .i64 (cntL L c : Nat)) ∧ w' = w := by
  obtain ⟨A, cp, rfl, -, -, -⟩ := Row.form h.row
  obtain ⟨n, hn⟩ : ∃ n, L.length = n := ⟨_, rfl⟩
  rw [hn] at h
  have H := Lib.hid h
  have HN := Lib.hid hn
  have HLL : Hid (n ≤ 1000000) := Lib.hid (by rw [← hn]; exact h.ll)
  have q1 : w.cell? ⟨g, 1, none⟩ = some (.slice A n cp) := h.blk.cell 1
  obtain ⟨a, ha⟩ : ∃ a, cntL L c = a := ⟨_, rfl⟩
  rw [ha]
  have HA := Lib.hid ha
  clear h hn ha
  go_enter Try.func16, Try.ntmps16
  go_wp2_with fail
  go_loopw [5, 6] (fun u v wr => ∃ (k m : Nat), u = .int .i64 (m : Int) ∧ v = .int .i64 (k : Int) ∧ k ≤ n ∧ m = cntL (L.take k) c ∧ wr = w) (fun _ v _ => n - (intOf v).toNat)
  case atStart => exact ⟨0, 0, rfl, rfl, Nat.zero_le _, rfl, rfl⟩
  case round =>
    obtain ⟨k, m, rfl, rfl, hk, hm, rfl⟩ := hrel
    have HM := Lib.hid hm
    clear hm
    by_cases hlt : k < n
    · have di : decide ((k : Int) < (n : Int)) = true := decide_eq_true (by omega)
      have di' : decide (k < n) = true := decide_eq_true hlt
      have k0 : (0 : Int) ≤ (k : Int) := by omega
      have k1 : (k : Int) < (n : Int) := by omega
      have hkl : k < L.length := by rw [HN.out]; exact hlt
      obtain ⟨p, hp⟩ : ∃ p, L[k] = p := ⟨_, rfl⟩
      obtain ⟨b, off, rfl, hc⟩ := H.out.task hkl hp
      obtain ⟨c0, -⟩ := hc _ (Fr.refl _ _)
      have HST := Lib.hid (cntL_take L c hkl hp)
      have HK := Lib.hid hlt
      have hwk := wrap_succ (k := k) (by have := HLL.out; omega)
      have hwm := wrap_succ (k := m) (by have h1 := HM.out; have h2 := cntL_le (L.take k) c; rw [List.length_take] at h2; have := HLL.out; omega)
      clear hk hlt hkl hp hc
      obtain ⟨x, hx⟩ : ∃ x, p.1 = x := ⟨_, rfl⟩
      rw [hx] at c0
      rw [hx] at HST
      clear hx
      by_cases hxc : x = c
      · have hxe : (x == c) = true := by rw [beq_iff_eq]; exact hxc
        rw [if_pos hxc] at HST
        clear hxc
        go_wp2
        go_roundw
        case rel => exact ⟨k + 1, m + 1, by first | rfl | (push_cast; rfl) | (go_num; done), by first | rfl | (push_cast; rfl) | (go_num; done), HK.out, by rw [HST.out, ← HM.out], by first | rfl | trivial⟩
        case measure =>
          show n - ((k : Int) + 1).toNat < n - ((k : Int)).toNat
          exact meas_up HK.out
      · have hxe : (x == c) = false := by rw [beq_eq_false_iff_ne]; exact hxc
        rw [if_neg hxc] at HST
        clear hxc
        go_wp2
        go_roundw
        case rel => exact ⟨k + 1, m, rfl, by first | rfl | (push_cast; rfl) | (go_num; done), HK.out, by rw [HST.out, ← HM.out]; rfl, by first | rfl | trivial⟩
        case measure =>
          show n - ((k : Int) + 1).toNat < n - ((k : Int)).toNat
          exact meas_up HK.out
    · have di : decide ((k : Int) < (n : Int)) = false := decide_eq_false (by omega)
      have di' : decide (k < n) = false := decide_eq_false hlt
      obtain rfl : k = n := by omega
      obtain rfl : m = a := by rw [HM.out, List.take_of_length_le (by rw [HN.out]; exact Nat.le_refl _)]; exact HA.out
      clear hk hlt
      go_wp2
      go_ret
      exact ⟨rfl, rfl⟩

/-- The first task of a list. -/
def hdL (L : List (Int × Int)) (c : Int) : Array Value := match L.find? (fun p => decide (p.1 = c)) with
  | none => #[.int .i64 0, .bool false]
  | some p => #[.int .i64 p.2, .bool true]
set_option maxRecDepth 100000 in
set_option maxHeartbeats 4000000 in
theorem rpeek_any {w : World} {g : Nat} {F : Nat → Prop} {most : Int} {L : List (Int × Int)} {v : Value} (h : RfM w g F most L v) (c : Int) :
    Calls Try.prog 35 #[.pointer (some ⟨g, 0, none⟩), .int .i64 c] w fun e w' => e = .returned (.tuple (hdL L c)) ∧ w' = w := by
  obtain ⟨A, cp, rfl, -, -, -⟩ := Row.form h.row
  obtain ⟨n, hn⟩ : ∃ n, L.length = n := ⟨_, rfl⟩
  rw [hn] at h
  have H := Lib.hid h
  have HN := Lib.hid hn
  have HLL : Hid (n ≤ 1000000) := Lib.hid (by rw [← hn]; exact h.ll)
  have q1 : w.cell? ⟨g, 1, none⟩ = some (.slice A n cp) := h.blk.cell 1
  obtain ⟨out, hout⟩ : ∃ out, hdL L c = out := ⟨_, rfl⟩
  rw [hout]
  have HO := Lib.hid hout
  clear h hn hout
  go_enter Try.func35, Try.ntmps35
  go_wp2_with fail
  go_loopw [6] (fun v wr => ∃ (k : Nat), v = .int .i64 (k : Int) ∧ k ≤ n ∧ Hid (∀ p ∈ L.take k, p.1 ≠ c) ∧ wr = w) (fun v _ => n - (intOf v).toNat)
  case atStart => exact ⟨0, rfl, Nat.zero_le _, Lib.hid (fun p hp => by simp at hp), rfl⟩
  case round =>
    obtain ⟨k, rfl, hk, HM, rfl⟩ := hrel
    by_cases hlt : k < n
    · have di : decide ((k : Int) < (n : Int)) = true := decide_eq_true (by omega)
      have di' : decide (k < n) = true := decide_eq_true hlt
      have k0 : (0 : Int) ≤ (k : Int) := by omega
      have k1 : (k : Int) < (n : Int) := by omega
      have hkl : k < L.length := by rw [HN.out]; exact hlt
      obtain ⟨p, hp⟩ : ∃ p, L[k] = p := ⟨_, rfl⟩
      obtain ⟨b, off, rfl, hc⟩ := H.out.task hkl hp
      obtain ⟨c0, c1⟩ := hc _ (Fr.refl _ _)
      have HP : Hid (L = L.take k ++ p :: L.drop (k + 1)) := Lib.hid (by rw [← hp, ← List.drop_eq_getElem_cons hkl]; exact (List.take_append_drop k L).symm)
      have HK := Lib.hid hlt
      have hwk := wrap_succ (k := k) (by have := HLL.out; omega)
      clear hk hlt hkl hp hc
      obtain ⟨x, y⟩ := p
      simp only at c0 c1
      by_cases hxc : x = c
      · have hxe : (x == c) = true := by rw [beq_iff_eq]; exact hxc
        have hout : out = #[.int .i64 y, .bool true] := by
          rw [← HO.out]
          unfold hdL
          rw [HP.out, List.find?_append, List.find?_eq_none.2 (fun q hq => by simp; exact HM.out q hq)]
          simp [hxc]
        subst hout
        clear hxc
        go_wp2
        go_ret2
        exact ⟨rfl, rfl⟩
      · have hxe : (x == c) = false := by rw [beq_eq_false_iff_ne]; exact hxc
        have HM2 : Hid (∀ p ∈ L.take (k + 1), p.1 ≠ c) := Lib.hid (fun q hq => by
          have e : L.take (k + 1) = L.take k ++ [(x, y)] := by
            have h1 := HP.out
            conv => lhs; rw [h1]
            rw [List.take_append, List.length_take, List.take_take]
            have : min k L.length = k := by have := HK.out; have := HN.out; omega
            simp [this]
          rw [e, List.mem_append] at hq
          rcases hq with hq | hq
          · exact HM.out q hq
          · simp at hq; subst hq; exact hxc)
        clear hxc
        go_wp2
        go_roundw
        case rel => exact ⟨k + 1, by first | rfl | (push_cast; rfl) | (go_num; done), HK.out, HM2, by first | rfl | trivial⟩
        case measure =>
          show n - ((k : Int) + 1).toNat < n - ((k : Int)).toNat
          exact meas_up HK.out
    · have di : decide ((k : Int) < (n : Int)) = false := decide_eq_false (by omega)
      have di' : decide (k < n) = false := decide_eq_false hlt
      obtain rfl : k = n := by omega
      have hout : out = #[.int .i64 0, .bool false] := by
        rw [← HO.out]
        unfold hdL
        rw [List.find?_eq_none.2 (fun q hq => by simp; exact HM.out q (by rw [List.take_of_length_le (by rw [HN.out]; exact Nat.le_refl _)]; exact hq))]
      subst hout
      clear hk hlt
      go_wp2
      go_ret2
      exact ⟨rfl, rfl⟩

set_option maxRecDepth 100000 in
set_option maxHeartbeats 2000000 in
theorem rnew_yes {most : Int} (h1 : 1 ≤ most) (h2 : most ≤ 65536) (w : World) :
    Calls Try.prog 8 #[.int .i64 most] w fun e w' => ∃ g, e = .returned (.tuple #[.pointer (some ⟨g, 0, none⟩), .int .i64 0]) ∧ Fr (fun _ => False) w w' ∧ Rf w' g (fun k => w.heap.size ≤ k ∧ k < w'.heap.size) most [] := by
  have d1 : decide (most < 1) = false := decide_eq_false (by omega)
  have d2 : decide ((65536 : Int) < most) = false := decide_eq_false (by omega)
  go_enter Try.func8, Try.ntmps8
  go_wp2
  go_ret2
  exact ⟨_, rfl, (Fr.refl _ _).alloc _, .slice none 0 0, Bk.new _ _ _, Row.nil _ _ _, by simp, fun k hk => by simp [Value.ownBlock] at hk, fun k hk => hk.2, by simp⟩
set_option maxRecDepth 100000 in
set_option maxHeartbeats 2000000 in
theorem rnew_no {most : Int} (h : most < 1 ∨ 65536 < most) (w : World) :
    Calls Try.prog 8 #[.int .i64 most] w fun e w' => e = .returned (.tuple #[.pointer none, .int .i64 1]) ∧ w' = w := by
  by_cases h1 : most < 1
  · have d1 : decide (most < 1) = true := decide_eq_true h1
    clear h h1
    go_enter Try.func8, Try.ntmps8
    go_wp2
    go_ret2
    exact ⟨rfl, rfl⟩
  · have d1 : decide (most < 1) = false := decide_eq_false h1
    have d2 : decide ((65536 : Int) < most) = true := decide_eq_true (by omega)
    clear h h1
    go_enter Try.func8, Try.ntmps8
    go_wp2
    go_ret2
    exact ⟨rfl, rfl⟩

set_option maxRecDepth 100000 in
set_option maxHeartbeats 4000000 in
theorem rpush_any {w : World} {g : Nat} {F : Nat → Prop} {most : Int} {L : List (Int × Int)} {v : Value} (h : RfM w g F most L v) (hl : L.length < 1000000) (c x : Int) :
    Calls Try.prog 10 #[.pointer (some ⟨g, 0, none⟩), .int .i64 c, .int .i64 x] w fun e w' => (most ≤ (cntL L c : Nat) ∧ e = .returned (.int .i64 4) ∧ RfTo w g F w' most L) ∨ (¬ most ≤ (cntL L c : Nat) ∧ e = .returned (.int .i64 0) ∧ RfTo w g F w' most (L ++ [(c, x)])) := by
  have CL := Lib.hid (fun w' (hf : Fr (fun _ => False) w w') => rlen_any (h.fr0 hf) c)
  have H := Lib.hid h
  have HL := Lib.hid hl
  obtain ⟨A, cp, rfl, -, -, -⟩ := Row.form h.row
  clear h hl
  obtain ⟨m, hm⟩ : ∃ m : Int, ((cntL L c : Nat) : Int) = m := ⟨_, rfl⟩
  rw [hm] at CL
  rw [hm]
  clear hm
  obtain ⟨f, hf⟩ : ∃ f, decide (most ≤ m) = f := ⟨_, rfl⟩
  have HFF := Lib.hid hf
  go_enter Try.func10, Try.ntmps10
  go_wp2_with fail
  refine wp_region_held_drew (S := fun w' => Fr (fun _ => False) w w') (by kernel_rfl) ((Fr.refl _ _).drew) (fun hHeld => ?_)
  refine wpAnyH_takeD (i := 0) (v := ?_) (some 7) rfl rfl (by kernel_rfl) (by kernel_rfl) (by kernel_rfl) (fun _ _ _ h => h) (Or.inl ⟨by rfl, ?_⟩) (by assumption) ?_
  rotate_left
  · intro w' hSw
    go_simp
    first | done | with_reducible rfl
  try simp only [Act.put, List.setIfInBounds_toArray, List.set_cons_zero, List.set_cons_succ]
  refine wpAnyH_takeD (i := 1) (v := ?_) (some 8) rfl rfl (by kernel_rfl) (by kernel_rfl) (by kernel_rfl) (fun _ _ _ h => h) (Or.inl ⟨by rfl, ?_⟩) (by assumption) ?_
  rotate_left
  · intro w' hSw
    go_simp
    first | done | with_reducible rfl
  try simp only [Act.put, List.setIfInBounds_toArray, List.set_cons_zero, List.set_cons_succ]
  refine wpAnyH_takeD (i := 3) (v := ?_) (some 10) rfl rfl (by kernel_rfl) (by kernel_rfl) (by kernel_rfl) (fun _ _ _ h => h) (Or.inl ⟨by rfl, ?_⟩) (by assumption) ?_
  rotate_left
  · intro w' hSw
    go_simp
    first | done | with_reducible rfl
  try simp only [Act.put, List.setIfInBounds_toArray, List.set_cons_zero, List.set_cons_succ]
  refine wpAnyH_takeD (i := 4) (v := ?_) (some 11) rfl rfl (by kernel_rfl) (by kernel_rfl) (by kernel_rfl) (fun _ _ _ h => h) (Or.inl ⟨by rfl, ?_⟩) (by assumption) ?_
  rotate_left
  · intro w' hSw
    go_simp
    first | done | with_reducible rfl
  try simp only [Act.put, List.setIfInBounds_toArray, List.set_cons_zero, List.set_cons_succ]
  refine wpAnyH_takeD (i := 5) (v := ?_) (some 12) rfl rfl (by kernel_rfl) (by kernel_rfl) (by kernel_rfl) (fun _ _ _ h => h) (Or.inl ⟨by rfl, ?_⟩) (by assumption) ?_
  rotate_left
  · intro w' hSw
    go_simp
    first | done | with_reducible rfl
  try simp only [Act.put, List.setIfInBounds_toArray, List.set_cons_zero, List.set_cons_succ]
  refine wpAnyH_takeD (i := 6) (v := ?_) (some 13) rfl rfl (by kernel_rfl) (by kernel_rfl) (by kernel_rfl) (fun _ _ _ h => h) (Or.inl ⟨by rfl, ?_⟩) (by assumption) ?_
  rotate_left
  · intro w' hSw
    have q0 := (H.out.fr0 hSw).blk.cell 0
    go_simp
    first | done | with_reducible rfl
  try simp only [Act.put, List.setIfInBounds_toArray, List.set_cons_zero, List.set_cons_succ]
  refine wpAnyH_ready (rs := [2]) (by kernel_rfl) (by simp) ?_
  refine AllReadyH.cons rfl (fun K hK => ?_) AllReadyH.nil
  go_simp
  refine (CL.out _ hHeld).mono ?_; rintro e w1 ⟨rfl, rfl⟩
  try go_simp
  refine hK.out _ _ (hHeld) (fun hHeld => ?_)
  clear hK K
  try change wpAnyH _ _ _ _ _ _ _ (Act.put _ (some 9) _) _
  try simp only [Act.put, List.setIfInBounds_toArray, List.set_cons_zero, List.set_cons_succ]
  refine wpAnyH_takeD (i := 7) (v := ?_) (some 14) rfl rfl (by kernel_rfl) (by kernel_rfl) (by kernel_rfl) (fun _ _ _ h => h) (Or.inl ⟨by rfl, ?_⟩) (by assumption) ?_
  rotate_left
  · intro w' hSw
    go_simp
    first | done | with_reducible rfl
  try simp only [Act.put, List.setIfInBounds_toArray, List.set_cons_zero, List.set_cons_succ]
  refine wpAnyH_done (by kernel_rfl) ?_ _
  have HH := Lib.hid hHeld
  clear hHeld CL
  cases f
  · have hq1 : ¬ most ≤ m := of_decide_eq_false HFF.out
    have HNQ := Lib.hid hq1
    obtain ⟨w0, hw0⟩ : ∃ w0, w.drew = w0 := ⟨_, rfl⟩
    rw [hw0] at HH ⊢
    have hrow := H.out.row
    have q1 : w0.cell? ⟨g, 1, none⟩ = some (.slice A L.length cp) := (H.out.fr0 HH.out).blk.cell 1
    have z1 := (H.out.fr0 HH.out).blk.frozen 1
    clear hq1 hw0
    go_wp2_with (at_builtin; (refine wpList_appendR teQ rfl (.tmp 19) (.tmp 23) rfl (.slice A L.length cp) L.length (tcs L) rfl (hrow.fr0 (HH.out.alloc _)) _ 1 [.int .i64 c, .int .i64 x] rfl (Sl.at rfl rfl (fun j u hj => by rw [Nat.zero_add, (Bk.new w0 _ _).cell]; simpa using hj)) (fun u hu => by simp at hu; rcases hu with rfl | rfl <;> rfl) (by have := HL.out; unfold maxLen; omega) (by have := HL.out; omega) ?_; intro A3 c3 w3 hr3 hf3 hm3; have HR3 := Lib.hid hr3; have HF3 := Lib.hid (Fr.trans (T := fun k => (Value.slice A L.length cp).ownBlock = some k) (S := fun k => (Value.slice A L.length cp).ownBlock = some k) ((HH.out.alloc (.cells #[.int .i64 c, .int .i64 x] 63)).mono (fun _ _ h => h.elim)) hf3 (fun _ _ h => h)); have HM3 : Hid (Moved w (.slice A L.length cp) (.slice A3 (L.length + 1) c3)) := Lib.hid (hm3.imp id (fun ⟨k, e, hk⟩ => ⟨k, e, Nat.le_trans (HH.out.alloc (.cells #[.int .i64 c, .int .i64 x] 63)).size hk⟩)); have hb3 := H.out.blk.fr HF3.out H.out.ne; have c31 : w3.cell? ⟨g, 1, none⟩ = some (.slice A L.length cp) := hb3.cell 1; have z31 := hb3.frozen 1; clear hr3 hf3 hm3 hb3))
    go_ret
    refine .inr ⟨HNQ.out, rfl, H.out.relay HF3.out (L' := L ++ [(c, x)]) (v' := .slice A3 (L.length + 1) c3) ?_ (fun k hk => HM3.out.elim (fun e => .inl (e ▸ hk)) (fun ⟨z, e, hz⟩ => .inr (by rw [e] at hk; injection hk with hk; omega))) ?_ (Fr.setCell (S := fun x => x = g) (p := ⟨g, 1, none⟩) (Fr.refl _ _) (fun _ => rfl) _) (by rw [List.length_append]; exact HL.out)⟩
    · have := HR3.out
      unfold RT
      rw [tcs_append, List.length_append]
      exact this
    · have := (H.out.blk.fr HF3.out H.out.ne).set 1 (.slice A3 (L.length + 1) c3)
      simpa using this
  · have hq1 : most ≤ m := of_decide_eq_true HFF.out
    have HNQ := Lib.hid hq1
    clear hq1
    go_wp2
    go_ret
    exact .inl ⟨HNQ.out, rfl, H.out.to HH.out⟩
end Go.Proofs.Ytkinbcmnfpkncaa
