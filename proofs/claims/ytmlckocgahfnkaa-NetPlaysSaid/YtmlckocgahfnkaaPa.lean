/- The reference's net in memory; is, New, Open. -/
import Derived.Test.YtmlckocgahfnkaaNq
namespace Go.Proofs.Ytmlckocgahfnkaa
open Go.RowKit

/-- append(s, x...) of bytes, met in a region that draws. -/
theorem stepOf_append8s {P : Program} {ops : Array Oper} {o : Oper} {a : Act} {w : World} {K' : Act → World → Prop} {Q : Exit → Act → World → Prop} (hgd : o.guard = none) (s x : Operand) {t e : TypeId} (hT : T8 P t e)
    (ho : o.op = .call { callee := .builtin .append, args := #[s, x], argTypes := #[t, t] })
    (v : Value) (bs : List UInt8) (hs : a.eval s = v) (hown : Own8 w e v bs) (A : Option Addr) (m c : Nat) (xs : List UInt8) (hx : a.eval x = .slice A m c) (hm : xs.length = m) (hr : Rd8 w A xs) (hlen : bs.length + xs.length ≤ 140737488355328)
    (h : ∀ A' c' w', Own8 w' e (.slice A' (bs.length + xs.length) c') (bs ++ xs) → Fr (fun k => v.ownBlock = some k) w w' → Moved w v (.slice A' (bs.length + xs.length) c') → K' (a.put o.dst (.slice A' (bs.length + xs.length) c')) w') :
    if Region.wanted o (yielded ops a.tmps) = true then Oper.wp P o a w K' Q else K' (a.put o.dst undef) w := by
  rw [if_pos (by simp [Region.wanted, hgd])]
  subst hm
  obtain ⟨A', c', w', hr, h2, h3, h4, _⟩ := run_append8 (P := P) w hT o.type hown A c xs hr hlen
  unfold Oper.wp execOp
  simp only [ho, resolve, invoke, builtin, Sem.run_bind, Sem.run_pure, Result.andThen_ok, List.map_toArray, List.map_cons, List.map_nil, hs, hx, hr]
  exact h A' c' w' h2 h3 h4

theorem Try.teQ : TE Try.prog 39 61 4 48 (.agg #[.int .i64 0, .int .i64 0, .int .i64 0, .slice none 0 0]) := ⟨Try.underlying39, by kernel_rfl, rfl, by omega⟩
theorem Try.teC : TE Try.prog 40 69 2 16 (.agg #[.int .i64 0, .int .i64 0]) := ⟨Try.underlying40, by kernel_rfl, rfl, by omega⟩

def cpair (c : Int × Int) : List Value := [.int .i64 c.1, .int .i64 c.2]
def cpc (cs : List (Int × Int)) : List Value := cs.flatMap cpair
theorem cpair_len (c : Int × Int) : (cpair c).length = 2 := rfl
theorem cpc_at {cs : List (Int × Int)} {i j : Nat} (hi : i < cs.length) (hj : j < 2) : (cpc cs)[i * 2 + j]? = (cpair (cs.getD i default))[j]? := flat_at cpair_len hi hj
theorem cpc_one (cs : List (Int × Int)) : ∀ u ∈ cpc cs, u.oneCell' = true := by
  intro u hu
  obtain ⟨p, _, hp⟩ := List.mem_flatMap.1 hu
  simp [cpair] at hp
  rcases hp with rfl | rfl <;> rfl

/-- Where the parts of the reference's net lie. -/
structure RL where
  LV : Value
  CV : Value
  ks : List KP
def rcells (s : NS) (m : RL) : Array Value := #[.int .i64 (s.N : Int), .int .i64 (s.sent : Int), m.LV, m.CV]
/-- The reference's net at block g. -/
structure RefM (w : World) (g : Nat) (s : NS) (m : RL) : Prop where
  blk : Bk w g 42 (rcells s m)
  row : Row w 61 4 m.LV m.ks.length (kpc m.ks)
  cut : Row w 69 2 m.CV s.cuts.length (cpc s.cuts)
  l : s.l = m.ks.map KP.pk
  each : ∀ k ∈ m.ks, Own8 w 5 k.sl k.pk.bs
def RB (g : Nat) (m : RL) (x : Nat) : Prop := x = g ∨ m.LV.ownBlock = some x ∨ m.CV.ownBlock = some x ∨ ∃ k ∈ m.ks, k.sl.ownBlock = some x
theorem RefM.lt {w : World} {g : Nat} {s : NS} {m : RL} (h : RefM w g s m) {x : Nat} (hx : RB g m x) : x < w.heap.size := by
  rcases hx with rfl | e | e | ⟨k, hk, e⟩
  · exact h.blk.lt
  · exact h.row.lt e
  · exact h.cut.lt e
  · exact (h.each k hk).lt e
theorem RefM.fr {S : Nat → Prop} {w w' : World} {g : Nat} {s : NS} {m : RL} (h : RefM w g s m) (hf : Fr S w w') (hS : ∀ x, RB g m x → ¬ S x) : RefM w' g s m :=
  ⟨h.blk.fr hf (hS _ (.inl rfl)), h.row.fr hf (fun x e => hS x (.inr (.inl e))), h.cut.fr hf (fun x e => hS x (.inr (.inr (.inl e)))), h.l, fun k hk => (h.each k hk).fr hf (fun x e => hS x (.inr (.inr (.inr ⟨k, hk, e⟩))))⟩
theorem RefM.fr0 {w w' : World} {g : Nat} {s : NS} {m : RL} (h : RefM w g s m) (hf : Fr (fun _ => False) w w') : RefM w' g s m := h.fr hf (fun _ _ h => h)
theorem RefM.cells {w : World} {g : Nat} {s : NS} {m : RL} (h : RefM w g s m) {i : Nat} {v : Value} (hv : (rcells s m)[i]? = some v) : w.cell? ⟨g, i, none⟩ = some v := (h.blk.cell i).trans hv
theorem RefM.ll {w : World} {g : Nat} {s : NS} {m : RL} (h : RefM w g s m) : m.ks.length = s.l.length := by rw [h.l]; simp
theorem RefM.rowg {w : World} {g : Nat} {s : NS} {m : RL} (h : RefM w g s m) : m.LV.ownBlock ≠ some g := h.row.ne h.blk (by decide)
theorem RefM.cutg {w : World} {g : Nat} {s : NS} {m : RL} (h : RefM w g s m) : m.CV.ownBlock ≠ some g := h.cut.ne h.blk (by decide)
theorem RefM.pk {w : World} {g : Nat} {s : NS} {m : RL} (h : RefM w g s m) {i : Nat} (hi : i < m.ks.length) : s.l.getD i default = (m.ks.getD i default).pk := by
  rw [h.l]; simp [List.getD, hi]
/-- The rows are others than each other. -/
theorem RefM.rowcut {w : World} {g : Nat} {s : NS} {m : RL} (h : RefM w g s m) {x : Nat} (h1 : m.LV.ownBlock = some x) (h2 : m.CV.ownBlock = some x) : False := by
  obtain ⟨cur, hb⟩ := h.row.bk h1
  exact h.cut.ne hb (by decide) h2
theorem RefM.rowd {w : World} {g : Nat} {s : NS} {m : RL} (h : RefM w g s m) {x : Nat} (h1 : m.LV.ownBlock = some x) {k : KP} (hk : k ∈ m.ks) (h2 : k.sl.ownBlock = some x) : False := by
  obtain ⟨cur, hb⟩ := h.row.bk h1
  exact (h.each k hk).ne hb (by decide) h2
theorem RefM.cutd {w : World} {g : Nat} {s : NS} {m : RL} (h : RefM w g s m) {x : Nat} (h1 : m.CV.ownBlock = some x) {k : KP} (hk : k ∈ m.ks) (h2 : k.sl.ownBlock = some x) : False := by
  obtain ⟨cur, hb⟩ := h.cut.bk h1
  exact (h.each k hk).ne hb (by decide) h2
theorem RefM.gd {w : World} {g : Nat} {s : NS} {m : RL} (h : RefM w g s m) {k : KP} (hk : k ∈ m.ks) : k.sl.ownBlock ≠ some g := (h.each k hk).ne h.blk (by decide)
theorem RefM.at4 {w : World} {g b off c : Nat} {s : NS} {CV : Value} {ks : List KP} (h : RefM w g s ⟨.slice (some ⟨b, off, none⟩) ks.length c, CV, ks⟩) {i : Nat} (hi : i < ks.length) :
    w.cell? ⟨b, off + i * 4, none⟩ = some (.int .i64 (ks.getD i default).pk.fr) ∧ w.cell? ⟨b, off + i * 4 + 1, none⟩ = some (.int .i64 (ks.getD i default).pk.to) ∧ w.cell? ⟨b, off + i * 4 + 2, none⟩ = some (.int .i64 ((ks.getD i default).pk.n : Int)) ∧ w.cell? ⟨b, off + i * 4 + 3, none⟩ = some (ks.getD i default).sl :=
  h.row.at4 (fun j hj => kpc_at hi hj)

/-- The reference's net at block g within the blocks F. -/
def Rt (w : World) (g : Nat) (s : NS) (F : Nat → Prop) : Prop := ∃ m, RefM w g s m ∧ (∀ x, RB g m x → F x) ∧ ∀ x, F x → x < w.heap.size
theorem Rt.fr {S F : Nat → Prop} {w w' : World} {g : Nat} {s : NS} (h : Rt w g s F) (hf : Fr S w w') (hS : ∀ k, F k → ¬ S k) : Rt w' g s F := by
  obtain ⟨m, h1, h2, h3⟩ := h
  exact ⟨m, h1.fr hf (fun k hk => hS k (h2 k hk)), h2, fun k hk => Nat.lt_of_lt_of_le (h3 k hk) hf.size⟩
theorem Rt.fr0 {F : Nat → Prop} {w w' : World} {g : Nat} {s : NS} (h : Rt w g s F) (hf : Fr (fun _ => False) w w') : Rt w' g s F := h.fr hf (fun _ _ h => h)
def RtTo (w : World) (g : Nat) (F : Nat → Prop) (w' : World) (s' : NS) : Prop := ∃ F', Rt w' g s' F' ∧ Fr F w w' ∧ ∀ k, F' k → F k ∨ w.heap.size ≤ k
theorem RefM.to {w w' : World} {g : Nat} {F : Nat → Prop} {s' : NS} {m' : RL} (h : RefM w' g s' m') (hB : ∀ k, RB g m' k → F k ∨ w.heap.size ≤ k) (hf : Fr F w w') : RtTo w g F w' s' :=
  ⟨RB g m', ⟨m', h, fun _ hk => hk, fun _ hk => h.lt hk⟩, hf, hB⟩

theorem ris_any (g N : Nat) (a : Int) (w : World) (h : w.cell? ⟨g, 0, none⟩ = some (.int .i64 (N : Int))) :
    Calls Try.prog 30 #[.pointer (some ⟨g, 0, none⟩), .int .i64 a] w fun e w' => e = .returned (.bool (decide (0 ≤ a) && decide (a < N))) ∧ w = w' := by
  by_cases h0 : 0 ≤ a
  · go_enter Try.func30, Try.ntmps30
    go_wp2
    go_ret
    exact ⟨by simp [h0], rfl⟩
  · have d0 : decide (0 ≤ a) = false := by simpa using h0
    go_enter Try.func30, Try.ntmps30
    go_wp2
    go_ret
    exact ⟨by simp [h0], rfl⟩

theorem rnew_bad (n : Int) (w : World) (h : n < 1 ∨ 9 < n) :
    Calls Try.prog 10 #[.int .i64 n] w fun e w' => e = .returned (.tuple #[.pointer none, .int .i64 1]) ∧ w = w' := by
  by_cases h0 : n < 1
  · have d0 : decide (n < 1) = true := by simpa using h0
    go_enter Try.func10, Try.ntmps10
    go_wp2
    go_ret2
    exact ⟨rfl, rfl⟩
  · have d0 : decide (n < 1) = false := by simpa using h0
    have d1 : decide (9 < n) = true := by simp; omega
    go_enter Try.func10, Try.ntmps10
    go_wp2
    go_ret2
    exact ⟨rfl, rfl⟩
theorem rnew_ok (n : Nat) (w : World) (h1 : 1 ≤ n) (h9 : n ≤ 9) :
    Calls Try.prog 10 #[.int .i64 n] w fun e w' => ∃ g, e = .returned (.tuple #[.pointer (some ⟨g, 0, none⟩), .int .i64 0]) ∧ RefM w' g (NS.new n) ⟨.slice none 0 0, .slice none 0 0, []⟩ ∧ Fr (fun _ => False) w w' ∧ w.heap.size ≤ g := by
  have d0 : decide ((n : Int) < 1) = false := by simp; omega
  have d1 : decide ((9 : Int) < n) = false := by simp; omega
  have kb : Bk (w.alloc (.cells #[.int .i64 (n : Int), .int .i64 0, .slice none 0 0, .slice none 0 0] 42)) w.heap.size 42 (rcells (NS.new n) ⟨.slice none 0 0, .slice none 0 0, []⟩) := Bk.new w _ _
  have fa : Fr (fun _ => False) w (w.alloc (.cells #[.int .i64 (n : Int), .int .i64 0, .slice none 0 0, .slice none 0 0] 42)) := (Fr.refl _ _).alloc _
  have KB := Lib.hid kb
  have FA := Lib.hid fa
  clear kb fa
  go_enter Try.func10, Try.ntmps10
  go_wp2
  go_ret2
  exact ⟨_, rfl, ⟨KB.out, Row.nil _ _ _, Row.nil _ _ _, rfl, fun k hk => by simp at hk⟩, FA.out, Nat.le_refl _⟩

theorem dec_pr (a b x y : Int) : decide (pr a b = pr x y) = (((x == a) && (y == b)) || ((x == b) && (y == a))) := by
  rw [Bool.eq_iff_iff]
  simp only [decide_eq_true_eq, Bool.or_eq_true, Bool.and_eq_true, beq_iff_eq]
  rw [eq_comm, pr_iff]
theorem hasP_take (cs : List (Int × Int)) (p : Int × Int) {i : Nat} (h : i < cs.length) : hasP ((cs.take (i + 1)).map fun c => pr c.1 c.2) p = (hasP ((cs.take i).map fun c => pr c.1 c.2) p || decide (p = pr (cs.getD i default).1 (cs.getD i default).2)) := by
  rw [take_succ_getD h]
  unfold hasP
  rw [List.map_append, List.any_append]
  simp only [List.map_cons, List.map_nil, List.any_cons, List.any_nil, Bool.or_false]
  congr 1
  rw [Bool.eq_iff_iff]
  simp [Prod.ext_iff]
theorem hasP_mono (cs : List (Int × Int)) (p : Int × Int) (i : Nat) (h : hasP ((cs.take i).map fun c => pr c.1 c.2) p = true) : hasP (cs.map fun c => pr c.1 c.2) p = true := by
  unfold hasP at *
  rw [List.any_eq_true] at *
  obtain ⟨x, hx, h2⟩ := h
  obtain ⟨y, hy, rfl⟩ := List.mem_map.1 hx
  exact ⟨_, List.mem_map.2 ⟨y, List.mem_of_mem_take hy, rfl⟩, h2⟩

set_option maxRecDepth 100000 in
set_option maxHeartbeats 4000000 in
theorem ropen_any (g : Nat) (s : NS) (m : RL) (a b : Int) (w : World) (h : RefM w g s m) (hq : s.cuts.length ≤ 1048576) :
    Calls Try.prog 15 #[.pointer (some ⟨g, 0, none⟩), .int .i64 a, .int .i64 b] w fun e w' => e = .returned (.bool (s.openB a b)) ∧ Fr (fun _ => False) w w' := by
  have CA := Lib.hid (ris_any g s.N a w (h.cells rfl))
  have CB := Lib.hid (ris_any g s.N b w (h.cells rfl))
  obtain ⟨A, c, hCV, hlc, hcm, hA⟩ := h.cut.form
  obtain ⟨LV, CV, ks⟩ := m
  simp only at *
  subst hCV
  have HC := Lib.hid (fun w' (hf : Fr (fun _ => False) w w') => show w'.cell? ⟨g, 3, none⟩ = some (.slice A s.cuts.length c) from (h.fr0 hf).cells rfl)
  have HR := Lib.hid h.cut
  have HA := Lib.hid hA
  unfold NS.openB NS.is
  clear h hA
  generalize (decide (0 ≤ a) && decide (a < (s.N : Int))) = qa at *
  generalize (decide (0 ≤ b) && decide (b < (s.N : Int))) = qb at *
  cases qa with
  | false =>
    go_enter Try.func15, Try.ntmps15
    go_wp2_with fail
    refine CA.out.mono ?_; rintro e w1 ⟨rfl, rfl⟩
    go_wp2
    go_ret
    exact ⟨rfl, Fr.refl _ _⟩
  | true =>
    cases qb with
    | false =>
      go_enter Try.func15, Try.ntmps15
      go_wp2_with fail
      refine CA.out.mono ?_; rintro e w1 ⟨rfl, rfl⟩
      go_wp2_with fail
      refine CB.out.mono ?_; rintro e w1 ⟨rfl, rfl⟩
      go_wp2
      go_ret
      exact ⟨rfl, Fr.refl _ _⟩
    | true =>
      obtain ⟨n, hn⟩ : ∃ n, s.cuts.length = n := ⟨_, rfl⟩
      have HN := Lib.hid hn
      have hn2 : (n : Int) ≤ 1048576 := by omega
      rw [hn] at HC HR hlc HA
      clear hn hq
      go_enter Try.func15, Try.ntmps15
      go_wp2_with fail
      refine CA.out.mono ?_; rintro e w1 ⟨rfl, rfl⟩
      go_wp2_with fail
      refine CB.out.mono ?_; rintro e w1 ⟨rfl, rfl⟩
      go_wp2_with fail
      go_loopw [7] (fun u wr => ∃ i : Nat, u = .int .i64 (i : Int) ∧ i ≤ n ∧ Fr (fun _ => False) w wr ∧ hasP ((s.cuts.take i).map fun c => pr c.1 c.2) (pr a b) = false) (fun u _ => n - (intOf u).toNat)
      case atStart => exact ⟨0, rfl, Nat.zero_le _, Fr.refl _ _, rfl⟩
      case round =>
        obtain ⟨i, rfl, hi, hf, hno⟩ := hrel
        have HF := Lib.hid hf
        have HNO := Lib.hid hno
        have hi0 : (0 : Int) ≤ (i : Int) := by omega
        have c3 := HC.out wr hf
        clear hf hno
        by_cases hlt : i < n
        · have hlt' : (i : Int) < n := by omega
          obtain ⟨lb, lo, rfl⟩ := HA.out (by omega)
          have hic : i < s.cuts.length := by rw [HN.out]; exact hlt
          have hr := HR.out.fr0 HF.out
          have e0 := hr.cell (cpc_at hic (j := 0) (by omega))
          have e1 := hr.cell (cpc_at hic (j := 1) (by omega))
          rw [Nat.add_zero] at e0
          rw [← Nat.add_assoc] at e1
          have HT := Lib.hid (hasP_take s.cuts (pr a b) hic)
          have hlbs := World.block_lt_of_cell? wr _ e0
          simp only at hlbs
          generalize s.cuts.getD i default = q at *
          obtain ⟨x, y⟩ := q
          obtain ⟨f1, hf1⟩ : ∃ f1, (x == a) = f1 := ⟨_, rfl⟩
          obtain ⟨f2, hf2⟩ : ∃ f2, (y == b) = f2 := ⟨_, rfl⟩
          obtain ⟨f3, hf3⟩ : ∃ f3, (x == b) = f3 := ⟨_, rfl⟩
          obtain ⟨f4, hf4⟩ : ∃ f4, (y == a) = f4 := ⟨_, rfl⟩
          have HD := Lib.hid (show decide (pr a b = pr x y) = ((f1 && f2) || (f3 && f4)) by rw [dec_pr, hf1, hf2, hf3, hf4])
          have FA := Lib.hid (show Fr (fun _ => False) w (wr.alloc (.cells #[.int .i64 x, .int .i64 y] 69)) from HF.out.alloc _)
          clear hr
          cases f1 <;> cases f2 <;> cases f3 <;> cases f4
          all_goals
            go_wp2
          all_goals
            first
            | (refine ⟨⟨i + 1, by simp, by omega, FA.out, by rw [HT.out, HNO.out, HD.out]; rfl⟩, ?_⟩; first | omega | (show _ < _; simp [intOf]; omega))
            | (go_ret
               refine ⟨?_, FA.out⟩
               have : hasP (s.cuts.map fun c => pr c.1 c.2) (pr a b) = true := hasP_mono s.cuts (pr a b) (i + 1) (by rw [HT.out, HNO.out, HD.out]; rfl)
               unfold NS.joins NS.keys
               rw [this]; rfl)
        · obtain rfl : i = n := by omega
          go_wp2
          go_ret
          refine ⟨?_, HF.out⟩
          unfold NS.joins NS.keys
          have := HNO.out
          rw [List.take_of_length_le (by rw [HN.out]; exact Nat.le_refl _)] at this
          rw [this]; rfl
end Go.Proofs.Ytmlckocgahfnkaa
