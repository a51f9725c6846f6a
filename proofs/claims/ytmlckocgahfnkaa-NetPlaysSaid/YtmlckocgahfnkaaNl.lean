/- The net's pull. -/
import Derived.Test.YtmlckocgahfnkaaNk
import Derived.Deep.DeepCutAuto
import Derived.Deep.RegionWith
namespace Go.Proofs.Ytmlckocgahfnkaa
open Go.RowKit

theorem flat_erase {α : Type} {f : α → List Value} {k : Nat} (hf : ∀ a, (f a).length = k) (l : List α) (i : Nat) : (l.flatMap f).take (i * k) ++ (l.flatMap f).drop ((i + 1) * k) = (l.eraseIdx i).flatMap f := by
  rw [flat_take hf, flat_drop hf, List.eraseIdx_eq_take_drop_succ, List.flatMap_append]

/-- What a packet that waits no more leaves. -/
theorem pull_fin {w w3 : World} {g mb i : Nat} {s : NS} {b off off3 c c3 : Nat} {ps : List PL} (h : NetM w g s ⟨mb, .slice (some ⟨b, off, none⟩) ps.length c, ps⟩) (hi : i < ps.length)
    (hr : Row w3 67 4 (.slice (some ⟨b, off3, none⟩) (ps.length - 1) c3) (ps.length - 1) ((plc ps).take (i * 4) ++ (plc ps).drop ((i + 1) * 4))) (hf : Fr (fun k => k = b) w w3)
    (hb : Bk w3 g 59 (ncells s ⟨mb, .slice (some ⟨b, off, none⟩) ps.length c, ps⟩)) :
    NetM (w3.setCell ⟨g, 3, none⟩ (.slice (some ⟨b, off3, none⟩) (ps.length - 1) c3)) g (s.drop i) ⟨mb, .slice (some ⟨b, off3, none⟩) (ps.length - 1) c3, ps.eraseIdx i⟩ ∧
      Fr (NW g ⟨mb, .slice (some ⟨b, off, none⟩) ps.length c, ps⟩) w (w3.setCell ⟨g, 3, none⟩ (.slice (some ⟨b, off3, none⟩) (ps.length - 1) c3)) ∧ Hand (w3.setCell ⟨g, 3, none⟩ (.slice (some ⟨b, off3, none⟩) (ps.length - 1) c3)) (ps.getD i default) := by
  have f4 := Bk.fr_set (w := w3) (g := g) 3 (.slice (some ⟨b, off3, none⟩) (ps.length - 1) c3)
  have hf' : Fr (fun k => (Value.slice (some ⟨b, off, none⟩) ps.length c).ownBlock = some k) w w3 := hf.mono (fun x _ e => by rw [e]; rfl)
  have hand : ∀ q, q ∈ ps → Hand (w3.setCell ⟨g, 3, none⟩ (.slice (some ⟨b, off3, none⟩) (ps.length - 1) c3)) q := fun q hq =>
    ((h.each q hq).fr hf' (fun k hk e => h.apart hq (.inr (.inr e)) hk)).fr f4 (fun k hk e => h.apart hq (.inl e) hk)
  refine ⟨⟨?_, h.n9, ?_, (h.map.fr hf' h.rowm).fr f4 (fun e => h.mapg e.symm), ?_, ?_, fun q hq => hand q (List.mem_of_mem_eraseIdx hq)⟩, (hf'.mono (fun _ _ e => .inr (.inr e))).trans f4 (fun _ _ e => .inl e), hand _ (getD_mem hi)⟩
  · intro q hq
    exact h.ok q (List.mem_of_mem_eraseIdx hq)
  · simpa [ncells, NS.drop] using hb.set 3 (.slice (some ⟨b, off3, none⟩) (ps.length - 1) c3)
  · have hne := hr.ne hb (by decide)
    have h1 := hr.fr f4 (fun k e e2 => hne (by rw [e, e2]))
    unfold plc at h1 ⊢
    rw [flat_erase PL.cells_len] at h1
    have e1 : (ps.eraseIdx i).length = ps.length - 1 := by rw [List.length_eraseIdx, if_pos hi]
    simp only [e1]
    exact h1
  · simp only [NS.drop]
    rw [h.l]; simp [List.eraseIdx_eq_take_drop_succ, List.map_take, List.map_drop]

theorem drop_row {cur : Array Value} {off k : Nat} {cs zs : List Value} (hc : ∀ j, j < cs.length → cur[off + j]? = cs[j]?) (hl : cs.length = (k + 1) * 4) {i : Nat} (hi : i ≤ k) (hz : zs.length = 4) (hfit : off + (k + 1) * 4 ≤ cur.size) :
    ∀ j, j < (cs.take (i * 4) ++ cs.drop ((i + 1) * 4)).length → (lay (lay cur (off + 4) (cs.take (i * 4))) off zs)[off + 4 + j]? = (cs.take (i * 4) ++ cs.drop ((i + 1) * 4))[j]? := by
  intro j hj
  have hi4 : i * 4 ≤ k * 4 := Nat.mul_le_mul_right _ hi
  have e1 : (cs.take (i * 4)).length = i * 4 := by rw [List.length_take]; omega
  have e2 : (cs.drop ((i + 1) * 4)).length = k * 4 - i * 4 := by rw [List.length_drop]; omega
  simp only [List.length_append, e1, e2] at hj
  rw [lay_out _ _ _ _ (.inr (by omega))]
  by_cases h0 : j < i * 4
  · rw [lay_in _ _ _ _ (by omega) (by omega), List.getElem?_append_left (by omega)]
  · rw [lay_out _ _ _ _ (.inr (by omega)), List.getElem?_append_right (by omega), e1, List.getElem?_drop, show off + 4 + j = off + (4 + j) by omega, hc _ (by omega)]
    congr 1; omega

/-- What pull answers and leaves. -/
def Pulled (w : World) (g i : Nat) (s : NS) (m : NL) (e : Ending) (w' : World) : Prop :=
  ∃ (p : PL) (m' : NL), e = .returned (.agg #[.int .i64 p.pk.fr, .int .i64 p.pk.to, .int .i64 (p.pk.n : Int), p.fn]) ∧ p.pk = s.l.getD i default ∧ Hand w' p ∧ (∀ k, HB p k → NB g m k) ∧ NetM w' g (s.drop i) m' ∧ Fr (NW g m) w w' ∧ ∀ k, NB g m' k → NB g m k

/-- What the result's cell is for. -/
theorem pull_end {w w4 : World} {g i : Nat} {s : NS} {m m' : NL} {p : PL} {r : Nat} (h : NetM w g s m) (hr : w.heap.size ≤ r) (h1 : NetM w4 g (s.drop i) m') (h2 : Hand w4 p) (hp : ∀ k, HB p k → NB g m k) (hb : ∀ k, NB g m' k → NB g m k) (h3 : Fr (NW g m) w w4) {w5 : World} (hf : Fr (fun k => k = r) w4 w5) :
    Hand w5 p ∧ NetM w5 g (s.drop i) m' ∧ Fr (NW g m) w w5 :=
  ⟨h2.fr hf (fun k hk e => by have := h.lt (hp k hk); omega), h1.fr hf (fun k hk e => by have := h.lt (hb k hk); omega), h3.trans hf (fun x hx e => by omega)⟩

set_option maxRecDepth 100000 in
set_option maxHeartbeats 4000000 in
theorem pull_back (g i : Nat) (s : NS) (m : NL) (w : World) (h : NetM w g s m) (hi : i < s.l.length) (hq : s.l.length ≤ 1048576) (hh : ¬ ((i : Int) < ((s.l.length : Nat) : Int) / 2)) :
    Calls Try.prog 39 #[.pointer (some ⟨g, 0, none⟩), .int .i64 (i : Int)] w fun e w' => Pulled w g i s m e w' := by
  obtain ⟨A, c, hLV, hlc, hcm, hA⟩ := h.row.form
  have hll := h.ll
  obtain ⟨mb, LV, ps⟩ := m
  simp only at *
  subst hLV
  obtain ⟨b, off, rfl⟩ := hA (by omega)
  have hip : i < ps.length := by omega
  obtain ⟨n, hn⟩ : ∃ n, ps.length = n + 1 := ⟨ps.length - 1, by omega⟩
  obtain ⟨p, hp⟩ : ∃ p, ps.getD i default = p := ⟨_, rfl⟩
  obtain ⟨e0, e1, e2, e3⟩ := h.at4 hip
  rw [hp] at e0 e1 e2 e3
  have c3 : w.cell? ⟨g, 3, none⟩ = some (.slice (some ⟨b, off, none⟩) (n + 1) c) := by rw [← hn]; exact h.cells rfl
  have hgl := h.blk.lt
  have hbl : b < w.heap.size := h.row.lt rfl
  have H := Lib.hid h
  have HP := Lib.hid hp
  have HN := Lib.hid hn
  have HLL := Lib.hid hll
  have HIP := Lib.hid hip
  have hin : (i : Int) < (n : Int) + 1 := by omega
  have hi0 : (0 : Int) ≤ (i : Int) := by omega
  have HH := Lib.hid hh
  unfold maxLen at hcm
  have hcm' : (c : Int) ≤ 9223372036854775807 := by omega
  have hnb : (n : Int) ≤ 1048576 := by omega
  have hn0 : (0 : Int) ≤ (n : Int) := by omega
  have hw1 : IntKind.i64.wrap ((i : Int) + 1) = (i : Int) + 1 := by rw [IntKind.wrap_i64]; omega
  obtain ⟨cp, hf⟩ : ∃ cp, p.fn = .func (.func 44) #[] cp := ⟨_, rfl⟩
  have HFN := Lib.hid hf
  rw [hf] at e3

  rw [hn] at hlc
  have fW : Fr (fun _ => False) w ((w.alloc (.cells #[.int .i64 0, .int .i64 0, .int .i64 0, .nilFunc] 67)).alloc (.cells #[.int .i64 p.pk.fr, .int .i64 p.pk.to, .int .i64 (p.pk.n : Int), .func (.func 44) #[] cp] 67)) := ((Fr.refl _ _).alloc _).alloc _
  have kr : Bk ((w.alloc (.cells #[.int .i64 0, .int .i64 0, .int .i64 0, .nilFunc] 67)).alloc (.cells #[.int .i64 p.pk.fr, .int .i64 p.pk.to, .int .i64 (p.pk.n : Int), .func (.func 44) #[] cp] 67)) w.heap.size 67 #[.int .i64 0, .int .i64 0, .int .i64 0, .nilFunc] := (Bk.new w _ _).alloc _
  have kp : Bk ((w.alloc (.cells #[.int .i64 0, .int .i64 0, .int .i64 0, .nilFunc] 67)).alloc (.cells #[.int .i64 p.pk.fr, .int .i64 p.pk.to, .int .i64 (p.pk.n : Int), .func (.func 44) #[] cp] 67)) (w.heap.size + 1) 67 #[.int .i64 p.pk.fr, .int .i64 p.pk.to, .int .i64 (p.pk.n : Int), .func (.func 44) #[] cp] := by
    have h1 := Bk.new (w.alloc (.cells #[.int .i64 0, .int .i64 0, .int .i64 0, .nilFunc] 67)) 67 #[.int .i64 p.pk.fr, .int .i64 p.pk.to, .int .i64 (p.pk.n : Int), .func (.func 44) #[] cp]
    rw [show (w.alloc (.cells #[.int .i64 0, .int .i64 0, .int .i64 0, .nilFunc] 67)).heap.size = w.heap.size + 1 by simp] at h1
    exact h1
  have hhn : decide ((i : Int) < ((n : Int) + 1) / 2) = false := by
    rw [decide_eq_false_iff_not]
    rw [← hll, hn] at hh
    simpa using hh
  have hrow := h.row.fr0 fW
  simp only at hrow
  rw [hn] at hrow
  have C := Lib.hid (delete_any b off n c i (plc ps) ((w.alloc (.cells #[.int .i64 0, .int .i64 0, .int .i64 0, .nilFunc] 67)).alloc (.cells #[.int .i64 p.pk.fr, .int .i64 p.pk.to, .int .i64 (p.pk.n : Int), .func (.func 44) #[] cp] 67)) hrow (by omega) (plc_one ps) (by omega))
  have HKR := Lib.hid kr
  have HKP := Lib.hid kp
  have HFW := Lib.hid fW
  have hgW := Lib.hid (h.blk.fr fW (fun h => h))
  clear h hp hn hll hip hh hf hA hrow kr kp fW HH
  go_enter Try.func39, Try.ntmps39
  go_wp2_with fail
  clear e0 e1 e2 e3 c3
  generalize hW : ((w.alloc (.cells #[.int .i64 0, .int .i64 0, .int .i64 0, .nilFunc] 67)).alloc (.cells #[.int .i64 p.pk.fr, .int .i64 p.pk.to, .int .i64 (p.pk.n : Int), .func (.func 44) #[] cp] 67)) = W at *
  clear hW
  refine C.out.mono ?_; rintro e w3 ⟨rfl, hr3, hf3⟩
  have bg := hgW.out.fr hf3 (fun e => H.out.rowg (by rw [e]; rfl))
  have br := HKR.out.fr hf3 (by omega)
  have bp := HKP.out.fr hf3 (by omega)
  have k3 : w3.cell? ⟨g, 3, none⟩ = some (.slice (some ⟨b, off, none⟩) ps.length c) := bg.cell 3
  have z3 := bg.frozen 3
  have BR := Lib.hid br
  have BG := Lib.hid bg
  have HR3 := Lib.hid hr3
  have HF3 := Lib.hid hf3
  have p0 : w3.cell? ⟨w.heap.size + 1, 0, none⟩ = some (.int .i64 p.pk.fr) := bp.cell 0
  have p1 : w3.cell? ⟨w.heap.size + 1, 1, none⟩ = some (.int .i64 p.pk.to) := bp.cell 1
  have p2 : w3.cell? ⟨w.heap.size + 1, 2, none⟩ = some (.int .i64 (p.pk.n : Int)) := bp.cell 2
  have p3 : w3.cell? ⟨w.heap.size + 1, 3, none⟩ = some (.func (.func 44) #[] cp) := bp.cell 3
  have r0 : w3.cell? ⟨w.heap.size, 0, none⟩ = some (.int .i64 0) := br.cell 0
  have r1 : w3.cell? ⟨w.heap.size, 1, none⟩ = some (.int .i64 0) := br.cell 1
  have r2 : w3.cell? ⟨w.heap.size, 2, none⟩ = some (.int .i64 0) := br.cell 2
  have r3 : w3.cell? ⟨w.heap.size, 3, none⟩ = some .nilFunc := br.cell 3
  have y0 := br.frozen 0
  have y1 := br.frozen 1
  have y2 := br.frozen 2
  have y3 := br.frozen 3
  have hg1 : ¬ (g = w.heap.size) := by omega
  have hg2 : ¬ (g = w.heap.size + 1) := by omega
  have hg3 : ¬ (w.heap.size = g) := by omega
  have hg4 : ¬ (w.heap.size + 1 = g) := by omega
  clear bg br bp hr3 hf3 C
  go_wp2_with fail
  have hf4 : Fr (fun k => k = b) w w3 := (HFW.out.mono (fun _ _ h => h.elim)).trans HF3.out (fun _ _ h => h)
  have hfin := pull_fin (i := i) (off3 := off) (c3 := c) H.out HIP.out (w3 := w3) (by rw [HN.out, Nat.add_sub_cancel]; exact HR3.out) hf4 BG.out
  rw [HN.out, Nat.add_sub_cancel] at hfin
  rw [HP.out] at hfin
  obtain ⟨n1, n2, n3⟩ := hfin
  have n2' : Fr (NW g ⟨mb, .slice (some ⟨b, off, none⟩) ps.length c, ps⟩) w (w3.setCell ⟨g, 3, none⟩ (.slice (some ⟨b, off, none⟩) n c)) := by rw [HN.out]; exact n2
  have hpm : p ∈ ps := by rw [← HP.out]; exact getD_mem HIP.out
  have hpb : ∀ k, HB p k → NB g ⟨mb, .slice (some ⟨b, off, none⟩) ps.length c, ps⟩ k := fun k hk => .inr ⟨p, hpm, hk⟩
  have hmb : ∀ k, NB g ⟨mb, .slice (some ⟨b, off, none⟩) n c, ps.eraseIdx i⟩ k → NB g ⟨mb, .slice (some ⟨b, off, none⟩) ps.length c, ps⟩ k := fun k hk => by
    rcases hk with (e | e | e) | ⟨q, hq, e⟩
    · exact .inl (.inl e)
    · exact .inl (.inr (.inl e))
    · exact .inl (.inr (.inr e))
    · exact .inr ⟨q, List.mem_of_mem_eraseIdx hq, e⟩
  have brs := BR.out.far (p := ⟨g, 3, none⟩) (fun e => by simp only at e; omega) (.slice (some ⟨b, off, none⟩) n c)
  have hb := (((brs.set 0 (.int .i64 p.pk.fr)).set 1 (.int .i64 p.pk.to)).set 2 (.int .i64 (p.pk.n : Int))).set 3 (.func (.func 44) #[] cp)
  have f5 := (((Bk.fr_set (g := w.heap.size) (w := w3.setCell ⟨g, 3, none⟩ (.slice (some ⟨b, off, none⟩) n c)) 0 (.int .i64 p.pk.fr)).set 1 (.int .i64 p.pk.to)).set 2 (.int .i64 (p.pk.n : Int))).set 3 (.func (.func 44) #[] cp)
  have m0 := hb.cell 0
  have m1 := hb.cell 1
  have m2 := hb.cell 2
  have m3 := hb.cell 3
  simp at m0 m1 m2 m3
  obtain ⟨q1, q2, q3⟩ := pull_end H.out (Nat.le_refl _) n1 n3 hpb hmb n2' f5
  refine bodyPost_ret (v := .agg #[.int .i64 p.pk.fr, .int .i64 p.pk.to, .int .i64 (p.pk.n : Int), .func (.func 44) #[] cp]) (by simp [results, Try.results39, go_sem, m0, m1, m2, m3]) rfl
    ⟨p, _, by rw [HFN.out], by rw [H.out.pk HIP.out, HP.out], q1, hpb, q2, q3, hmb⟩

set_option maxRecDepth 100000 in
set_option maxHeartbeats 4000000 in
theorem pull_front (g i : Nat) (s : NS) (m : NL) (w : World) (h : NetM w g s m) (hi : i < s.l.length) (hq : s.l.length ≤ 1048576) (hh : (i : Int) < ((s.l.length : Nat) : Int) / 2) :
    Calls Try.prog 39 #[.pointer (some ⟨g, 0, none⟩), .int .i64 (i : Int)] w fun e w' => Pulled w g i s m e w' := by
  obtain ⟨A, c, hLV, hlc, hcm, hA⟩ := h.row.form
  have hll := h.ll
  obtain ⟨mb, LV, ps⟩ := m
  simp only at *
  subst hLV
  obtain ⟨b, off, rfl⟩ := hA (by omega)
  have hip : i < ps.length := by omega
  obtain ⟨n, hn⟩ : ∃ n, ps.length = n + 1 := ⟨ps.length - 1, by omega⟩
  obtain ⟨p, hp⟩ : ∃ p, ps.getD i default = p := ⟨_, rfl⟩
  obtain ⟨e0, e1, e2, e3⟩ := h.at4 hip
  rw [hp] at e0 e1 e2 e3
  have c3 : w.cell? ⟨g, 3, none⟩ = some (.slice (some ⟨b, off, none⟩) (n + 1) c) := by rw [← hn]; exact h.cells rfl
  have hgl := h.blk.lt
  have hbl : b < w.heap.size := h.row.lt rfl
  have H := Lib.hid h
  have HP := Lib.hid hp
  have HN := Lib.hid hn
  have HLL := Lib.hid hll
  have HIP := Lib.hid hip
  have hin : (i : Int) < (n : Int) + 1 := by omega
  have hi0 : (0 : Int) ≤ (i : Int) := by omega
  have HH := Lib.hid hh
  unfold maxLen at hcm
  have hcm' : (c : Int) ≤ 9223372036854775807 := by omega
  have hnb : (n : Int) ≤ 1048576 := by omega
  have hn0 : (0 : Int) ≤ (n : Int) := by omega
  have hw1 : IntKind.i64.wrap ((i : Int) + 1) = (i : Int) + 1 := by rw [IntKind.wrap_i64]; omega
  obtain ⟨cp, hf⟩ : ∃ cp, p.fn = .func (.func 44) #[] cp := ⟨_, rfl⟩
  have HFN := Lib.hid hf
  rw [hf] at e3

  rw [hn] at hlc
  have fW : Fr (fun _ => False) w ((w.alloc (.cells #[.int .i64 0, .int .i64 0, .int .i64 0, .nilFunc] 67)).alloc (.cells #[.int .i64 p.pk.fr, .int .i64 p.pk.to, .int .i64 (p.pk.n : Int), .func (.func 44) #[] cp] 67)) := ((Fr.refl _ _).alloc _).alloc _
  have kr : Bk ((w.alloc (.cells #[.int .i64 0, .int .i64 0, .int .i64 0, .nilFunc] 67)).alloc (.cells #[.int .i64 p.pk.fr, .int .i64 p.pk.to, .int .i64 (p.pk.n : Int), .func (.func 44) #[] cp] 67)) w.heap.size 67 #[.int .i64 0, .int .i64 0, .int .i64 0, .nilFunc] := (Bk.new w _ _).alloc _
  have kp : Bk ((w.alloc (.cells #[.int .i64 0, .int .i64 0, .int .i64 0, .nilFunc] 67)).alloc (.cells #[.int .i64 p.pk.fr, .int .i64 p.pk.to, .int .i64 (p.pk.n : Int), .func (.func 44) #[] cp] 67)) (w.heap.size + 1) 67 #[.int .i64 p.pk.fr, .int .i64 p.pk.to, .int .i64 (p.pk.n : Int), .func (.func 44) #[] cp] := by
    have h1 := Bk.new (w.alloc (.cells #[.int .i64 0, .int .i64 0, .int .i64 0, .nilFunc] 67)) 67 #[.int .i64 p.pk.fr, .int .i64 p.pk.to, .int .i64 (p.pk.n : Int), .func (.func 44) #[] cp]
    rw [show (w.alloc (.cells #[.int .i64 0, .int .i64 0, .int .i64 0, .nilFunc] 67)).heap.size = w.heap.size + 1 by simp] at h1
    exact h1
  have hhn : (i : Int) < ((n : Int) + 1) / 2 := by
    rw [← hll, hn] at hh
    simpa using hh
  have hrow := h.row.fr0 fW
  simp only at hrow
  rw [hn] at hrow
  have HKR := Lib.hid kr
  have HKP := Lib.hid kp
  have HFW := Lib.hid fW
  have hgW := Lib.hid (h.blk.fr fW (fun h => h))
  have hgb : ¬ (g = b) := fun e => h.rowg (by rw [e]; rfl)
  have hn1 : i + 1 ≤ n := by omega
  have hc1 : ¬ (c = 1) := by omega
  have hi1 : (1 : Int) ≤ (i : Int) + 1 := by omega
  have htn : ((i : Int) + 1).toNat = i + 1 := by omega
  have hb0 : (0 : Int) ≤ (i : Int) + 1 := by omega
  have hbc : (i : Int) + 1 ≤ (c : Int) := by omega
  have hic : i ≤ c := by omega
  have hicI : (i : Int) ≤ (c : Int) := by omega
  have h1c : (1 : Int) ≤ (c : Int) := by omega
  have h1n : (1 : Int) ≤ (n : Int) + 1 := by omega
  clear h hp hn hll hip hh hf hA kr kp fW HH
  go_enter Try.func39, Try.ntmps39
  go_wp2_with fail
  clear e0 e1 e2 e3 c3
  generalize hW : ((w.alloc (.cells #[.int .i64 0, .int .i64 0, .int .i64 0, .nilFunc] 67)).alloc (.cells #[.int .i64 p.pk.fr, .int .i64 p.pk.to, .int .i64 (p.pk.n : Int), .func (.func 44) #[] cp] 67)) = W at *
  clear hW
  obtain ⟨hl, hh⟩ := hrow
  rcases hh with ⟨e, _⟩ | ⟨b', off', cap, cur, e, hb, hnc, _, hsz, hc⟩
  · cases e
  injection e with e1 _ e3
  injection e1 with e1
  injection e1 with e1 e4
  subst e1 e4 e3
  have ht : ((plc ps).take (i * 4)).length = i * 4 := by rw [List.length_take, hl]; omega
  have hb1 : Bk W.drew b 67 cur := hb.drew
  have hcut : ∀ j u, ((plc ps).take (i * 4))[j]? = some u → W.drew.cell? ⟨b, off + j, none⟩ = some u := fun j u hu => by
    rw [List.getElem?_take] at hu
    split at hu
    · rw [hb1.cell, hc _ (List.getElem?_eq_some_iff.1 hu).1, hu]
    · cases hu
  have hb2 := hb1.setCells ((plc ps).take (i * 4)) (off + 4)
  have HB1 := Lib.hid hb1
  have HB2 := Lib.hid hb2
  have HCUT := Lib.hid hcut
  have HT := Lib.hid (And.intro ht hl)
  have HSZ := Lib.hid hsz
  have HC := Lib.hid hc
  clear hb hb1 hb2 hcut hl hc hsz
  refine wp_region_Z [7] (fun w' => Fr (fun _ => False) W w') (by kernel_rfl) ((Fr.refl _ _).drew) (fun hHeld => ?_)
  refine anyZ_pure (i := 0) (v := ?_) (some 20) rfl rfl (by kernel_rfl) (by kernel_rfl) (by kernel_rfl) (by kernel_rfl) (fun _ _ _ h => h) (Or.inl ⟨by rfl, ?_⟩) (fun _ => hHeld) ?_
  rotate_left
  · intro w' _
    go_simp
    first | done | with_reducible rfl
  try simp only [Go.Act.put, List.setIfInBounds_toArray, List.set_cons_zero, List.set_cons_succ]
  refine anyZ_pure (i := 1) (v := ?_) (some 21) rfl rfl (by kernel_rfl) (by kernel_rfl) (by kernel_rfl) (by kernel_rfl) (fun _ _ _ h => h) (Or.inl ⟨by rfl, ?_⟩) (fun _ => hHeld) ?_
  rotate_left
  · intro w' _
    go_simp
    first | done | with_reducible rfl
  try simp only [Go.Act.put, List.setIfInBounds_toArray, List.set_cons_zero, List.set_cons_succ]
  refine anyZ_pure (i := 2) (v := ?_) (some 22) rfl rfl (by kernel_rfl) (by kernel_rfl) (by kernel_rfl) (by kernel_rfl) (fun _ _ _ h => h) (Or.inl ⟨by rfl, ?_⟩) (fun _ => hHeld) ?_
  rotate_left
  · intro w' _
    go_simp
    first | done | with_reducible rfl
  try simp only [Go.Act.put, List.setIfInBounds_toArray, List.set_cons_zero, List.set_cons_succ]
  refine anyZ_pure (i := 3) (v := ?_) (some 23) rfl rfl (by kernel_rfl) (by kernel_rfl) (by kernel_rfl) (by kernel_rfl) (fun _ _ _ h => h) (Or.inl ⟨by rfl, ?_⟩) (fun _ => hHeld) ?_
  rotate_left
  · intro w' _
    go_simp
    first | done | with_reducible rfl
  try simp only [Go.Act.put, List.setIfInBounds_toArray, List.set_cons_zero, List.set_cons_succ]
  refine anyZ_pure (i := 4) (v := ?_) (some 24) rfl rfl (by kernel_rfl) (by kernel_rfl) (by kernel_rfl) (by kernel_rfl) (fun _ _ _ h => h) (Or.inl ⟨by rfl, ?_⟩) (fun _ => hHeld) ?_
  rotate_left
  · intro w' _
    go_simp
    first | done | with_reducible rfl
  try simp only [Go.Act.put, List.setIfInBounds_toArray, List.set_cons_zero, List.set_cons_succ]
  refine anyZ_pure (i := 5) (v := ?_) (some 25) rfl rfl (by kernel_rfl) (by kernel_rfl) (by kernel_rfl) (by kernel_rfl) (fun _ _ _ h => h) (Or.inl ⟨by rfl, ?_⟩) (fun _ => hHeld) ?_
  rotate_left
  · intro w' _
    go_simp
    first | done | with_reducible rfl
  try simp only [Go.Act.put, List.setIfInBounds_toArray, List.set_cons_zero, List.set_cons_succ]
  refine anyZ_pure (i := 6) (v := ?_) (some 26) rfl rfl (by kernel_rfl) (by kernel_rfl) (by kernel_rfl) (by kernel_rfl) (fun _ _ _ h => h) (Or.inl ⟨by rfl, ?_⟩) (fun _ => hHeld) ?_
  rotate_left
  · intro w' _
    go_simp
    first | done | with_reducible rfl
  try simp only [Go.Act.put, List.setIfInBounds_toArray, List.set_cons_zero, List.set_cons_succ]
  refine anyZ_ready (rs := [7]) (by kernel_rfl) (by simp) ?_
  refine AllZ.last rfl (by kernel_rfl) (fun K hK => ?_) AllZ.nil
  refine stepOf_copyR Try.teP rfl (.tmp 23) (.tmp 26) rfl HB1.out (off := off + 4) rfl (m := i) rfl ((plc ps).take (i * 4)) (by simp only [Nat.min_def]; split <;> omega) HT.out.1 (fun _ => ⟨b, off, rfl, HCUT.out⟩) (fun u hu => plc_one ps u (List.mem_of_mem_take hu)) (by have := HSZ.out; omega) ?_
  refine hK.out _ _ ?_
  clear hK K
  try change anyZ _ _ _ _ _ _ _ _ (Go.Act.put _ (some 27) _) _
  try simp only [Go.Act.put, List.setIfInBounds_toArray, List.set_cons_zero, List.set_cons_succ]
  refine anyZ_done (by kernel_rfl) ?_ _
  clear hHeld
  have f2 : Fr (fun k => k = b) W (W.drew.setCells b (off + 4) ((plc ps).take (i * 4))) := Fr.setCells _ _ (Fr.refl _ _).drew (fun _ => rfl)
  have HF2 := Lib.hid f2
  have HSL := Lib.hid (by rw [lay_size]; exact HSZ.out : off + c * 4 ≤ (lay cur (off + 4) ((plc ps).take (i * 4))).size)
  generalize hW2 : W.drew.setCells b (off + 4) ((plc ps).take (i * 4)) = w2 at *
  clear hW2 f2
  have hcs : (lay cur (off + 4) ((plc ps).take (i * 4))).size = cur.size := lay_size _ _ _
  obtain ⟨v0, s0⟩ := Option.isSome_iff_exists.1 (HB2.out.there (i := off) (by have := HSZ.out; omega))
  obtain ⟨v1, s1⟩ := Option.isSome_iff_exists.1 (HB2.out.there (i := off + 1) (by have := HSZ.out; omega))
  obtain ⟨v2, s2⟩ := Option.isSome_iff_exists.1 (HB2.out.there (i := off + 2) (by have := HSZ.out; omega))
  obtain ⟨v3, s3⟩ := Option.isSome_iff_exists.1 (HB2.out.there (i := off + 3) (by have := HSZ.out; omega))
  have t0 := HB2.out.frozen off
  have t1 := HB2.out.frozen (off + 1)
  have t2 := HB2.out.frozen (off + 2)
  have t3 := HB2.out.frozen (off + 3)
  clear hcs
  go_upto_region 6 with (fail)
  have f3 : Fr (fun k => k = b) w2 ((((w2.setCell ⟨b, off, none⟩ (.int .i64 0)).setCell ⟨b, off + 1, none⟩ (.int .i64 0)).setCell ⟨b, off + 2, none⟩ (.int .i64 0)).setCell ⟨b, off + 3, none⟩ .nilFunc) := (((Bk.fr_set _ _).set _ _).set _ _).set _ _
  have hb3 : Bk ((((w2.setCell ⟨b, off, none⟩ (.int .i64 0)).setCell ⟨b, off + 1, none⟩ (.int .i64 0)).setCell ⟨b, off + 2, none⟩ (.int .i64 0)).setCell ⟨b, off + 3, none⟩ .nilFunc) b 67 (lay (lay cur (off + 4) ((plc ps).take (i * 4))) off [.int .i64 0, .int .i64 0, .int .i64 0, .nilFunc]) := (((HB2.out.set off (.int .i64 0)).set (off + 1) (.int .i64 0)).set (off + 2) (.int .i64 0)).set (off + 3) .nilFunc
  clear s0 s1 s2 s3 t0 t1 t2 t3
  generalize ((((w2.setCell ⟨b, off, none⟩ (.int .i64 0)).setCell ⟨b, off + 1, none⟩ (.int .i64 0)).setCell ⟨b, off + 2, none⟩ (.int .i64 0)).setCell ⟨b, off + 3, none⟩ .nilFunc) = w3 at *
  have HF3 := Lib.hid (HF2.out.trans f3 (fun _ _ h => h))
  have hrr : Row w3 67 4 (.slice (some ⟨b, off + 4, none⟩) n (c - 1)) n ((plc ps).take (i * 4) ++ (plc ps).drop ((i + 1) * 4)) := by
    refine ⟨?_, .inr ⟨b, off + 4, c - 1, _, rfl, hb3, by omega, by unfold maxLen; omega, by rw [lay_size, lay_size]; have := HSZ.out; omega, drop_row HC.out HT.out.2 (by omega) rfl (by have := HSZ.out; omega)⟩⟩
    rw [List.length_append, HT.out.1, List.length_drop, HT.out.2]; omega
  have HR3 := Lib.hid hrr
  have bg := hgW.out.fr HF3.out hgb
  have br := HKR.out.fr HF3.out (by omega)
  have bp := HKP.out.fr HF3.out (by omega)
  have k3 : w3.cell? ⟨g, 3, none⟩ = some (.slice (some ⟨b, off, none⟩) ps.length c) := bg.cell 3
  have z3 := bg.frozen 3
  have BR := Lib.hid br
  have BG := Lib.hid bg
  have p0 : w3.cell? ⟨w.heap.size + 1, 0, none⟩ = some (.int .i64 p.pk.fr) := bp.cell 0
  have p1 : w3.cell? ⟨w.heap.size + 1, 1, none⟩ = some (.int .i64 p.pk.to) := bp.cell 1
  have p2 : w3.cell? ⟨w.heap.size + 1, 2, none⟩ = some (.int .i64 (p.pk.n : Int)) := bp.cell 2
  have p3 : w3.cell? ⟨w.heap.size + 1, 3, none⟩ = some (.func (.func 44) #[] cp) := bp.cell 3
  have r0 : w3.cell? ⟨w.heap.size, 0, none⟩ = some (.int .i64 0) := br.cell 0
  have r1 : w3.cell? ⟨w.heap.size, 1, none⟩ = some (.int .i64 0) := br.cell 1
  have r2 : w3.cell? ⟨w.heap.size, 2, none⟩ = some (.int .i64 0) := br.cell 2
  have r3 : w3.cell? ⟨w.heap.size, 3, none⟩ = some .nilFunc := br.cell 3
  have y0 := br.frozen 0
  have y1 := br.frozen 1
  have y2 := br.frozen 2
  have y3 := br.frozen 3
  have hg1 : ¬ (g = w.heap.size) := by omega
  have hg2 : ¬ (g = w.heap.size + 1) := by omega
  have hg3 : ¬ (w.heap.size = g) := by omega
  have hg4 : ¬ (w.heap.size + 1 = g) := by omega
  clear bg br bp hrr hb3 f3
  go_wp2_with fail
  have hf4 : Fr (fun k => k = b) w w3 := (HFW.out.mono (fun _ _ h => h.elim)).trans HF3.out (fun _ _ h => h)
  have hfin := pull_fin (i := i) (off3 := off + 4) (c3 := (c - 1)) H.out HIP.out (w3 := w3) (by rw [HN.out, Nat.add_sub_cancel]; exact HR3.out) hf4 BG.out
  rw [HN.out, Nat.add_sub_cancel] at hfin
  rw [HP.out] at hfin
  obtain ⟨n1, n2, n3⟩ := hfin
  have n2' : Fr (NW g ⟨mb, .slice (some ⟨b, off, none⟩) ps.length c, ps⟩) w (w3.setCell ⟨g, 3, none⟩ (.slice (some ⟨b, off + 4, none⟩) n (c - 1))) := by rw [HN.out]; exact n2
  have hpm : p ∈ ps := by rw [← HP.out]; exact getD_mem HIP.out
  have hpb : ∀ k, HB p k → NB g ⟨mb, .slice (some ⟨b, off, none⟩) ps.length c, ps⟩ k := fun k hk => .inr ⟨p, hpm, hk⟩
  have hmb : ∀ k, NB g ⟨mb, .slice (some ⟨b, off + 4, none⟩) n (c - 1), ps.eraseIdx i⟩ k → NB g ⟨mb, .slice (some ⟨b, off, none⟩) ps.length c, ps⟩ k := fun k hk => by
    rcases hk with (e | e | e) | ⟨q, hq, e⟩
    · exact .inl (.inl e)
    · exact .inl (.inr (.inl e))
    · exact .inl (.inr (.inr e))
    · exact .inr ⟨q, List.mem_of_mem_eraseIdx hq, e⟩
  have brs := BR.out.far (p := ⟨g, 3, none⟩) (fun e => by simp only at e; omega) (.slice (some ⟨b, off + 4, none⟩) n (c - 1))
  have hb := (((brs.set 0 (.int .i64 p.pk.fr)).set 1 (.int .i64 p.pk.to)).set 2 (.int .i64 (p.pk.n : Int))).set 3 (.func (.func 44) #[] cp)
  have f5 := (((Bk.fr_set (g := w.heap.size) (w := w3.setCell ⟨g, 3, none⟩ (.slice (some ⟨b, off + 4, none⟩) n (c - 1))) 0 (.int .i64 p.pk.fr)).set 1 (.int .i64 p.pk.to)).set 2 (.int .i64 (p.pk.n : Int))).set 3 (.func (.func 44) #[] cp)
  have m0 := hb.cell 0
  have m1 := hb.cell 1
  have m2 := hb.cell 2
  have m3 := hb.cell 3
  simp at m0 m1 m2 m3
  obtain ⟨q1, q2, q3⟩ := pull_end H.out (Nat.le_refl _) n1 n3 hpb hmb n2' f5
  refine bodyPost_ret (v := .agg #[.int .i64 p.pk.fr, .int .i64 p.pk.to, .int .i64 (p.pk.n : Int), .func (.func 44) #[] cp]) (by simp [results, Try.results39, go_sem, m0, m1, m2, m3]) rfl
    ⟨p, _, by rw [HFN.out], by rw [H.out.pk HIP.out, HP.out], q1, hpb, q2, q3, hmb⟩

theorem pull_any (g i : Nat) (s : NS) (m : NL) (w : World) (h : NetM w g s m) (hi : i < s.l.length) (hq : s.l.length ≤ 1048576) :
    Calls Try.prog 39 #[.pointer (some ⟨g, 0, none⟩), .int .i64 (i : Int)] w fun e w' => Pulled w g i s m e w' := by
  by_cases hh : (i : Int) < ((s.l.length : Nat) : Int) / 2
  · exact pull_front g i s m w h hi hq hh
  · exact pull_back g i s m w h hi hq hh
end Go.Proofs.Ytmlckocgahfnkaa
