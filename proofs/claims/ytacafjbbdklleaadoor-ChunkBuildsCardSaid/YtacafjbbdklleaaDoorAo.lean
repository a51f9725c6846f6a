/- chunk: Cut; pieces in memory. -/
import Derived.Test.YtacafjbbdklleaaDoorAn
namespace Go.Proofs.YtacafjbbdklleaaDoor
open Go.RowKit

/-- A piece lies at place o of block b, below F. -/
def PcAt (w : World) (F b o : Nat) (p : Pc) : Prop :=
  ∃ D dm dk, w.cell? ⟨b, o, none⟩ = some (.int .i64 p.id) ∧ w.cell? ⟨b, o + 1, none⟩ = some (.int .i64 p.at_) ∧ w.cell? ⟨b, o + 2, none⟩ = some (.int .i64 p.total) ∧ w.cell? ⟨b, o + 3, none⟩ = some (.int .u32 p.sum) ∧ w.cell? ⟨b, o + 4, none⟩ = some (.slice D dm dk) ∧ Sl8 w F D dm dk p.data ∧ b < F ∧ F ≤ w.heap.size
theorem PcAt.fr {S : Nat → Prop} {w w' : World} {F b o : Nat} {p : Pc} (h : PcAt w F b o p) (hf : Fr S w w') (hS : ∀ k, k < F → ¬ S k) : PcAt w' F b o p := by
  obtain ⟨D, dm, dk, h0, h1, h2, h3, h4, h5, h6, h7⟩ := h
  have hc : ∀ i, w'.cell? ⟨b, i, none⟩ = w.cell? ⟨b, i, none⟩ := fun i => hf.cell (p := ⟨b, i, none⟩) (Nat.lt_of_lt_of_le h6 h7) (hS b h6)
  exact ⟨D, dm, dk, by rw [hc]; exact h0, by rw [hc]; exact h1, by rw [hc]; exact h2, by rw [hc]; exact h3, by rw [hc]; exact h4, h5.fr hf hS, h6, Nat.le_trans h7 hf.size⟩
/-- m pieces. -/
def Pcs (w : World) (F : Nat) (v : Value) (m : Nat) (f : Nat → Pc) : Prop :=
  (m : Int) ≤ 140737488355328 ∧ ∃ A c, v = .slice A m c ∧ ∀ j, j < m → ∃ b off, A = some ⟨b, off, none⟩ ∧ PcAt w F b (off + j * 5) (f j)
theorem Pcs.fr {S : Nat → Prop} {w w' : World} {F : Nat} {v : Value} {m : Nat} {f : Nat → Pc} (h : Pcs w F v m f) (hf : Fr S w w') (hS : ∀ k, k < F → ¬ S k) : Pcs w' F v m f := by
  obtain ⟨h0, A, c, e, h⟩ := h
  refine ⟨h0, A, c, e, fun j hj => ?_⟩
  obtain ⟨b, off, e2, hp⟩ := h j hj
  exact ⟨b, off, e2, hp.fr hf hS⟩
theorem Sl8.more {w : World} {F F' : Nat} {A : Option Addr} {n c : Nat} {xs : List UInt8} (h : Sl8 w F A n c xs) (hF : F ≤ F') : Sl8 w F' A n c xs :=
  ⟨h.1, h.2.1, h.2.2.1, h.2.2.2.1, fun ad e h0 => Nat.lt_of_lt_of_le (h.2.2.2.2 ad e h0) hF⟩
theorem Pcs.more {w : World} {F F' : Nat} {v : Value} {m : Nat} {f : Nat → Pc} (h : Pcs w F v m f) (hF : F ≤ F') (hF' : F' ≤ w.heap.size) : Pcs w F' v m f := by
  obtain ⟨h0, A, c, e, h⟩ := h
  refine ⟨h0, A, c, e, fun j hj => ?_⟩
  obtain ⟨b, off, e2, D, dm, dk, p0, p1, p2, p3, p4, p5, p6, _⟩ := h j hj
  exact ⟨b, off, e2, D, dm, dk, p0, p1, p2, p3, p4, p5.more hF, Nat.lt_of_lt_of_le p6 hF, hF'⟩

/-- The j-th piece of a cut. -/
def cutPc (id : Int) (xs : List UInt8) (z j : Nat) : Pc := ⟨id, ((j * z : Nat) : Int), (xs.length : Int), crcOf xs, (xs.drop (j * z)).take z⟩
theorem pcl_len (id : Int) (o n u : Nat) (x : Value) : (pcl id o n u x).length = 5 := rfl
theorem frontC_len (id : Int) (n u z : Nat) (A : Option Addr) (k : Nat) : (frontC id n u z A k).length = k * 5 := by
  induction k with
  | zero => rfl
  | succ k ih => rw [frontC_succ, List.length_append, ih, pcl_len]; omega
theorem frontC_at (id : Int) (n u z : Nat) (A : Option Addr) : ∀ (k j t : Nat), j < k → t < 5 → (frontC id n u z A k)[j * 5 + t]? = (pcl id (j * z) n u (.slice (adr A (j * z)) z z))[t]?
  | 0, _, _, h, _ => by omega
  | k + 1, j, t, h, ht => by
    rw [frontC_succ]
    by_cases hj : j < k
    · rw [List.getElem?_append_left (by rw [frontC_len]; omega)]
      exact frontC_at id n u z A k j t hj ht
    · obtain rfl : j = k := by omega
      rw [List.getElem?_append_right (by rw [frontC_len]; omega), frontC_len]
      congr 1
      omega

theorem Own8.part {w : World} {e : TypeId} {A : Option Addr} {n c : Nat} {xs : List UInt8} (h : Own8 w e (.slice A n c) xs) (o m : Nat) : Rd8 w (adr A o) ((xs.drop o).take m) ∧ ∀ ad, adr A o = some ad → ad.block < w.heap.size := by
  rcases h.form with ⟨e1, rfl⟩ | ⟨g, cp, e1, _⟩
  · injection e1 with e1
    subst e1
    exact ⟨by simp; exact Rd8.nil _ _, fun ad h => by simp [adr] at h⟩
  · have hlt := h.lt (k := g) (by injection e1 with e1 e2 e3; subst e1; rfl)
    injection e1 with e2 e3 e4
    subst e2
    exact ⟨(h.rd).part o m, fun ad h2 => by
      simp [adr] at h2
      rw [← h2]; exact hlt⟩

theorem CutR.pcs {w w' : World} {id : Int} {xs : List UInt8} {n z K : Nat} {A : Option Addr} {c : Nat} {v : Value} (h : CutR w id xs n z K A c v w') (hn : xs.length = n) (hnb : n ≤ 1048576) (hz : 1 ≤ z) : Pcs w' w'.heap.size v (K + 1) (cutPc id xs z) := by
  obtain ⟨lo, hi, mid, own, row, fr, _, _⟩ := h
  have hK : K ≤ 1048576 := by
    have : K ≤ K * z := Nat.le_mul_of_pos_right K hz
    omega
  obtain ⟨A', c', e, hl, hc, hA⟩ := row.form
  obtain ⟨A2, cc, e9, o1, o2⟩ := own.slice
  injection e9 with e9a e9b e9c
  subst e9c
  refine ⟨by omega, A', c', e, fun j hj => ?_⟩
  obtain ⟨b, off, rfl⟩ := hA (by omega)
  subst e
  refine ⟨b, off, rfl, ?_⟩
  have hbl : b < w'.heap.size := row.lt rfl
  have hc0 : ∀ t u, (frontC id n (crcOf xs) z A K ++ pcl id (K * z) n (crcOf xs) (.slice (adr A (K * z)) (n - K * z) (c - K * z)))[j * 5 + t]? = some u → w'.cell? ⟨b, off + j * 5 + t, none⟩ = some u := fun t u hu => by
    have := row.cell hu
    rw [Nat.add_assoc]; exact this
  by_cases hjK : j < K
  · have hjz : j * z + z ≤ K * z := by
      have := Nat.mul_le_mul_right z (show j + 1 ≤ K by omega)
      rw [Nat.succ_mul] at this; exact this
    have hm : ∀ t, t < 5 → (frontC id n (crcOf xs) z A K ++ pcl id (K * z) n (crcOf xs) (.slice (adr A (K * z)) (n - K * z) (c - K * z)))[j * 5 + t]? = (pcl id (j * z) n (crcOf xs) (.slice (adr A (j * z)) z z))[t]? := fun t ht => by
      rw [List.getElem?_append_left (by rw [frontC_len]; omega)]
      exact frontC_at _ _ _ _ _ K j t hjK ht
    refine ⟨adr A (j * z), z, z, hc0 0 _ (by rw [hm 0 (by omega)]; rfl), hc0 1 _ (by rw [hm 1 (by omega)]; rfl), hc0 2 _ (by rw [hm 2 (by omega)]; unfold cutPc; rw [hn]; rfl), hc0 3 _ (by rw [hm 3 (by omega)]; rfl), hc0 4 _ (by rw [hm 4 (by omega)]; rfl), ⟨?_, Nat.le_refl _, by omega, (own.part (j * z) z).1, fun ad e _ => (own.part (j * z) z).2 ad e⟩, hbl, Nat.le_refl _⟩
    simp [cutPc]; omega
  · obtain rfl : j = K := by omega
    have hm : ∀ t, t < 5 → (frontC id n (crcOf xs) z A j ++ pcl id (j * z) n (crcOf xs) (.slice (adr A (j * z)) (n - j * z) (c - j * z)))[j * 5 + t]? = (pcl id (j * z) n (crcOf xs) (.slice (adr A (j * z)) (n - j * z) (c - j * z)))[t]? := fun t ht => by
      rw [List.getElem?_append_right (by rw [frontC_len]; omega), frontC_len]
      congr 1; omega
    refine ⟨adr A (j * z), n - j * z, c - j * z, hc0 0 _ (by rw [hm 0 (by omega)]; rfl), hc0 1 _ (by rw [hm 1 (by omega)]; rfl), hc0 2 _ (by rw [hm 2 (by omega)]; unfold cutPc; rw [hn]; rfl), hc0 3 _ (by rw [hm 3 (by omega)]; rfl), hc0 4 _ (by rw [hm 4 (by omega)]; rfl), ⟨?_, by omega, by omega, (own.part (j * z) z).1, fun ad e _ => (own.part (j * z) z).2 ad e⟩, hbl, Nat.le_refl _⟩
    simp [cutPc]; omega

set_option maxRecDepth 100000 in
set_option maxHeartbeats 2000000 in
theorem Cut_bad (id : Int) (A : Option Addr) (n c : Nat) (size : Int) (w : World) (hE : ErrT w) (hb : ¬ cutE id n size = 0) :
    Calls Tryd.prog 8 #[.int .i64 id, .slice A n c, .int .i64 size] w fun e w' => ∃ x, e = .returned (.tuple #[.slice none 0 0, x]) ∧ BrkV id (cutE id n size) w w' x ∧ Fr (fun _ => False) w w' := by
  have CM := Lib.hid (mayCut_any id A n c size w)
  obtain ⟨E, hEE⟩ : ∃ E, cutE id n size = E := ⟨_, rfl⟩
  rw [hEE] at CM hb ⊢
  have CB := Lib.hid (broken_any id E w hE)
  have HB := Lib.hid hb
  clear hE hEE hb
  go_enter Tryd.func8, Tryd.ntmps8
  go_wp2_with fail
  refine CM.out.mono ?_; rintro e w1 ⟨rfl, rfl⟩
  go_wp2_with fail
  refine CB.out.mono ?_; rintro e w1 ⟨x, rfl, hbv, hf1⟩
  have HV := Lib.hid hbv
  unfold BrkV at hbv
  rw [if_neg HB.out] at hbv
  obtain ⟨g, rfl, _, _⟩ := hbv
  have F1 := Lib.hid hf1
  clear CM CB hf1
  go_wp2
  go_ret2
  exact ⟨_, rfl, HV.out, F1.out⟩

set_option maxRecDepth 100000 in
set_option maxHeartbeats 2000000 in
theorem Cut_ok (id : Int) (A : Option Addr) (n c : Nat) (xs : List UInt8) (z : Nat) (w : World) (hE : ErrT w) (ht : Tab w) (hr : Rd8 w A xs) (hn : xs.length = n) (hid : 0 ≤ id) (hnb : n ≤ 1048576) (hz1 : 1 ≤ z) (hz2 : z ≤ 65536) :
    Calls Tryd.prog 8 #[.int .i64 id, .slice A n c, .int .i64 (z : Int)] w fun e w' => ∃ K A0 c0 v, e = .returned (.tuple #[v, .nilIface]) ∧ CutR w id xs n z K A0 c0 v w' := by
  have CM := Lib.hid (mayCut_any id A n c (z : Int) w)
  have hEE : cutE id n (z : Int) = 0 := by unfold cutE; rw [if_neg (by omega), if_neg (by omega)]
  rw [hEE] at CM
  have CB := Lib.hid (broken_any id 0 w hE)
  have CC : Hid (∀ w', Fr (fun _ => False) w w' → _) := Lib.hid (fun w' hf => cut_any id A n c xs z w' (ht.fr hf (fun h => h)) (hr.fr hf (fun _ _ _ h => h)) hn hnb hz1 hz2)
  clear hE hEE ht hr hn hid hnb hz1 hz2
  go_enter Tryd.func8, Tryd.ntmps8
  go_wp2_with fail
  refine CM.out.mono ?_; rintro e w1 ⟨rfl, rfl⟩
  go_wp2_with fail
  refine CB.out.mono ?_; rintro e w1 ⟨x, rfl, hbv, hf1⟩
  obtain rfl : x = .nilIface := by unfold BrkV at hbv; rw [if_pos rfl] at hbv; exact hbv
  have F1 := Lib.hid hf1
  clear CM CB hf1 hbv
  go_wp2_with fail
  refine (CC.out w1 F1.out).mono ?_; rintro e w2 ⟨K, A0, c0, v, rfl, hc⟩
  have HC := Lib.hid hc
  obtain ⟨A9, c9, e9, _⟩ := hc.row.form
  subst e9
  clear hc CC
  go_wp2
  go_ret2
  obtain ⟨h1, h2, h3, h4, h5, h6, h7, h8⟩ := HC.out
  exact ⟨K, A0, c0, _, rfl, ⟨h1, h2, h3, h4, h5, F1.out.trans h6 (fun _ _ h => h), fun x hx => Nat.le_trans F1.out.size (h7 x hx), fun x hx => Nat.le_trans F1.out.size (h8 x hx)⟩⟩
end Go.Proofs.YtacafjbbdklleaaDoor
