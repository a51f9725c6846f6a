/- chunk's acts that came in. -/
import Derived.Test.YtacafjbbdklleaaDoorRowP
import Derived.Test.YtacafjbbdklleaaDoorAo
import Derived.Deep.Strs
namespace Go.Proofs.YtacafjbbdklleaaDoor
open Go.ChangeShapes Go.WideShapes Go.ChangeAt Go.RowKit Go.Deep

structure Ca where
  op : Int
  p : Pc
instance : Inhabited Ca := ⟨⟨0, ⟨0, 0, 0, 0, []⟩⟩⟩
structure CaAt (w : World) (F b o : Nat) (q : Ca) : Prop where
  c0 : w.cell? ⟨b, o, none⟩ = some (.int .i64 q.op)
  pc : PcAt w F b (o + 1) q.p
  i0 : -9223372036854775808 ≤ q.p.id
  i1 : q.p.id ≤ 9223372036854775807
  su : q.p.sum < 4294967296
  ln : q.p.data.length ≤ 140737488355328
theorem CaAt.fr {S : Nat → Prop} {w w' : World} {F b o : Nat} {q : Ca} (h : CaAt w F b o q) (hf : Fr S w w') (hS : ∀ k, k < F → ¬ S k) : CaAt w' F b o q := by
  obtain ⟨D, dm, dk, _, _, _, _, _, _, hb, _⟩ := h.pc
  exact ⟨(hf.cell (World.block_lt_of_cell? w _ h.c0) (hS _ hb)).trans h.c0, h.pc.fr hf hS, h.i0, h.i1, h.su, h.ln⟩
def Cas (w : World) (F : Nat) (A : Option Addr) (n : Nat) (f : Nat → Ca) : Prop := ∀ j, j < n → ∃ b o, A = some ⟨b, o, none⟩ ∧ CaAt w F b (o + j * 6) (f j)
theorem Cas.fr {S : Nat → Prop} {w w' : World} {F : Nat} {A : Option Addr} {n : Nat} {f : Nat → Ca} (h : Cas w F A n f) (hf : Fr S w w') (hS : ∀ k, k < F → ¬ S k) : Cas w' F A n f := fun j hj => by
  obtain ⟨b, o, e, hc⟩ := h j hj
  exact ⟨b, o, e, hc.fr hf hS⟩

theorem Tryd.cellsCa : Tryd.prog.cellsOf 47 = 6 := by kernel_rfl
theorem Tryd.cellsCp : Tryd.prog.cellsOf 36 = 5 := by kernel_rfl
theorem Tryd.cellsInt : Tryd.prog.cellsOf 3 = 1 := by kernel_rfl
theorem Tryd.cellsBs : Tryd.prog.cellsOf 22 = 1 := by kernel_rfl
theorem Tryd.bytesU8 : Tryd.prog.bytesOf 5 = 1 := by kernel_rfl
theorem weightsAll_at {H : Type} {P : Program} {e : TypeId} {d : DataW H} : ∀ {l : List (DataW H)}, d ∈ l → ∀ z ∈ d.weights P e, z ∈ DataW.weightsAll P e l
  | [], h, _, _ => by cases h
  | x :: r, h, z, hz => by
    rw [DataW.weightsAll]
    rcases List.mem_cons.1 h with e | e
    · subst e; exact List.mem_append_left _ hz
    · exact List.mem_append_right _ (weightsAll_at e z hz)

/-- What a reading of bytes among cells tells. -/
theorem bytes_trod {H : Type} {enc : TypeId × Value → H} {W : World} {fuel : Nat} {cs : List Value} {x : DataW H × List MemPlace} (hf : DataW.trod enc Tryd.prog W 0 (fun _ => true) true fuel 22 cs = some x) :
    ∃ A n c xs, cs = [.slice A n c] ∧ Rd8 W A xs ∧ xs.length = n ∧ n ≤ c ∧ c ≤ maxLen ∧ (∀ ad, A = some ad → 0 < n → ad.block < W.heap.size) ∧ ((∀ z ∈ x.1.weights Tryd.prog 22, z ≤ reachBytes) → n ≤ reachBytes) := by
  rcases open_ints Tryd.underlying22 Tryd.underlying5 Tryd.cellsU8 hf with ⟨hcs, hx⟩ | ⟨a, n, c, zs, hcs, _, hl, hm, hz, hx, hcell, hwz⟩
  · exact ⟨none, 0, 0, [], hcs, Rd8.nil _ _, rfl, Nat.le_refl _, Nat.zero_le _, fun ad e => (by cases e), fun _ => Nat.zero_le _⟩
  · simp only [if_true] at hz
    have hcl : ∀ j, j < n → (a.spot = none ∧ W.cell? ⟨a.block, a.off + j, none⟩ = some (.int .u8 (((zs.take n).map fun z => UInt8.ofNat z.toNat).getD j 0).toNat)) := by
      intro j hj
      have h0 := hcell j (by omega)
      have hsp := World.cell?_spot h0
      obtain ⟨b, o, sp⟩ := a
      have hsp0 : sp = none := by
        have := World.cell?_spot (hcell 0 (by omega))
        simpa [Addr.add] using this
      subst hsp0
      refine ⟨rfl, ?_⟩
      rw [add_at] at h0
      rw [h0]
      have hw := bounds_u8 (hwz (zs.getD j 0) (by simp [List.getD, show j < zs.length by omega]))
      have e : ((zs.take n).map fun z => UInt8.ofNat z.toNat).getD j 0 = UInt8.ofNat (zs.getD j 0).toNat := by
        simp [List.getD, show j < n from hj, show j < zs.length by omega]
      rw [e, UInt8.toNat_ofNat', Nat.mod_eq_of_lt (by omega)]
      congr 2
      omega
    refine ⟨some a, n, c, (zs.take n).map fun z => UInt8.ofNat z.toNat, hcs, fun h0 => ⟨a, rfl, ?_, fun j hj => ?_⟩, by simp; omega, hl, hm, fun ad e h0 => ?_, fun hw => ?_⟩
    · simp at h0; exact (hcl 0 (by omega)).1
    · simp at hj
      have := (hcl j (by omega)).2
      simpa [List.getD, show j < n by omega, show j < zs.length by omega] using this
    · injection e with e
      subst e
      have := World.block_lt_of_cell? W _ (hcl 0 h0).2
      exact this
    · subst hx
      have hw0 := hw ((lits (H := H) .u8 (zs.take n)).length + (lits (H := H) .u8 (zs.drop n)).length) (by simp [DataW.weights, Tryd.underlying22, Tryd.bytesU8])
      simp [lits] at hw0
      omega



set_option maxRecDepth 100000 in
set_option maxHeartbeats 1000000 in
theorem open_cas {H : Type} {enc : TypeId × Value → H} {W : World} {base : Nat} {v : Value} {d : DataW H} {ps : List MemPlace} (hval : Value.okWide Tryd.prog W .any base 39 v) (h : DataW.Trod enc Tryd.prog W 0 (fun _ => true) true 39 v d ps)
    (hwt : ∀ z ∈ d.weights Tryd.prog 39, z ≤ reachBytes) :
    ∃ A n c f, v = .slice A n c ∧ Cas W W.heap.size A n f ∧ (n : Int) ≤ 9223372036854775807 := by
  obtain ⟨A, n, c, rfl⟩ := okWide_slice Tryd.underlying39 hval
  obtain ⟨fuel, hf⟩ := h
  rcases open_slice Tryd.underlying39 hf with ⟨hcs, hx⟩ | ⟨a, len, cap, m, k, D, Pl, hcs, _, hl, hm, hmm, hx, hall⟩
  · simp [Value.cells] at hcs
    obtain ⟨rfl, rfl, rfl⟩ := hcs
    exact ⟨none, 0, 0, fun _ => default, rfl, fun j h0 => by omega, by omega⟩
  · simp [Value.cells] at hcs
    obtain ⟨rfl, rfl, rfl⟩ := hcs
    simp only [if_true] at hmm
    subst hmm
    simp only [Prod.mk.injEq] at hx
    obtain ⟨hd, _⟩ := hx
    subst hd
    unfold maxLen at hm
    have hwi : ∀ i, i < n → ∀ z ∈ (D i).weights Tryd.prog 47, z ≤ reachBytes := fun i hi z hz => hwt z (by
      simp only [DataW.weights, Tryd.underlying39]
      refine List.mem_cons_of_mem _ (List.mem_append_left _ (weightsAll_at (List.mem_map.2 ⟨i, List.mem_range.2 hi, rfl⟩) z hz)))
    have hsp0 : 0 < n → a.spot = none := fun h0 => by
      obtain ⟨cs', h1, _⟩ := hall 0 (by omega)
      rw [Tryd.cellsCa] at h1
      obtain ⟨_, hlen, hcell⟩ := World.cells?_some h1
      have h7 := World.cell?_spot ((hcell 0 (by omega)).trans (List.getElem?_eq_getElem (by omega)))
      simpa [Addr.add] using h7
    have each : ∀ i, i < n → ∃ q : Ca, (∃ b o, some a = some (⟨b, o, none⟩ : Addr) ∧ CaAt W W.heap.size b (o + i * 6) q) := by
      intro i hi
      obtain ⟨cs', h1, h2⟩ := hall i (by omega)
      have hwi := hwi i hi
      rw [Tryd.cellsCa] at h1
      obtain ⟨_, hlen, hcell⟩ := World.cells?_some h1
      obtain ⟨ys, j, _, hxy, _, hyl, hfl⟩ := DataW.trod_struct Tryd.underlying47 h2
      match cs', hlen with
      | [v0, v1, v2, v3, v4, v5], _ =>
        match ys, hyl with
        | [y0, y1], _ =>
          have u0 : DataW.trod enc Tryd.prog W 0 (fun _ => true) true j 3 (([v0, v1, v2, v3, v4, v5].drop 0).take (Tryd.prog.cellsOf 3)) = some y0 := hfl 0 _ rfl
          rw [Tryd.cellsInt] at u0
          simp only [List.drop, List.take] at u0
          have u1 : DataW.trod enc Tryd.prog W 0 (fun _ => true) true j 36 (([v0, v1, v2, v3, v4, v5].drop 1).take (Tryd.prog.cellsOf 36)) = some y1 := hfl 1 _ rfl
          rw [Tryd.cellsCp] at u1
          simp only [List.drop, List.take] at u1
          obtain ⟨zs, j2, _, hzy, _, hzl, hzf⟩ := DataW.trod_struct Tryd.underlying36 u1
          match zs, hzl with
          | [x0, x1, x2, x3, x4], _ =>
            have t0 : DataW.trod enc Tryd.prog W 0 (fun _ => true) true j2 3 (([v1, v2, v3, v4, v5].drop 0).take (Tryd.prog.cellsOf 3)) = some x0 := hzf 0 _ rfl
            rw [Tryd.cellsInt] at t0
            simp only [List.drop, List.take] at t0
            have t1 : DataW.trod enc Tryd.prog W 0 (fun _ => true) true j2 3 (([v1, v2, v3, v4, v5].drop 1).take (Tryd.prog.cellsOf 3)) = some x1 := hzf 1 _ rfl
            rw [Tryd.cellsInt] at t1
            simp only [List.drop, List.take] at t1
            have t2 : DataW.trod enc Tryd.prog W 0 (fun _ => true) true j2 3 (([v1, v2, v3, v4, v5].drop 2).take (Tryd.prog.cellsOf 3)) = some x2 := hzf 2 _ rfl
            rw [Tryd.cellsInt] at t2
            simp only [List.drop, List.take] at t2
            have t3 : DataW.trod enc Tryd.prog W 0 (fun _ => true) true j2 34 (([v1, v2, v3, v4, v5].drop 3).take (Tryd.prog.cellsOf 34)) = some x3 := hzf 3 _ rfl
            rw [Tryd.cellsU32] at t3
            simp only [List.drop, List.take] at t3
            have t4 : DataW.trod enc Tryd.prog W 0 (fun _ => true) true j2 22 (([v1, v2, v3, v4, v5].drop 4).take (Tryd.prog.cellsOf 22)) = some x4 := hzf 4 _ rfl
            rw [Tryd.cellsBs] at t4
            simp only [List.drop, List.take] at t4
            obtain ⟨z0, e0, _, w0⟩ := DataW.trod_int Tryd.underlying3 u0
            obtain ⟨z1, e1, _, w1⟩ := DataW.trod_int Tryd.underlying3 t0
            obtain ⟨z2, e2, _, w2⟩ := DataW.trod_int Tryd.underlying3 t1
            obtain ⟨z3, e3, _, w3⟩ := DataW.trod_int Tryd.underlying3 t2
            obtain ⟨z4, e4, _, w4⟩ := DataW.trod_int Tryd.underlying34 t3
            obtain ⟨A5, n5, c5, xs, e5, r1, r2, r3, r4, r5, r6⟩ := bytes_trod t4
            simp only [List.cons.injEq, and_true] at e0 e1 e2 e3 e4 e5
            subst e0; subst e1; subst e2; subst e3; subst e4; subst e5
            have c0 := hcell 0 (by omega)
            have c1 := hcell 1 (by omega)
            have c2' := hcell 2 (by omega)
            have c3' := hcell 3 (by omega)
            have c4' := hcell 4 (by omega)
            have c5' := hcell 5 (by omega)
            have hsp : a.spot = none := hsp0 (by omega)
            obtain ⟨bl, o, sp⟩ := a
            cases hsp
            rw [add_add] at c0 c1 c2' c3' c4' c5'
            rw [add_at] at c0 c1 c2' c3' c4' c5'
            have b1 := bounds_i64 w1
            have b4 := bounds_u32 w4
            simp only [Prod.mk.injEq] at hxy
            have r7 := r6 (fun z hz => hwi z (by
              rw [hxy.1]
              simp only [DataW.weights, Tryd.underlying47, DataW.weightsEach]
              refine List.mem_append_right _ ?_
              simp only [List.map_cons, List.map_nil, DataW.weightsEach]
              refine List.mem_append_left _ ?_
              rw [show y1.1 = DataW.agg [x0.1, x1.1, x2.1, x3.1, x4.1] from by rw [hzy]; rfl]
              simp only [DataW.weights, Tryd.underlying36, DataW.weightsEach]
              simp [DataW.weightsEach, hz]))
            subst r2
            unfold reachBytes at r7
            have hbl : bl < W.heap.size := by
              have h9 := World.block_lt_of_cell? W ⟨bl, o + i * 6 + 0, none⟩ (by simpa using c0)
              exact h9
            refine ⟨⟨z0, ⟨z1, z2, z3, z4.toNat, xs⟩⟩, bl, o, rfl, ⟨by simpa using c0, ⟨A5, xs.length, c5, by simpa [Nat.add_assoc] using c1, by simpa [Nat.add_assoc] using c2', by simpa [Nat.add_assoc] using c3', ?_, by simpa [Nat.add_assoc] using c5', ⟨rfl, r3, by unfold maxLen at r4; omega, r1, fun ad e h0 => r5 ad e h0⟩, hbl, Nat.le_refl _⟩, b1.1, b1.2, by simp only; omega, by simp only; omega⟩⟩
            have : ((z4.toNat : Nat) : Int) = z4 := by omega
            simp only [this]
            simpa [Nat.add_assoc] using c4'
    obtain ⟨q, hq⟩ := choose_lt each
    exact ⟨some a, n, m, q, rfl, fun j hj => hq j hj, by omega⟩
end Go.Proofs.YtacafjbbdklleaaDoor
