/- The disk's calls: one pending write that lasts. -/
import Derived.Test.YtnkkdpmmnenncaaUe
namespace Go.Proofs.Ytnkkdpmmnenncaa
open Go.RowKit Go.Maps

theorem splice_map (L : List UInt8) (off : Nat) (cs : List UInt8) : splice (L.map B8) off (cs.map B8) = (splice L off cs).map B8 := by
  simp [splice, List.map_take, List.map_drop]
theorem Fr.setRow (w : World) (g : Nat) (cs : Array Value) : Fr (fun k => k = g) w (w.setRow g cs) :=
  ⟨rfl, rfl, rfl, by simp [World.setRow], fun k _ hk => setRow_other w g k cs hk⟩
/-- copy onto a part of a row that is known whole. -/
theorem wpList_copy8 {P : Program} {w : World} {ops : Array Oper} {rest : List Oper} {o : Oper} {a : Act} {Q : Exit → Act → World → Prop} (hgd : o.guard = none) (d s : Operand) (dT sT : TypeId)
    (ho : o.op = .call { callee := .builtin .copy, args := #[d, s], argTypes := #[dT, sT] }) (e : TypeId) (hu : P.underlying dT = some (.slice e)) (hsz : (P.info? e).map (·.size) = some 1)
    (g off dLen dCap : Nat) (ad : Addr) (sLen sCap : Nat) (hd : a.eval d = .slice (some ⟨g, off, none⟩) dLen dCap) (hs : a.eval s = .slice (some ad) sLen sCap)
    (cur : List UInt8) (t : TypeId) (hg : Bk w g t (cur.map B8).toArray) (bs : List UInt8) (hn : bs.length = Nat.min sLen dLen)
    (hsrc : ∀ j v, (bs.map B8)[j]? = some v → w.cell? (ad.add j) = some v) (hfit : off + bs.length ≤ cur.length)
    (h : ∀ w', Bk w' g t ((splice cur off bs).map B8).toArray → Fr (fun k => k = g) w w' → wpList P ops Q rest (a.put o.dst (goInt bs.length)) w') : wpList P ops Q (o :: rest) a w := by
  have hfit' : off + (bs.map B8).length ≤ (cur.map B8).toArray.size := by simpa using hfit
  refine wpList_copy_own hgd d s dT sT ho e hu hsz g off dLen dCap ad sLen sCap hd hs _ t hg (bs.map B8) (by simpa using hn) hsrc hfit' (B8_one bs) ?_
  rw [List.length_map]
  refine h _ ?_ (Fr.setRow _ _ _)
  have h1 := setRow_heap w g _ ((cur.map B8).take off ++ (bs.map B8 ++ (cur.map B8).drop (off + bs.length))).toArray t (0, 0) hg
  unfold Bk
  rw [show (cur.map B8).toArray.toList = cur.map B8 from rfl, h1, ← splice_map]
  simp only [splice, List.length_map]

theorem Try.size8 : (Try.prog.info? 5).map (·.size) = some 1 := by kernel_rfl
theorem kept_ok {s : DS} (h : s.ok) {kept : List UInt8} (hl : kept.length = s.N * s.sz) : ({ s with kept := kept } : DS).ok := ⟨h.n0, h.n1, h.s0, h.s1, hl, h.sec, h.len, h.lf⟩
theorem put1_at {s : DS} (h : s.ok) {i : Nat} (hi : i < s.q.length) : (put1 s.sz s.kept (pAt s.q i)).length = s.N * s.sz := by
  have h1 := h.fits (h.sec _ (pAt_mem hi))
  rw [put1_len (h.len _ (pAt_mem hi)) (by rw [h.klen]; exact h1), h.klen]

set_option maxRecDepth 100000 in
set_option maxHeartbeats 4000000 in
theorem keepWrite_any {g : Nat} {s : DS} {m : ML} {w : World} (h : DskM w g s m) (hq : s.q.length ≤ 1048576) (i : Nat) (hi : i < s.q.length) :
    Calls Try.prog 35 #[.pointer (some ⟨g, 0, none⟩), .int .i64 (i : Int)] w fun e w' => e = .returned (.tuple #[]) ∧ DskM w' g { s with kept := put1 s.sz s.kept (pAt s.q i) } m ∧ Fr (fun k => k = m.kb) w w' := by
  obtain ⟨gs, gb, cs, cb, e1, e2, hcb, hsec, hby⟩ := h.pend hi
  have c6 : w.cell? ⟨g, 6, none⟩ = some (.int .i64 (s.sz : Int)) := h.blk.cell 6
  have c7 : w.cell? ⟨g, 7, none⟩ = some m.sV := h.blk.cell 7
  have c8 : w.cell? ⟨g, 8, none⟩ = some m.bV := h.blk.cell 8
  rw [e1] at c7
  rw [e2] at c8
  have hx := h.ok.sec _ (pAt_mem hi)
  have hl := h.ok.len _ (pAt_mem hi)
  have hx1 := h.ok.n1
  have hs0 := h.ok.s0
  have hs1 := h.ok.s1
  have hfit : (i + 1) * s.sz ≤ s.q.length * s.sz := Nat.mul_le_mul_right _ hi
  have C1 := Lib.hid (at_any g i s.q.length cs gs gb _ cb s.sz ((pAt s.q i).1 : Int) w hi hq (by omega) hs1 hfit hcb c6 c7 c8 hsec)
  have C2 := Lib.hid (fun w => piece_q m.kb (s.N * s.sz) (s.N * s.sz) (pAt s.q i).1 s.sz w (by omega) hs1 (by omega) (h.ok.fits hx) (Nat.le_refl _))
  have hgb : gb ≠ m.kb := fun e => h.kne (by rw [e2, e]; rfl)
  have hlen := put1_at h.ok hi
  have hfit2 := h.ok.fits hx
  have hklen := h.ok.klen
  have HOK := Lib.hid (kept_ok h.ok hlen)
  have HB := Lib.hid hby
  have H := Lib.hid h
  have HL := Lib.hid hl
  clear h c6 c7 c8 hsec hby e1 e2 hl
  have K : Hid (∀ w1, Fr (fun _ => False) w w1 → Bk w1 m.kb 5 (s.kept.map B8).toArray ∧ (∀ j v, ((pAt s.q i).2.map B8)[j]? = some v → w1.cell? ((⟨gb, i * s.sz, none⟩ : Addr).add j) = some v)) := Lib.hid (by
    intro w1 hf
    refine ⟨H.out.kept.fr hf (fun h => h), fun j v hv => ?_⟩
    have hj : j < (pAt s.q i).2.length := by
      have := (List.getElem?_eq_some_iff.1 hv).1
      simpa using this
    rw [add_at, hf.cell (World.block_lt_of_cell? w _ (HB.out j hj)) (fun h => h), HB.out j hj]
    simp [hj] at hv
    rw [← hv]; rfl)
  generalize hp : pAt s.q i = p at *
  obtain ⟨px, pb⟩ := p
  simp only at *
  have c5 : w.cell? ⟨g, 5, none⟩ = some (.slice (some ⟨m.kb, 0, none⟩) (s.N * s.sz) (s.N * s.sz)) := H.out.blk.cell 5
  have c4 : w.cell? ⟨g, 4, none⟩ = some (.int .i64 (s.sz : Int)) := H.out.blk.cell 4
  have HC4 := Lib.hid c4
  have HC5 := Lib.hid c5
  clear hlen hfit c4 c5 HB hp
  go_enter Try.func35, Try.ntmps35
  go_wp2_with fail
  refine C1.out.mono ?_; rintro e w1 ⟨rfl, hf1⟩
  have c4 : w1.cell? ⟨g, 4, none⟩ = some (.int .i64 (s.sz : Int)) := by rw [hf1.cell (World.block_lt_of_cell? w _ HC4.out) (fun h => h)]; exact HC4.out
  have c5 : w1.cell? ⟨g, 5, none⟩ = some (.slice (some ⟨m.kb, 0, none⟩) (s.N * s.sz) (s.N * s.sz)) := by rw [hf1.cell (World.block_lt_of_cell? w _ HC5.out) (fun h => h)]; exact HC5.out
  have HF1 := Lib.hid hf1
  clear hf1 C1
  go_wp2_with fail
  refine wp_region_still_tail 11 (by kernel_rfl) (by kernel_rfl) ?_
  simp only [List.take_succ_cons, List.take_zero, List.drop_succ_cons, List.drop_zero]
  still_step; still_step; still_step; still_step; still_step; still_step; still_step; still_step; still_step
  still_call (C2.out w1.drew)
  still_step
  refine wpStill_nil ?_
  change wpList _ _ _ _ _ w1.drew
  have hf2 : Fr (fun _ => False) w w1.drew := HF1.out.drew
  obtain ⟨hk, hsrc⟩ := K.out _ hf2
  have HF2 := Lib.hid hf2
  have HK := Lib.hid hk
  have HS := Lib.hid hsrc
  clear hf2 hk hsrc c4 c5 HF1 C2
  generalize w1.drew = w2 at *
  have hcl : pb.length = Nat.min s.sz s.sz := by rw [HL.out]; exact (Nat.min_self _).symm
  have hfits : px * s.sz + pb.length ≤ s.kept.length := by
    rw [Nat.add_mul] at hfit2
    rw [HL.out, hklen]
    omega
  have HCL := Lib.hid hcl
  have HFI := Lib.hid hfits
  clear hcl hfits hfit2 hklen
  go_wp2_with (refine wpList_copy8 rfl (.tmp 23) (.tmp 24) 32 32 rfl 5 Try.underlying32 Try.size8 m.kb (px * s.sz) s.sz s.sz ⟨gb, i * s.sz, none⟩ s.sz s.sz rfl rfl s.kept 5 HK.out pb HCL.out HS.out HFI.out ?_; intro w3 hb3 hf3)
  go_end0
  have D := H.out.fr0 HF2.out
  exact ⟨rfl, ⟨HOK.out, D.blk.fr hf3 (fun e => D.kg e.symm), D.keep.fr hf3 (fun ad e h0 h1 => D.kap ad e h0 (.inr (.inl h1))), D.kap, hb3, D.secs.fr hf3 (fun k hk e => D.sk (by rw [hk, e])), D.bytes.fr hf3 (fun k hk e => D.kne (by rw [hk, e])), D.map.fr hf3 D.mkb, D.mn, D.newD, D.kne⟩,
    (HF2.out.mono (fun _ _ h => h.elim)).trans hf3 (fun _ _ h => h)⟩
end Go.Proofs.Ytnkkdpmmnenncaa
