/- flow: Events. -/
import Derived.Test.YtkinbcmnfpkncaaDoorXz
namespace Go.Proofs.YtkinbcmnfpkncaaDoor
open Go.RowKit Go.Maps

set_option maxRecDepth 100000 in
set_option maxHeartbeats 4000000 in
theorem events_any {w : World} {g : Nat} {A : Option Addr} {n c : Nat} {ps : List VL} {mo : Option Nat} {D : DV} {s : FS} (h : FlM w g A n c ps mo D s) (h0 : 0 < n) :
    Calls Tryd.prog 26 #[.pointer (some ⟨g, 0, none⟩), .int .i64 1] w fun e w' => ∃ A' c' ps', e = .returned (.slice A' n c') ∧ OwnV w' 75 (.slice A' n c') ps' ∧ ps'.map VL.e = s.L ∧ Fr (fun _ => False) w w' := by
  have y2 : w.cell? ⟨g, 2, none⟩ = some (.slice A n c) := h.blk.cell 2
  obtain ⟨A0, c0, e0, hnc, hcm, hA⟩ := h.own.row.form
  have hlen := h.len
  rw [hlen] at e0 hnc hA
  injection e0 with e1 e2 e3
  subst e1 e3
  obtain ⟨b, off, rfl⟩ := hA h0
  have d1 : decide ((n : Int) < 1) = false := decide_eq_false (by omega)
  have CC := Lib.hid (cloneEv_any h.own h.big)
  have HO := Lib.hid h.own
  have HE := Lib.hid h.evs
  have HB := Lib.hid h.big
  have HLN := Lib.hid hlen
  have HNC := Lib.hid hnc
  have HCM := Lib.hid hcm
  have hsl : ∀ w, (Instr.sliceAt 63 (.slice (some ⟨b, off, none⟩) n c) (some (.int .i64 0)) none none).run Tryd.prog w = .ok (.slice (some ⟨b, off, none⟩) n c) w := fun w => by
    have hz1 : ((0 : Int) ≤ (n : Int)) := by omega
    have hz2 : ((n : Int) ≤ (c : Int)) := by omega
    simp [Instr.sliceAt, go_sem, hz1, hz2]
  go_enter Tryd.func26, Tryd.ntmps26
  go_wp2_with fail
  clear hsl y2 d1 hnc hcm hA h e2 hlen
  refine CC.out.mono ?_; rintro e w1 ⟨A2, c2, rfl, hrow, hnew, hf1⟩
  obtain ⟨A3, c3, e3, -, -, hA3⟩ := hrow.form
  injection e3 with e4 e5 e6
  subst e4 e6
  obtain ⟨b2, o2, rfl⟩ := hA3 h0
  have HNEW : Hid (w.heap.size ≤ b2) := Lib.hid (hnew b2 rfl)
  have HI : Hid (∃ a : List VL, a.length = 0 ∧ Row w1 75 7 (.slice (some ⟨b2, o2, none⟩) n c2) n (vlc (a ++ ps.drop 0)) ∧ (∀ p ∈ a, OwV w1 p ∧ ∀ k, p.bv.ownBlock = some k → k ≠ b2) ∧ a.map VL.e = (ps.take 0).map VL.e ∧ Fr (fun _ => False) w w1) := Lib.hid ⟨[], rfl, by simpa using hrow, fun p hp => (by cases hp), rfl, hf1⟩
  clear hrow hnew hf1 hA3 CC e5
  go_wp2_with fail
  go_loopw [26] (fun v wr => ∃ i : Nat, v = .int .i64 (i : Int) ∧ i ≤ n ∧ Hid (∃ a : List VL, a.length = i ∧ Row wr 75 7 (.slice (some ⟨b2, o2, none⟩) n c2) n (vlc (a ++ ps.drop i)) ∧ (∀ p ∈ a, OwV wr p ∧ ∀ k, p.bv.ownBlock = some k → k ≠ b2) ∧ a.map VL.e = (ps.take i).map VL.e ∧ Fr (fun _ => False) w wr)) (fun v _ => n - (intOf v).toNat)
  case atStart => exact ⟨0, rfl, Nat.zero_le _, HI⟩
  case round =>
    clear HI
    obtain ⟨i, rfl, hin, HI⟩ := hrel
    by_cases hi : i < n
    · have di : decide ((i : Int) < (n : Int)) = true := decide_eq_true (by omega)
      have hi0 : (0 : Int) ≤ (i : Int) := by omega
      have hi1 : (i : Int) < (n : Int) := by omega
      have HIN := Lib.hid hi
      obtain ⟨a, ha, hrow, hall, hmap, hf⟩ := HI.out
      have hip : i < ps.length := by rw [HLN.out]; exact hi
      obtain ⟨p, hp⟩ : ∃ p, ps.getD i default = p := ⟨_, rfl⟩
      have hd : ps.drop i = p :: ps.drop (i + 1) := by rw [drop_getD hip, hp]
      rw [hd] at hrow
      have hpm : p ∈ ps := hp ▸ getD_mem hip
      have hlt : i * 7 + 6 < (vlc (a ++ p :: ps.drop (i + 1))).length := by rw [vlc_len]; simp; omega
      have hcell : (vlc (a ++ p :: ps.drop (i + 1)))[i * 7 + 6]? = some p.bv := by
        have := vlc_at (ps := a ++ p :: ps.drop (i + 1)) (i := i) (j := 6) (by simp; omega) (by omega)
        rw [this]
        have : (a ++ p :: ps.drop (i + 1)).getD i default = p := by subst ha; simp
        rw [this]; rfl
      have q6 : wr.cell? ⟨b2, o2 + i * 7 + 6, none⟩ = some p.bv := by have := hrow.cell hcell; rwa [← Nat.add_assoc] at this
      have how := HO.out.each p hpm
      have CB := Lib.hid (clone_any p.A p.e.d.length p.c p.e.d wr (how.own.rd.fr hf (fun _ _ _ h => h)) rfl how.ok.d)
      have HX := Lib.hid (And.intro hrow (And.intro hall (And.intro hmap (And.intro hf (And.intro hlt (And.intro hcell (And.intro hp hd)))))))
      have HA := Lib.hid ha
      have HOK := Lib.hid how.ok
      have HIP := Lib.hid hip
      clear hrow hall hmap hf hlt hcell hp hd hpm how hi ha hip HI
      go_wp2_with fail
      refine CB.out.mono ?_; rintro e w2 ⟨A7, c7, rfl, ho7, hfr7⟩
      obtain ⟨hrow, hall, hmap, hf, hlt, hcell, hp, hd⟩ := HX.out
      have hrow2 := hrow.fr0 hfr7.1
      have q7 : w2.cell? ⟨b2, o2 + i * 7 + 6, none⟩ = some p.bv := by have := hrow2.cell hcell; rwa [← Nat.add_assoc] at this
      have z7 : w2.frozen? ⟨b2, o2 + i * 7 + 6, none⟩ = false := by
        obtain ⟨cur, hb⟩ := hrow2.bk (g := b2) rfl
        exact hb.frozen _
      have hrow3 := hrow2.setAt hlt (.slice A7 p.e.d.length c7)
      rw [← HA.out, vlc_set, HA.out, ← Nat.add_assoc] at hrow3
      have hfs : Fr (fun x => x = b2) w2 (w2.setCell ⟨b2, o2 + i * 7 + 6, none⟩ (.slice A7 p.e.d.length c7)) := Fr.setCell (S := fun x => x = b2) (p := ⟨b2, o2 + i * 7 + 6, none⟩) (Fr.refl _ _) (fun _ => rfl) _
      have hb2 : b2 < wr.heap.size := hrow.lt (g := b2) rfl
      have hne7 : ∀ k, (Value.slice A7 p.e.d.length c7).ownBlock = some k → k ≠ b2 := fun k hk e => by have := hfr7.2 k hk; omega
      have HI : Hid (∃ a : List VL, a.length = i + 1 ∧ Row (w2.setCell ⟨b2, o2 + i * 7 + 6, none⟩ (.slice A7 p.e.d.length c7)) 75 7 (.slice (some ⟨b2, o2, none⟩) n c2) n (vlc (a ++ ps.drop (i + 1))) ∧ (∀ y ∈ a, OwV (w2.setCell ⟨b2, o2 + i * 7 + 6, none⟩ (.slice A7 p.e.d.length c7)) y ∧ ∀ k, y.bv.ownBlock = some k → k ≠ b2) ∧ a.map VL.e = (ps.take (i + 1)).map VL.e ∧ Fr (fun _ => False) w (w2.setCell ⟨b2, o2 + i * 7 + 6, none⟩ (.slice A7 p.e.d.length c7))) := Lib.hid (by
        refine ⟨a ++ [⟨p.e, A7, c7⟩], by simp [HA.out], by simpa using hrow3, fun x hx => ?_, ?_, ?_⟩
        · rcases List.mem_append.1 hx with hx | hx
          · obtain ⟨k1, k2⟩ := hall x hx
            exact ⟨(k1.fr hfr7.1 (fun _ _ h => h)).fr hfs (fun k hk e => k2 k hk e), k2⟩
          · have hx' : x = ⟨p.e, A7, c7⟩ := by simpa using hx
            subst hx'
            exact ⟨⟨ho7.fr hfs (fun k hk e => hne7 k hk e), ⟨HOK.out.k, HOK.out.a, HOK.out.r, HOK.out.i, HOK.out.l, HOK.out.n, HOK.out.d⟩⟩, hne7⟩
        · rw [List.map_append, hmap, take_succ_getD HIP.out, List.map_append, hp]; rfl
        · exact (hf.trans hfr7.1 (fun _ _ h => h)).trans hfs (fun x hx e => by have e' : x = b2 := e; have := HNEW.out; omega))
      have hwi : IntKind.wrap .i64 ((i : Int) + 1) = (i : Int) + 1 := by have := HB.out; have := HIN.out; simp only [IntKind.wrap_i64]; omega
      clear hrow hall hmap hf hlt hcell hp hd hrow2 hrow3 hfs hb2 hne7 ho7 hfr7 CB HX q6
      go_wp2
      go_roundw
      case rel => exact ⟨i + 1, by first | rfl | (push_cast; rfl) | (go_num; done), HIN.out, HI⟩
      case measure => (have := HIN.out; simp [intOf]) <;> omega
    · have di : decide ((i : Int) < (n : Int)) = false := decide_eq_false (by omega)
      obtain rfl : i = n := by omega
      obtain ⟨a, ha, hrow, hall, hmap, hf⟩ := HI.out
      rw [List.drop_of_length_le (by rw [HLN.out]; exact Nat.le_refl _), List.append_nil] at hrow
      rw [List.take_of_length_le (by rw [HLN.out]; exact Nat.le_refl _), HE.out] at hmap
      have HR : Hid (OwnV wr 75 (.slice (some ⟨b2, o2, none⟩) i c2) a ∧ a.map VL.e = s.L ∧ Fr (fun _ => False) w wr) := Lib.hid ⟨⟨by rw [ha]; exact hrow, fun p hp => (hall p hp).1⟩, hmap, hf⟩
      clear ha hrow hall hmap hf HI
      go_wp2
      go_ret
      exact ⟨_, _, a, rfl, HR.out.1, HR.out.2.1, HR.out.2.2⟩
end Go.Proofs.YtkinbcmnfpkncaaDoor
