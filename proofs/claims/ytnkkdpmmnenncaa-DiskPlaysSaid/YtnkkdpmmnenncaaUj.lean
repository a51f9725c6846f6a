/- The disk's calls: Read, Bytes, Shape, Arm, On, Off, Pending, Writes. -/
import Derived.Test.YtnkkdpmmnenncaaUi
namespace Go.Proofs.Ytnkkdpmmnenncaa
open Go.RowKit Go.Maps

theorem kept_cell {w : World} {g : Nat} {s : DS} {m : ML} (h : DskM w g s m) : w.cell? ⟨g, 5, none⟩ = some (.slice (some ⟨m.kb, 0, none⟩) (s.N * s.sz) (s.N * s.sz)) := h.blk.cell 5
theorem kept_rd {w : World} {g : Nat} {s : DS} {m : ML} (h : DskM w g s m) (o n : Nat) (hn : o + n ≤ s.N * s.sz) : Rd8 w (some ⟨m.kb, o, none⟩) ((s.kept.drop o).take n) := fun _ => by
  refine ⟨_, rfl, rfl, fun j hj => ?_⟩
  have hl := h.ok.klen
  have hj' : j < n := by
    rw [List.length_take, List.length_drop] at hj; omega
  have h1 : o + j < s.kept.length := by omega
  rw [h.kept.cell (o + j)]
  simp only [List.getElem?_toArray, List.getElem?_map, List.getElem?_eq_getElem h1, Option.map_some, B8]
  simp

theorem read_none {s : DS} {x : Nat} (h : lastIx s.q x = none) : s.read x = (s.kept.drop (x * s.sz)).take s.sz := by unfold DS.read; rw [h]
theorem read_some {s : DS} {x i : Nat} (h : lastIx s.q x = some i) : s.read x = (pAt s.q i).2 := by unfold DS.read; rw [h]

set_option maxRecDepth 100000 in
set_option maxHeartbeats 4000000 in
theorem read_ok {g : Nat} {s : DS} {F : Nat → Prop} {w : World} (h : Dsk w g s F) (hq : s.q.length ≤ 1048576) (x : Nat) (he : s.err x = 0) :
    Calls Try.prog 25 #[.pointer (some ⟨g, 0, none⟩), .int .i64 (x : Int)] w fun e w' => ∃ A' c', e = .returned (.tuple #[.slice A' s.sz c', .int .i64 0]) ∧ Own8 w' 5 (.slice A' s.sz c') (s.read x) ∧ Fresh w w' (.slice A' s.sz c') := by
  obtain ⟨m, hm, hF, hA, hl⟩ := h
  obtain ⟨ho, _, hx⟩ := DS.err_in he
  have hx : x < s.N := by omega
  have C1 := Lib.hid (check_any hm (x : Int))
  rw [he] at C1
  have hrl := s.read_len hm.ok hx
  have hs0 := hm.ok.s0
  have hs1 := hm.ok.s1
  have hn1 := hm.ok.n1
  have H := Lib.hid hm
  clear hm hF hA hl he
  rcases hi : lastIx s.q (x : Int) with _ | i
  · have C2 := Lib.hid (last_none H.out x hx hi)
    rw [read_none hi] at hrl ⊢
    have HRL := Lib.hid hrl
    have hfit := H.out.ok.fits hx
    have C3 := Lib.hid (fun w => piece_q m.kb (s.N * s.sz) (s.N * s.sz) x s.sz w (by omega) hs1 (by omega) hfit (Nat.le_refl _))
    have hrd := kept_rd H.out (x * s.sz) s.sz (by rw [Nat.add_mul] at hfit; omega)
    have HRD := Lib.hid hrd
    clear hi hrl hfit hrd
    go_enter Try.func25, Try.ntmps25
    go_wp2_with fail
    refine C1.out.mono ?_; rintro e w1 ⟨rfl, rfl⟩
    clear C1
    go_wp2_with fail
    refine C2.out.mono ?_; rintro e w1 ⟨rfl, hf1⟩
    have D1 := Lib.hid (H.out.fr0 hf1)
    have c5 := kept_cell D1.out
    have c4 : w1.cell? ⟨g, 4, none⟩ = some (.int .i64 (s.sz : Int)) := D1.out.blk.cell 4
    have HF1 := Lib.hid hf1
    clear C2 hf1
    go_wp2_with fail
    refine wp_region_still_tail 10 (by kernel_rfl) (by kernel_rfl) ?_
    simp only [List.take_succ_cons, List.take_zero, List.drop_succ_cons, List.drop_zero]
    still_step; still_step; still_step; still_step; still_step; still_step; still_step; still_step; still_step
    still_call (C3.out w1.drew)
    refine wpStill_nil ?_
    change wpList _ _ _ _ _ w1.drew
    have HF2 := Lib.hid HF1.out.drew
    have HRD2 := Lib.hid (HRD.out.fr HF2.out (fun _ _ _ h => h))
    clear c4 c5 HF1 D1 C3
    generalize w1.drew = w2 at *
    have C4 := Lib.hid (clone8_any _ s.sz s.sz _ w2 HRD2.out HRL.out (by omega))
    go_wp2_with fail
    refine C4.out.mono ?_; rintro e w3 ⟨A', c', rfl, ho', hfr'⟩
    have HO := Lib.hid ho'
    have HFR := Lib.hid hfr'
    clear C4 ho' hfr'
    go_wp2
    go_ret2
    refine ⟨A', c', rfl, HO.out, HF2.out.trans HFR.out.1 (fun _ _ h => h), fun k hk => ?_⟩
    have h1 := HFR.out.2 k hk
    have h2 := HF2.out.size
    omega
  · have C2 := Lib.hid (last_some H.out hq x hx i hi)
    rw [read_some hi] at hrl ⊢
    have HRL := Lib.hid hrl
    clear hi hrl
    go_enter Try.func25, Try.ntmps25
    go_wp2_with fail
    refine C1.out.mono ?_; rintro e w1 ⟨rfl, rfl⟩
    clear C1
    go_wp2_with fail
    refine C2.out.mono ?_; rintro e w1 ⟨gb, rfl, hrd, hf1⟩
    have C4 := Lib.hid (clone8_any _ s.sz s.sz _ w1 hrd HRL.out (by omega))
    have HF2 := Lib.hid hf1
    clear C2 hrd hf1
    go_wp2_with fail
    refine C4.out.mono ?_; rintro e w3 ⟨A', c', rfl, ho', hfr'⟩
    have HO := Lib.hid ho'
    have HFR := Lib.hid hfr'
    clear C4 ho' hfr'
    go_wp2
    go_ret2
    refine ⟨A', c', rfl, HO.out, HF2.out.trans HFR.out.1 (fun _ _ h => h), fun k hk => ?_⟩
    have h1 := HFR.out.2 k hk
    have h2 := HF2.out.size
    omega

set_option maxRecDepth 100000 in
theorem read_err {g : Nat} {s : DS} {F : Nat → Prop} {w : World} (h : Dsk w g s F) (x : Int) (he : s.err x ≠ 0) :
    Calls Try.prog 25 #[.pointer (some ⟨g, 0, none⟩), .int .i64 x] w fun e w' => e = .returned (.tuple #[.slice none 0 0, .int .i64 (s.err x)]) ∧ w = w' := by
  obtain ⟨m, hm, _, _, _⟩ := h
  have C1 := Lib.hid (check_any hm x)
  have hd : (s.err x == 0) = false := by simpa using he
  have hd2 : (s.err x != 0) = true := by simpa using he
  clear hm he
  generalize s.err x = z at *
  go_enter Try.func25, Try.ntmps25
  go_wp2_with fail
  refine C1.out.mono ?_; rintro e w1 ⟨rfl, rfl⟩
  go_wp2
  go_ret2
  exact ⟨rfl, rfl⟩

set_option maxRecDepth 100000 in
theorem bytes_any {g : Nat} {s : DS} {F : Nat → Prop} {w : World} (h : Dsk w g s F) :
    Calls Try.prog 24 #[.pointer (some ⟨g, 0, none⟩)] w fun e w' => ∃ A' c', e = .returned (.slice A' (s.N * s.sz) c') ∧ Own8 w' 5 (.slice A' (s.N * s.sz) c') s.kept ∧ Fresh w w' (.slice A' (s.N * s.sz) c') := by
  obtain ⟨m, hm, _, _, _⟩ := h
  have c5 := kept_cell hm
  have hrd := kept_rd hm 0 (s.N * s.sz) (by omega)
  have hl := hm.ok.klen
  rw [List.drop_zero, List.take_of_length_le (by omega)] at hrd
  have hp := hm.ok.prod
  have C4 := Lib.hid (clone8_any _ (s.N * s.sz) (s.N * s.sz) _ w hrd hl (by omega))
  clear hm hrd hl hp
  go_enter Try.func24, Try.ntmps24
  go_wp2_with fail
  refine C4.out.mono ?_; rintro e w3 ⟨A', c', rfl, ho', hfr'⟩
  have HO := Lib.hid ho'
  have HFR := Lib.hid hfr'
  clear C4 ho' hfr'
  go_wp2
  go_ret
  exact ⟨A', c', rfl, HO.out, HFR.out⟩

theorem off_any {g : Nat} {s : DS} {F : Nat → Prop} {w : World} (h : Dsk w g s F) :
    Calls Try.prog 28 #[.pointer (some ⟨g, 0, none⟩)] w fun e w' => e = .returned (.bool s.off) ∧ w = w' := by
  obtain ⟨m, hm, _, _, _⟩ := h
  have C1 := Lib.hid (isOff_any g s.off w (hm.blk.cell 0))
  clear hm
  go_enter Try.func28, Try.ntmps28
  go_wp2_with fail
  refine C1.out.mono ?_; rintro e w1 ⟨rfl, rfl⟩
  go_wp2
  go_ret
  exact ⟨rfl, rfl⟩
theorem pending_any {g : Nat} {s : DS} {F : Nat → Prop} {w : World} (h : Dsk w g s F) :
    Calls Try.prog 26 #[.pointer (some ⟨g, 0, none⟩)] w fun e w' => e = .returned (.int .i64 (s.q.length : Int)) ∧ w = w' := by
  obtain ⟨m, hm, _, _, _⟩ := h
  obtain ⟨sA, sc, hsV⟩ := hm.secs.slice
  rw [secs_len] at hsV
  have c7 : w.cell? ⟨g, 7, none⟩ = some (.slice sA s.q.length sc) := by rw [← hsV]; exact hm.blk.cell 7
  have C1 := Lib.hid (count_any g s.q.length sc sA w c7)
  clear hm hsV c7
  go_enter Try.func26, Try.ntmps26
  go_wp2_with fail
  refine C1.out.mono ?_; rintro e w1 ⟨rfl, rfl⟩
  go_wp2
  go_ret
  exact ⟨rfl, rfl⟩
theorem writes_any {g : Nat} {s : DS} {F : Nat → Prop} {w : World} (h : Dsk w g s F) :
    Calls Try.prog 27 #[.pointer (some ⟨g, 0, none⟩)] w fun e w' => e = .returned (.int .i64 (s.writes : Int)) ∧ w = w' := by
  obtain ⟨m, hm, _, _, _⟩ := h
  have c10 : w.cell? ⟨g, 10, none⟩ = some (.int .i64 (s.writes : Int)) := hm.blk.cell 10
  clear hm
  go_enter Try.func27, Try.ntmps27
  go_wp2
  go_ret
  exact ⟨rfl, rfl⟩

theorem on_any {g : Nat} {s : DS} {F : Nat → Prop} {w : World} (h : Dsk w g s F) :
    Calls Try.prog 21 #[.pointer (some ⟨g, 0, none⟩)] w fun e w' => e = .returned (.tuple #[]) ∧ DskTo w g F w' s.on := by
  obtain ⟨m, hm, hF, hA, hl⟩ := h
  have C1 := Lib.hid (turnOn_any g _ _ _ _ _ _ _ _ _ _ _ w hm.blk)
  have H := Lib.hid hm
  clear hm
  go_enter Try.func21, Try.ntmps21
  go_wp2_with fail
  refine C1.out.mono ?_; rintro e w1 ⟨rfl, hb, hf⟩
  have HB := Lib.hid hb
  have HF := Lib.hid hf
  clear hb hf C1
  go_wp2
  go_end0
  have hp := H.out.pt.put (w1 := w1) (cs' := dcells s.on m) HB.out HF.out
  have D := PtM.dsk (s := s.on) hp H.out.ok.on H.out.mn H.out.newD
  exact ⟨rfl, D.to hl (fun k hk => .inl (hF k hk)) (fun ad e h0 => .inl (hA ad e h0)) (HF.out.mono (fun x _ h => hF x (.inl h)))⟩

theorem armD_any {g : Nat} {s : DS} {F : Nat → Prop} {w : World} (h : Dsk w g s F) (n : Int) (hn : n ≤ 9223372036854775807) (A : Option Addr) (k c : Nat) (xs : List Bool) (hr : RdB w A xs) (hk : xs.length = k) (hb : k ≤ 140737488355328) :
    Calls Try.prog 17 #[.pointer (some ⟨g, 0, none⟩), .int .i64 n, .slice A k c] w fun e w' => e = .returned (.tuple #[]) ∧ DskTo w g F w' (s.arm n xs) := by
  obtain ⟨m, hm, hF, hA, hl⟩ := h
  have C1 := Lib.hid (arm_any g _ _ _ _ _ _ _ _ _ _ _ n A k c xs w hr hk hb hm.blk)
  have H := Lib.hid hm
  have HN := Lib.hid hn
  have HKK := Lib.hid hk
  clear hm hr hn hk
  go_enter Try.func17, Try.ntmps17
  go_wp2_with fail
  refine C1.out.mono ?_; rintro e w1 ⟨rfl, A1, c1, hb1, hr1, hf1, hn1⟩
  have HB := Lib.hid hb1
  have HF := Lib.hid hf1
  have HR := Lib.hid hr1
  have HNN := Lib.hid hn1
  clear hb1 hf1 hr1 hn1 C1
  go_wp2
  go_end0
  have D0 := H.out
  have hbk : Bk w1 g 67 (dcells (s.arm n xs) { m with A := A1, c := c1 }) := by
    have e1 : ((max n 1).toNat : Int) = max n 1 := by omega
    have h1 := HB.out
    unfold dcells DS.arm
    simp only [e1, HKK.out]
    exact h1
  have D : DskM w1 g (s.arm n xs) { m with A := A1, c := c1 } :=
    ⟨D0.ok.arm n HN.out xs, hbk, HR.out, fun ad e h0 h1 => by
      have h2 := HNN.out ad e
      have h3 := D0.lt (k := ad.block) h1
      omega, D0.kept.fr HF.out D0.kg, D0.secs.fr HF.out (fun k hk e => D0.sg (by rw [hk, e])), D0.bytes.fr HF.out (fun k hk e => D0.bg (by rw [hk, e])), D0.map.fr HF.out D0.mg, D0.mn, D0.newD, D0.kne⟩
  exact ⟨rfl, D.to hl (fun k hk => .inl (hF k hk)) (fun ad e h0 => .inr (HNN.out ad e)) (HF.out.mono (fun x _ h => hF x (.inl h)))⟩

theorem shape_any {g : Nat} {s : DS} {F : Nat → Prop} {w : World} (h : Dsk w g s F) :
    Calls Try.prog 23 #[.pointer (some ⟨g, 0, none⟩)] w fun e w' => e = .returned (.tuple #[.int .i64 (s.N : Int), .int .i64 (s.sz : Int)]) ∧ Fr (fun _ => False) w w' := by
  obtain ⟨m, hm, _, _, _⟩ := h
  have c3 : w.cell? ⟨g, 3, none⟩ = some (.int .i64 (s.N : Int)) := hm.blk.cell 3
  have c4 : w.cell? ⟨g, 4, none⟩ = some (.int .i64 (s.sz : Int)) := hm.blk.cell 4
  clear hm
  go_enter Try.func23, Try.ntmps23
  go_wp2_with fail
  go_quiet (fail)
  go_wp2
  go_ret2
  exact ⟨rfl, (Fr.refl _ _).drewN _⟩
end Go.Proofs.Ytnkkdpmmnenncaa
