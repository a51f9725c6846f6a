/- chunk's laws: same, known. -/
import Derived.Test.YtacafjbbdklleaaDoorAp
import Derived.Test.YtacafjbbdklleaaDoorAm
import Derived.Test.YtacafjbbdklleaaDoorAk
namespace Go.Proofs.YtacafjbbdklleaaDoor
open Go.RowKit

set_option maxRecDepth 100000 in
set_option maxHeartbeats 4000000 in
theorem same_any (p : Pc) (D : Option Addr) (m k F : Nat) (D2 : Option Addr) (m2 k2 F2 : Nat) (w : World) (h1 : Sl8 w F D m k p.data) (h2 : Sl8 w F2 D2 m2 k2 p.data) :
    Calls Tryd.prog 11 #[p.v (.slice D m k), p.v (.slice D2 m2 k2)] w fun e w' => e = .returned (.bool true) ∧ Fr (fun _ => False) w w' := by
  obtain ⟨id, at_, tot, sum, xs⟩ := p
  have sc1 : Hid (∀ w', Fr (fun _ => False) w w' → (convert 22 9 (.slice D m k)).run Tryd.prog w' = .ok (.string (strOf xs)) w') := Lib.hid (fun w' hf => run_str8 Tryd.t8 Tryd.underlying5 Tryd.underlying9 k (h1.2.2.2.1.fr hf (fun _ _ _ h => h)) h1.1)
  have sc2 : Hid (∀ w', Fr (fun _ => False) w w' → (convert 22 9 (.slice D2 m2 k2)).run Tryd.prog w' = .ok (.string (strOf xs)) w') := Lib.hid (fun w' hf => run_str8 Tryd.t8 Tryd.underlying5 Tryd.underlying9 k2 (h2.2.2.2.1.fr hf (fun _ _ _ h => h)) h2.1)
  unfold Pc.v
  simp only at *
  have FW : Hid (Fr (fun _ => False) w ((w.alloc (.cells #[.int .i64 id, .int .i64 at_, .int .i64 tot, .int .u32 sum, .slice D m k] 36)).alloc (.cells #[.int .i64 id, .int .i64 at_, .int .i64 tot, .int .u32 sum, .slice D2 m2 k2] 37))) := Lib.hid (((Fr.refl _ _).alloc _).alloc _)
  have e1 := sc1.out _ FW.out
  have e2 := sc2.out _ FW.out
  obtain ⟨st, hst⟩ : ∃ st, strOf xs = st := ⟨_, rfl⟩
  rw [hst] at e1 e2
  have d1 : (id == id) = true := by simp
  have d2 : (at_ == at_) = true := by simp
  have d3 : (tot == tot) = true := by simp
  have d4 : ((sum : Int) == (sum : Int)) = true := by simp
  have d5 : (st.toList == st.toList) = true := by simp
  clear h1 h2 sc1 sc2 hst
  go_enter Tryd.func11, Tryd.ntmps11
  go_wp2
  go_ret
  exact ⟨rfl, FW.out⟩

theorem abc_0 (u : Nat) : BSt.addE BSt.none ⟨3, 0, 3, u, [97, 98]⟩ = 0 ∧ BSt.add BSt.none ⟨3, 0, 3, u, [97, 98]⟩ = ⟨3, 3, u, [97, 98]⟩ ∧ BSt.addB BSt.none ⟨3, 0, 3, u, [97, 98]⟩ = false := by
  have hm : Pc.may ⟨3, 0, 3, u, [97, 98]⟩ := by unfold Pc.may; simp
  obtain ⟨h1, h2⟩ := BSt.addE_new (s := BSt.none) hm (by simp [BSt.none]) rfl
  have h3 : BSt.add BSt.none ⟨3, 0, 3, u, [97, 98]⟩ = ⟨3, 3, u, [97, 98]⟩ := by unfold BSt.add; rw [if_pos h1, h2]
  refine ⟨h1, h3, ?_⟩
  unfold BSt.addB; rw [if_pos h1, h3]; rfl
theorem abc_1 (u : Nat) : BSt.addE ⟨3, 3, u, [97, 98]⟩ ⟨3, 2, 3, u, [99]⟩ = 0 ∧ BSt.add ⟨3, 3, u, [97, 98]⟩ ⟨3, 2, 3, u, [99]⟩ = ⟨3, 3, u, [97, 98, 99]⟩ ∧ BSt.addB ⟨3, 3, u, [97, 98]⟩ ⟨3, 2, 3, u, [99]⟩ = true := by
  have hm : Pc.may ⟨3, 2, 3, u, [99]⟩ := by unfold Pc.may; simp
  obtain ⟨h1, h2⟩ := BSt.addE_on (s := ⟨3, 3, u, [97, 98]⟩) hm rfl rfl rfl (by simp)
  have h3 : BSt.add ⟨3, 3, u, [97, 98]⟩ ⟨3, 2, 3, u, [99]⟩ = ⟨3, 3, u, [97, 98, 99]⟩ := by unfold BSt.add; rw [if_pos h1, h2]; rfl
  refine ⟨h1, h3, ?_⟩
  unfold BSt.addB; rw [if_pos h1, h3]; rfl
theorem abc_2 : BSt.doneE ⟨3, 3, crcOf [97, 98, 99], [97, 98, 99]⟩ = 0 ∧ BSt.done ⟨3, 3, crcOf [97, 98, 99], [97, 98, 99]⟩ = BSt.none := by
  have h1 : BSt.doneE ⟨3, 3, crcOf [97, 98, 99], [97, 98, 99]⟩ = 0 := by
    unfold BSt.doneE; rw [if_neg (by simp [BSt.whole]), if_neg (by simp)]
  exact ⟨h1, by unfold BSt.done; rw [h1]; rfl⟩
theorem abc_3 : BSt.doneE BSt.none = 6 ∧ BSt.done BSt.none = BSt.none := ⟨rfl, rfl⟩

/-- Tables and package variables lie at the beginning. -/
structure Gl (w : World) : Prop where
  tab : Tab w
  err : ErrT w
  pow : PowT w
  sz : 3 ≤ w.heap.size
theorem Gl.fr {S : Nat → Prop} {w w' : World} (h : Gl w) (hf : Fr S w w') (hS : ∀ x, x < 3 → ¬ S x) : Gl w' :=
  ⟨h.tab.fr hf (hS _ (by decide)), h.err.fr hf (hS _ (by decide)), h.pow.fr hf (hS _ (by decide)), Nat.le_trans h.sz hf.size⟩
theorem Gl.fr0 {w w' : World} (h : Gl w) (hf : Fr (fun _ => False) w w') : Gl w' := h.fr hf (fun _ _ h => h)

set_option maxRecDepth 100000 in
set_option maxHeartbeats 4000000 in
theorem known_any (w : World) (hG : Gl w) :
    Calls Tryd.prog 7 #[] w fun e w' => e = .returned (.bool true) ∧ Fr (fun _ => False) w w' := by
  have kc := Lib.run_convert_bytes_const (P := Tryd.prog) w 22 5 #[.int .u8 97, .int .u8 98, .int .u8 99] 3 3 Tryd.underlying22 Tryd.underlying5
  have hrd := rd_lit w [97, 98, 99] #[.int .u8 97, .int .u8 98, .int .u8 99] rfl
  have hq : Fr (fun _ => False) w (w.alloc (.cells #[.int .u8 97, .int .u8 98, .int .u8 99] 5 (3, 4))) := (Fr.refl _ _).alloc _
  have HQ := Lib.hid hq
  have HGL := Lib.hid hG
  have CC := Lib.hid (Cut_ok 3 (some ⟨w.heap.size, 0, none⟩) 3 3 [97, 98, 99] 2 _ (hG.fr0 hq).err (hG.fr0 hq).tab hrd rfl (by omega) (by omega) (by omega) (by omega))
  clear hrd hq hG
  go_enter Tryd.func7, Tryd.ntmps7
  go_wp2_with fail
  refine CC.out.mono ?_; rintro e w1 ⟨K, A0, c0, v, rfl, hc⟩
  obtain rfl : K = 1 := by have h1 := hc.lo; have h2 := hc.hi; have h3 := hc.mid; omega
  have HP := Lib.hid (hc.pcs rfl (by omega) (by omega))
  have F1 := Lib.hid (HQ.out.trans hc.fr (fun _ _ h => h))
  obtain ⟨u, hu⟩ : ∃ u, crcOf [97, 98, 99] = u := ⟨_, rfl⟩
  have HU := Lib.hid hu
  have HU2 : Hid (u < 4294967296) := Lib.hid (by rw [← hu]; unfold crcOf; omega)
  have HF0 : Hid (cutPc 3 [97, 98, 99] 2 0 = ⟨3, 0, 3, u, [97, 98]⟩) := Lib.hid (by unfold cutPc; rw [hu]; rfl)
  have HF1 : Hid (cutPc 3 [97, 98, 99] 2 1 = ⟨3, 2, 3, u, [99]⟩) := Lib.hid (by unfold cutPc; rw [hu]; rfl)
  obtain ⟨_, A, c, rfl, hp⟩ := HP.out
  obtain ⟨b1, off, rfl, D0, m0, k0, q0, q1, q2, q3, q4, hs0, hb0, hF⟩ := hp 0 (by omega)
  obtain ⟨_, _, e9, D1, m1, k1, r0, r1, r2, r3, r4, hs1, _, _⟩ := hp 1 (by omega)
  injection e9 with e9
  injection e9 with e9a e9b
  subst e9a e9b
  rw [HF0.out] at q0 q1 q2 q3 hs0
  rw [HF1.out] at r0 r1 r2 r3 hs1
  simp only [Nat.zero_mul, Nat.add_zero, Nat.one_mul] at q0 q1 q2 q3 q4 r0 r1 r2 r3 r4 hs0 hs1
  have HQ0 : Hid (∀ w', Fr (fun x => w1.heap.size ≤ x) w1 w' → w'.cell? ⟨b1, off, none⟩ = some (.int .i64 3) ∧ w'.cell? ⟨b1, off + 1, none⟩ = some (.int .i64 0) ∧ w'.cell? ⟨b1, off + 2, none⟩ = some (.int .i64 3) ∧ w'.cell? ⟨b1, off + 3, none⟩ = some (.int .u32 (u : Int)) ∧ w'.cell? ⟨b1, off + 4, none⟩ = some (.slice D0 m0 k0)) := Lib.hid (fun w' hf => by
    have hc : ∀ i, w'.cell? ⟨b1, i, none⟩ = w1.cell? ⟨b1, i, none⟩ := fun i => hf.cell (p := ⟨b1, i, none⟩) hb0 (by show ¬ w1.heap.size ≤ b1; omega)
    exact ⟨by rw [hc]; exact q0, by rw [hc]; exact q1, by rw [hc]; exact q2, by rw [hc]; exact q3, by rw [hc]; exact q4⟩)
  have HR0 : Hid (∀ w', Fr (fun x => w1.heap.size ≤ x) w1 w' → w'.cell? ⟨b1, off + 5, none⟩ = some (.int .i64 3) ∧ w'.cell? ⟨b1, off + 5 + 1, none⟩ = some (.int .i64 2) ∧ w'.cell? ⟨b1, off + 5 + 2, none⟩ = some (.int .i64 3) ∧ w'.cell? ⟨b1, off + 5 + 3, none⟩ = some (.int .u32 (u : Int)) ∧ w'.cell? ⟨b1, off + 5 + 4, none⟩ = some (.slice D1 m1 k1)) := Lib.hid (fun w' hf => by
    have hc : ∀ i, w'.cell? ⟨b1, i, none⟩ = w1.cell? ⟨b1, i, none⟩ := fun i => hf.cell (p := ⟨b1, i, none⟩) hb0 (by show ¬ w1.heap.size ≤ b1; omega)
    exact ⟨by rw [hc]; exact r0, by rw [hc]; exact r1, by rw [hc]; exact r2, by rw [hc]; exact r3, by rw [hc]; exact r4⟩)
  have HS0 : Hid (∀ w', Fr (fun x => w1.heap.size ≤ x) w1 w' → Sl8 w' w1.heap.size D0 m0 k0 [97, 98]) := Lib.hid (fun w' hf => hs0.fr hf (fun k hk => by show ¬ w1.heap.size ≤ k; omega))
  have HS1 : Hid (∀ w', Fr (fun x => w1.heap.size ≤ x) w1 w' → Sl8 w' w1.heap.size D1 m1 k1 [99]) := Lib.hid (fun w' hf => hs1.fr hf (fun k hk => by show ¬ w1.heap.size ≤ k; omega))
  obtain ⟨rfl, hmk0⟩ : m0 = 2 ∧ (k0 : Int) ≤ 9223372036854775807 := ⟨hs0.1.symm, hs0.2.2.1⟩
  obtain ⟨rfl, hmk1⟩ : m1 = 1 ∧ (k1 : Int) ≤ 9223372036854775807 := ⟨hs1.1.symm, hs1.2.2.1⟩
  clear hc hp q0 q1 q2 q3 q4 r0 r1 r2 r3 r4 hs0 hs1 hu CC kc HP hb0 hF
  go_wp2_with fail
  refine (newBuilder_any w1).mono ?_; rintro e w2 ⟨b, rfl, hb2, hf2, hbl⟩
  have HBL := Lib.hid hbl
  have F2 : Hid (Fr (fun x => w1.heap.size ≤ x) w1 w2) := Lib.hid (hf2.mono (fun _ _ h => h.elim))
  have HNG : Hid (3 ≤ w1.heap.size) := Lib.hid (Nat.le_trans HGL.out.sz F1.out.size)
  have CA := Lib.hid (add_any b BSt.none (.slice none 0 0) ⟨3, 0, 3, u, [97, 98]⟩ D0 2 k0 w1.heap.size w2 hb2 (fun x hx => by simp [Value.ownBlock] at hx) (HS0.out w2 F2.out) (by omega) HU2.out ((HGL.out.fr0 F1.out).fr0 hf2).err)
  unfold Pc.v AddE at CA
  rw [(abc_0 u).1, (abc_0 u).2.1, (abc_0 u).2.2] at CA
  simp only at CA
  obtain ⟨p0, p1, p2, p3, p4⟩ := HQ0.out w2 F2.out
  clear hb2 hf2 hbl
  go_wp2_with fail
  clear p0 p1 p2 p3 p4
  refine CA.out.mono ?_; rintro e w3 ⟨x3, v3, rfl, hbv3, hb3, hf3, hm3⟩
  obtain rfl : x3 = .nilIface := by unfold BrkV at hbv3; rw [if_pos rfl] at hbv3; exact hbv3
  have HV3 : Hid (∀ x, v3.ownBlock = some x → w1.heap.size ≤ x) := Lib.hid (fun x hx => by
    rcases hm3 x hx with h | h
    · simp [Value.ownBlock] at h
    · have := F2.out.size; omega)
  have F3 : Hid (Fr (fun x => w1.heap.size ≤ x) w1 w3) := Lib.hid (F2.out.trans hf3 (fun x hx h => by
    rcases h with h | h
    · rw [h]; exact HBL.out
    · simp [Value.ownBlock] at h))
  have HB3 := Lib.hid hb3
  have CA2 := Lib.hid (add_any b ⟨3, 3, u, [97, 98]⟩ v3 ⟨3, 2, 3, u, [99]⟩ D1 1 k1 w1.heap.size w3 hb3 (fun x hx => by have := HV3.out x hx; have := HNG.out; omega) (HS1.out w3 F3.out) (by omega) HU2.out ((HGL.out.fr0 F1.out).fr F3.out (fun x hx => by show ¬ w1.heap.size ≤ x; have := HNG.out; omega)).err)
  unfold Pc.v AddE at CA2
  rw [(abc_1 u).1, (abc_1 u).2.1, (abc_1 u).2.2] at CA2
  simp only at CA2
  obtain ⟨p0, p1, p2, p3, p4⟩ := HR0.out w3 F3.out
  clear hbv3 hb3 hf3 hm3 CA
  go_wp2_with fail
  clear p0 p1 p2 p3 p4
  refine CA2.out.mono ?_; rintro e w4 ⟨x4, v4, rfl, hbv4, hb4, hf4, hm4⟩
  obtain rfl : x4 = .nilIface := by unfold BrkV at hbv4; rw [if_pos rfl] at hbv4; exact hbv4
  have HV4 : Hid (∀ x, v4.ownBlock = some x → w1.heap.size ≤ x) := Lib.hid (fun x hx => by
    rcases hm4 x hx with h | h
    · exact HV3.out x h
    · have := F3.out.size; omega)
  have F4 : Hid (Fr (fun x => w1.heap.size ≤ x) w1 w4) := Lib.hid (F3.out.trans hf4 (fun x hx h => by
    rcases h with h | h
    · rw [h]; exact HBL.out
    · exact HV3.out x h))
  have HO4 := Lib.hid hb4.own
  have HGL4 := Lib.hid ((HGL.out.fr0 F1.out).fr F4.out (fun x hx => by show ¬ w1.heap.size ≤ x; have := HNG.out; omega))
  have CD := Lib.hid (done_any b _ v4 w4 hb4 (by have := HBL.out; have := HNG.out; omega) HGL4.out.err HGL4.out.tab)
  unfold DoneE at CD
  rw [← HU.out, abc_2.1, abc_2.2] at CD
  simp only at CD
  obtain ⟨A4, c4, rfl, _, _⟩ := hb4.own.slice
  obtain ⟨cb4, hcb4⟩ := hb4.bk
  have HNE4 : Hid ((Value.slice A4 ([97, 98, 99] : List UInt8).length c4).ownBlock ≠ some b) := Lib.hid (HO4.out.ne hcb4 (by decide))
  clear hbv4 hb4 hf4 hm4 CA2 HB3 hcb4
  go_wp2_with fail
  refine CD.out.mono ?_; rintro e w5 ⟨x5, rfl, hbv5, hb5, hf5⟩
  obtain rfl : x5 = .nilIface := by unfold BrkV at hbv5; rw [if_pos rfl] at hbv5; exact hbv5
  have F5 : Hid (Fr (fun x => w1.heap.size ≤ x) w1 w5) := Lib.hid (F4.out.trans hf5 (fun x hx h => by rw [h]; exact HBL.out))
  have HO5 := Lib.hid (HO4.out.fr hf5 (fun x hx e => HNE4.out (e ▸ hx)))
  have HGL5 := Lib.hid ((HGL.out.fr0 F1.out).fr F5.out (fun x hx => by show ¬ w1.heap.size ≤ x; have := HNG.out; omega))
  have CD2 := Lib.hid (done_any b BSt.none (.slice none 0 0) w5 (by simpa using hb5) (by have := HBL.out; have := HNG.out; omega) HGL5.out.err HGL5.out.tab)
  unfold DoneE at CD2
  rw [abc_3.1, abc_3.2] at CD2
  simp only [BSt.none] at CD2
  clear hbv5 hb5 hf5 CD
  go_wp2_with fail
  refine CD2.out.mono ?_; rintro e w6 ⟨x6, rfl, hbv6, hb6, hf6⟩
  have HV6 := Lib.hid hbv6
  have F6 : Hid (Fr (fun x => w1.heap.size ≤ x) w1 w6) := Lib.hid (F5.out.trans hf6 (fun x hx h => by rw [h]; exact HBL.out))
  have HO6 := Lib.hid (HO5.out.fr hf6 (fun x hx e => HNE4.out (e ▸ hx)))
  have HGL6 := Lib.hid ((HGL.out.fr0 F1.out).fr F6.out (fun x hx => by show ¬ w1.heap.size ≤ x; have := HNG.out; omega))
  have CL := Lib.hid (lawBroken_any (-1) 6 w5 w6 x6 HV6.out (.inr (.inr (.inl rfl))) (by omega) (by omega) HGL6.out.pow HGL6.out.err)
  have t3 := run_str8 Tryd.t8 Tryd.underlying5 Tryd.underlying9 (n := 3) c4 HO6.out.rd rfl
  have u3 : (strOf [97, 98, 99]).toList = [97, 98, 99] := by decide +kernel
  unfold BrkV at hbv6
  rw [if_neg (by decide)] at hbv6
  obtain ⟨g6, rfl, _, _⟩ := hbv6
  clear hb6 hf6 CD2
  go_wp2_with fail
  refine CL.out.mono ?_; rintro e w7 ⟨rfl, hf7⟩
  have F7 := Lib.hid hf7
  clear hf7 t3 CL
  go_wp2
  go_ret
  exact ⟨rfl, F1.out.trans (F6.out.trans F7.out (fun _ _ h => h.elim)) (fun x hx h => by have h1 := F1.out.size; have h' : w1.heap.size ≤ x := h; omega)⟩
end Go.Proofs.YtacafjbbdklleaaDoor
