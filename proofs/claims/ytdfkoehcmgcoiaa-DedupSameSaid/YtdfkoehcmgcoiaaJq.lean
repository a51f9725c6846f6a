/- dedup: entries. -/
import Derived.Test.YtdfkoehcmgcoiaaJp
namespace Go.Proofs.Ytdfkoehcmgcoiaa
open Go.RowKit Go.Maps

theorem RI.at {w : World} {A : Option Addr} {n c : Nat} {r : List Int} (h : RI w (.slice A n c) r) {j : Nat} (hj : j < r.length) : ∃ b off, A = some ⟨b, off, none⟩ ∧ w.cell? ⟨b, off + j, none⟩ = some (.int .i64 r[j]) := by
  rcases h.cases with ⟨e, rfl⟩ | ⟨b, off, cap, cur, e, hb, _, _, _, hc⟩
  · simp at hj
  · injection e with e1 e2 e3
    subst e1
    exact ⟨b, off, rfl, by rw [hb.cell, hc j hj]; rfl⟩
/-- All requests of the first i clients. -/
def lstN (t : DT) (i : Nat) : List (Int × Int) := (t.cs.take i).flatMap fun c => (t.row c).map fun s => (c, s)
def DT.lst (t : DT) : List (Int × Int) := t.cs.flatMap fun c => (t.row c).map fun s => (c, s)
theorem lstN_all (t : DT) : lstN t t.cs.length = t.lst := by unfold lstN DT.lst; rw [List.take_length]
theorem lstN_succ (t : DT) {i : Nat} (h : i < t.cs.length) : lstN t (i + 1) = lstN t i ++ (t.row t.cs[i]).map fun s => (t.cs[i], s) := by
  unfold lstN
  rw [List.take_add_one, List.getElem?_eq_getElem h]
  simp only [Option.toList_some, List.flatMap_append, List.flatMap_cons, List.flatMap_nil, List.append_nil]
theorem flat_len (t : DT) : ∀ l : List Int, (l.flatMap fun c => (t.row c).map fun s => (c, s)).length = sumL (fun c => (t.row c).length) l
  | [] => rfl
  | a :: l => by rw [List.flatMap_cons, List.length_append, flat_len t l, sumL_cons]; simp
theorem lst_len (t : DT) : t.lst.length = t.n := flat_len t t.cs
theorem lstN_len (t : DT) {i : Nat} (h : i < t.cs.length) : (lstN t i).length + (t.row t.cs[i]).length ≤ t.n := by
  have h1 : (lstN t (i + 1)).length = (lstN t i).length + (t.row t.cs[i]).length := by rw [lstN_succ t h]; simp
  have h2 : (lstN t (i + 1)).length = sumL (fun c => (t.row c).length) (t.cs.take (i + 1)) := flat_len t _
  have h3 := congrArg (sumL fun c => (t.row c).length) (List.take_append_drop (i + 1) t.cs)
  rw [sumL_append] at h3
  have h4 : t.n = sumL (fun c => (t.row c).length) t.cs := rfl
  omega
theorem mem_lst {t : DT} {c s : Int} : (c, s) ∈ t.lst ↔ c ∈ t.cs ∧ s ∈ t.row c := by
  unfold DT.lst
  simp only [List.mem_flatMap, List.mem_map, Prod.mk.injEq]
  constructor
  · rintro ⟨x, h1, y, h2, rfl, rfl⟩; exact ⟨h1, h2⟩
  · rintro ⟨h1, h2⟩; exact ⟨c, h1, s, h2, rfl, rfl⟩
/-- Answers as values. -/
structure AV (w : World) (F : Nat → Prop) (t : DT) (av : Int → Int → Value) : Prop where
  at_ : ∀ c s, c ∈ t.cs → s ∈ t.row c → ∃ A cap, av c s = .slice A (t.ans c s).length cap ∧ Rd8 w A (t.ans c s) ∧ ∀ ad, A = some ad → 0 < (t.ans c s).length → F ad.block
theorem AV.fr {w w' : World} {F S : Nat → Prop} {t : DT} {av : Int → Int → Value} (h : AV w F t av) (hf : Fr S w w') (hS : ∀ k, F k → ¬ S k) : AV w' F t av := ⟨fun c s hc hs => by
  obtain ⟨A, cap, h1, h2, h3⟩ := h.at_ c s hc hs
  exact ⟨A, cap, h1, h2.fr hf (fun ad e h0 => hS _ (h3 ad e h0)), h3⟩⟩
theorem TabM.av {g ba br : Nat} {F : Nat → Prop} {t : DT} {Da Dr : DV} {w : World} (h : TabM w g ba br F t Da Dr) (ok : t.ok0) : ∃ av, AV w F t av ∧ ∀ c s, c ∈ t.cs → s ∈ t.row c → At Da (ky c s) (av c s) := by
  have hI : ∀ c s, c ∈ t.cs → s ∈ t.row c → I64 c ∧ I64 s := fun c s hc hs => by
    have h1 := ok.crng c hc
    have h2 := ok.rng c s hs
    exact ⟨I64.of (by omega) (by omega), I64.of (by omega) (by omega)⟩
  have hx : ∀ p : Int × Int, ∃ v : Value, p.1 ∈ t.cs → p.2 ∈ t.row p.1 → At Da (ky p.1 p.2) v ∧ ∃ A cap, v = .slice A (t.ans p.1 p.2).length cap ∧ Rd8 w A (t.ans p.1 p.2) ∧ ∀ ad, A = some ad → 0 < (t.ans p.1 p.2).length → F ad.block := fun p => by
    by_cases hp : p.1 ∈ t.cs ∧ p.2 ∈ t.row p.1
    · obtain ⟨i1, i2⟩ := hI p.1 p.2 hp.1 hp.2
      obtain ⟨A, cap, h1, h2, h3⟩ := h.ans p.1 p.2 i1 i2 hp.2
      exact ⟨_, fun _ _ => ⟨h1, A, cap, rfl, h2, fun ad e h0 => (h3 ad e h0).1⟩⟩
    · exact ⟨undef, fun h1 h2 => absurd ⟨h1, h2⟩ hp⟩
  refine ⟨fun c s => Classical.choose (hx (c, s)), ⟨fun c s hc hs => ?_⟩, fun c s hc hs => ?_⟩
  · exact (Classical.choose_spec (hx (c, s)) hc hs).2
  · exact (Classical.choose_spec (hx (c, s)) hc hs).1
/-- Entries' cells. -/
def ecs (av : Int → Int → Value) (l : List (Int × Int)) : List Value := l.flatMap fun p => [.int .i64 p.1, .int .i64 p.2, av p.1 p.2]
theorem ecs_append (av : Int → Int → Value) (a b : List (Int × Int)) : ecs av (a ++ b) = ecs av a ++ ecs av b := by unfold ecs; rw [List.flatMap_append]
theorem teN : TE Try.prog 81 63 3 40 (.agg #[.int .i64 0, .int .i64 0, .slice none 0 0]) := ⟨Try.underlying81, by kernel_rfl, rfl, by omega⟩
theorem makeN (c : Nat) (hn : c ≤ 4294971392) : ∃ cur : Array Value, cur.size = c * 3 ∧ ∀ w : World,
    (Instr.makeSlice 81 (.int .i64 0) (.int .i64 (c : Int))).run Try.prog w = .ok (.slice (some ⟨w.heap.size, 0, none⟩) 0 c) (w.alloc (.cells cur 63)) := by
  obtain ⟨i, hi, hz, hsz, hby⟩ := info_parts teN.info
  refine ⟨madeCells (Value.agg #[.int .i64 0, .int .i64 0, .slice none 0 0]).cells (c * i.size), by simp [madeCells, hsz], fun w => ?_⟩
  have h1 := run_make (P := Try.prog) w 81 63 i _ teN.sl hi hz .i64 .i64 0 (c : Int) (by omega) (by omega) (by rw [hby]; omega) (by omega)
  simpa using h1
theorem Row.made (w : World) (T : TypeId) (k c : Nat) (cur : Array Value) (hs : cur.size = c * k) (hm : c ≤ maxLen) : Row (w.alloc (.cells cur T)) T k (.slice (some ⟨w.heap.size, 0, none⟩) 0 c) 0 [] :=
  ⟨by simp, .inr ⟨w.heap.size, 0, c, cur, rfl, Bk.new _ _ _, Nat.zero_le _, hm, by omega, fun j hj => by simp at hj⟩⟩
/-- A row of entries of the call's own. -/
def ERow (w0 w : World) (av : Int → Int → Value) (l : List (Int × Int)) (v : Value) : Prop := Row w 63 3 v l.length (ecs av l) ∧ (∀ k, v.ownBlock = some k → w0.heap.size ≤ k) ∧ Fr (fun _ => False) w0 w

set_option maxRecDepth 100000 in
set_option maxHeartbeats 16000000 in
theorem entries_any {g ba br : Nat} {F : Nat → Prop} {t : DT} {Da Dr : DV} {w : World} (h : TabM w g ba br F t Da Dr) (ok : t.ok) {av : Int → Int → Value} (hav : AV w F t av) (hat : ∀ c s, c ∈ t.cs → s ∈ t.row c → At Da (ky c s) (av c s)) :
    Calls Try.prog 38 #[.pointer (some ⟨g, 0, none⟩)] w fun e w' => ∃ v, e = .returned v ∧ ERow w w' av t.lst v := by
  have hnl := ok.n_le
  obtain ⟨cur, hcs, hmk⟩ := makeN t.n hnl
  have q1 : w.cell? ⟨g, 1, none⟩ = some (.map (some ba)) := h.blk.cell 1
  have hl : ∀ ty, (Builtin.len_ #[53] ty #[.map (some ba)]).run Try.prog w = .ok (.int .i64 (t.n : Nat)) w := fun ty => by
    have := World.ownsMap.len h.ma tKey ty
    rw [h.sa] at this
    exact this
  have HE0 : Hid (ERow w (w.alloc (.cells cur 63)) av [] (.slice (some ⟨w.heap.size, 0, none⟩) 0 t.n)) := Lib.hid ⟨Row.made w _ 3 t.n cur hcs (by unfold maxLen; omega), fun k hk => by
    have : w.heap.size = k := by simpa [Value.ownBlock] using hk
    omega, (Fr.refl _ _).alloc _⟩
  have CC := Lib.hid (clients_any (h.fr ((Fr.refl (fun _ => False) w).alloc (.cells cur 63)) (fun _ _ h => h)) ok.took0)
  have HB := Lib.hid h.blk
  have HI : Hid (∀ c ∈ t.cs, I64 c ∧ t.row c ≠ [] ∧ (t.row c).length ≤ 4096 ∧ ∀ s ∈ t.row c, I64 s) := Lib.hid (fun c hc => by
    have h1 := ok.crng c hc
    refine ⟨I64.of (by omega) (by omega), (ok.cl c).1 hc, by have := ok.len c; have := ok.w2; omega, fun s hs => ?_⟩
    have h2 := ok.rng c s hs
    exact I64.of (by omega) (by omega))
  have HROW : Hid (∀ c ∈ t.cs, ∃ A n cap, n = (t.row c).length ∧ ∀ w', Fr (fun _ => False) w w' → (Instr.lookup 54 (.map (some br)) (.int .i64 c) false).run Try.prog w' = .ok (.slice A n cap) w' ∧ RI w' (.slice A n cap) (t.row c)) := Lib.hid (fun c hc => by
    obtain ⟨h1, h2, _⟩ := HI.out c hc
    obtain ⟨v, h3, h4, h5⟩ := h.row c h1 h2
    obtain ⟨A, cap, rfl, _⟩ := h4.form
    exact ⟨A, _, cap, rfl, fun w' hf => ⟨((h.mr.fr hf (fun h => h)).at1 kInt tRow (zeroRow w') h1.key h3).2, Row.fr0 h4 hf⟩⟩)
  have HANS : Hid (∀ c ∈ t.cs, ∀ s ∈ t.row c, ∃ A n cap, av c s = .slice A n cap ∧ ∀ w', Fr (fun _ => False) w w' → (Instr.lookup 53 (.map (some ba)) (.agg #[.int .i64 c, .int .i64 s]) false).run Try.prog w' = .ok (.slice A n cap) w') := Lib.hid (fun c hc s hs => by
    obtain ⟨A, cap, h1, _⟩ := hav.at_ c s hc hs
    refine ⟨A, _, cap, h1, fun w' hf => ?_⟩
    have h2 := hat c s hc hs
    rw [h1] at h2
    exact ((h.ma.fr hf (fun h => h)).at1 kKey tKey (zeroAns w') (ky_of (HI.out c hc).1 ((HI.out c hc).2.2.2 s hs)) h2).2)
  have HLEN := Lib.hid (fun i (hi : i < t.cs.length) => lstN_len t hi)
  have HNL := Lib.hid hnl
  have HCN := Lib.hid ok.cs_len
  have HALL := Lib.hid (lstN_all t)
  have HSUC := Lib.hid (fun i (hi : i < t.cs.length) => lstN_succ t hi)
  have HZ : Hid (lstN t 0 = []) := Lib.hid rfl
  rw [← HALL.out]
  clear h ok hav hat hcs HALL
  obtain ⟨L, hL⟩ : ∃ L, lstN t = L := ⟨_, rfl⟩
  rw [hL] at HLEN HSUC HZ ⊢
  clear hL
  have hN0 : (0 : Int) ≤ (t.n : Int) := by omega
  have hN1 : (t.n : Int) ≤ 4294971392 := by omega
  obtain ⟨N, hN⟩ : ∃ N, t.n = N := ⟨_, rfl⟩
  rw [hN] at hmk hl HE0 HLEN HNL hN0 hN1
  clear hN hnl
  generalize t.row = row at *
  generalize t.cs = cs at *
  obtain ⟨b0, hb0⟩ : ∃ b0, w.heap.size = b0 := ⟨_, rfl⟩
  have HB0 := Lib.hid hb0
  obtain ⟨W0, hW0⟩ : ∃ W0, w.alloc (.cells cur 63) = W0 := ⟨_, rfl⟩
  have HS0 : Hid (W0.heap.size = b0 + 1 ∧ Fr (fun _ => False) w W0) := Lib.hid (by rw [← hW0, ← hb0]; exact ⟨by simp, (Fr.refl _ _).alloc _⟩)
  rw [hW0] at CC HE0
  rw [hb0] at HE0
  go_enter Try.func38, Try.ntmps38
  go_wp2_with fail
  clear hW0 q1 hl hmk
  refine CC.out.mono ?_; rintro e w1 ⟨v1, rfl, hri1, hnew1, hf1⟩
  obtain ⟨A1, c1, rfl, _⟩ := hri1.form
  have HR1 := Lib.hid hri1
  have HE1 : Hid (Row w1 63 3 (.slice (some ⟨b0, 0, none⟩) 0 N) 0 []) := Lib.hid (Row.fr0 HE0.out.1 hf1)
  have HF1 : Hid (Fr (fun _ => False) w w1 ∧ b0 < w1.heap.size) := Lib.hid ⟨HS0.out.2.trans hf1 (fun _ _ h => h), by have h1 := hf1.size; have h2 := HS0.out.1; omega⟩
  obtain ⟨nc, hnc⟩ : ∃ nc, cs.length = nc := ⟨_, rfl⟩
  have HNW : Hid ((Value.slice A1 cs.length c1).ownBlock ≠ some b0) := Lib.hid (fun e => by have h1 := hnew1 b0 e; have h2 := HS0.out.1; omega)
  have HNC := Lib.hid hnc
  rw [hnc] at HR1 HNW ⊢
  have hnc1 : (nc : Int) ≤ 1048577 := by have := HCN.out; omega
  clear hri1 hnew1 hf1 CC HE0 hnc hb0
  go_wp2_with fail
  go_loopw [18, 3] (fun i v wr => ∃ (j m : Nat) (A : Option Addr) (cp : Nat), j ≤ nc ∧ i = .int .i64 (j : Int) ∧ v = .slice A m cp ∧ Hid (m = (L j).length ∧ Row wr 63 3 (.slice A m cp) m (ecs av (L j)) ∧ ∀ k, (Value.slice A m cp).ownBlock = some k → k = b0 ∨ w1.heap.size ≤ k) ∧ Fr (fun k => k = b0) w1 wr) (fun i _ _ => nc - (intOf i).toNat)
  case atStart => exact ⟨0, 0, _, _, Nat.zero_le _, rfl, rfl, ⟨by rw [HZ.out]; rfl, by rw [HZ.out]; exact HE1.out, fun k hk => .inl (by
    have : b0 = k := by simpa [Value.ownBlock] using hk
    exact this.symm)⟩, Fr.refl _ _⟩
  case round =>
    obtain ⟨j, m, A, cp, hj, rfl, rfl, hq, hfr⟩ := hrel
    have HFR := Lib.hid hfr
    have HW : Hid (Fr (fun _ => False) w wr) := Lib.hid (((HF1.out.1.mono (T := fun k => k = b0) (fun _ _ h => h.elim)).trans hfr (fun _ _ h => h)).mono (fun x hx e => by have := HB0.out; omega))
    clear hfr
    have hj0 : (0 : Int) ≤ (j : Int) := by omega
    by_cases hlt : j < nc
    · have hj1 : (j : Int) < (nc : Int) := by omega
      have hjc : j < cs.length := by rw [HNC.out]; exact hlt
      obtain ⟨b1, o1, e1, hcell⟩ := RI.at (Row.fr HR1.out HFR.out (fun k hk e => HNW.out (e ▸ hk))) hjc
      subst e1
      obtain ⟨c, hc⟩ : ∃ c, cs[j] = c := ⟨_, rfl⟩
      have hcm : c ∈ cs := by rw [← hc]; exact List.getElem_mem _
      have HSJ := Lib.hid (HSUC.out j hjc)
      have HLJ := Lib.hid (HLEN.out j hjc)
      rw [hc] at hcell HSJ HLJ
      obtain ⟨A2, rn, c2, hrn, hrow⟩ := HROW.out c hcm
      obtain ⟨hI1, _, hI3, hI4⟩ := HI.out c hcm
      have HIC := Lib.hid hI1
      have HIS := Lib.hid hI4
      have HRN := Lib.hid hrn
      have HRW := Lib.hid hrow
      have HAN := Lib.hid (HANS.out c hcm)
      have hrn1 : (rn : Int) ≤ 4096 := by omega
      have hlk := (hrow wr HW.out).1
      have q2 : wr.cell? ⟨g, 2, none⟩ = some (.map (some br)) := (HB.out.fr HW.out (fun h => h)).cell 2
      have HM := Lib.hid hq.out.1
      have HQ := Lib.hid hq.out.2
      have w1' : IntKind.i64.wrap ((j : Int) + 1) = (j : Int) + 1 := IntWalk.i64_in _ (by omega)
      clear hjc hc hcm hrow hrn hI1 hI3 hI4 hq
      generalize row c = r at *
      go_wp2_with fail
      clear hlk q2 hcell
      obtain ⟨wo, rfl⟩ : ∃ wo, wo = wr := ⟨_, rfl⟩
      go_loopw [29, 3] (fun i v wr => ∃ (q m2 : Nat) (A3 : Option Addr) (cp3 : Nat), q ≤ rn ∧ i = .int .i64 (q : Int) ∧ v = .slice A3 m2 cp3 ∧ Hid (m2 = (L j).length + q ∧ Row wr 63 3 (.slice A3 m2 cp3) m2 (ecs av (L j ++ (r.take q).map fun s => (c, s))) ∧ ∀ k, (Value.slice A3 m2 cp3).ownBlock = some k → k = b0 ∨ w1.heap.size ≤ k) ∧ Fr (fun k => k = b0) w1 wr) (fun i _ _ => rn - (intOf i).toNat)
      case atStart => exact ⟨0, m, _, _, Nat.zero_le _, rfl, rfl, ⟨by rw [HM.out]; rfl, by simpa using HQ.out.1, HQ.out.2⟩, HFR.out⟩
      case round =>
        obtain ⟨q, m2, A3, cp3, hq, rfl, rfl, hq2, hfr⟩ := hrel
        have HFR2 := Lib.hid hfr
        have HW2 : Hid (Fr (fun _ => False) w wr) := Lib.hid (((HF1.out.1.mono (T := fun k => k = b0) (fun _ _ h => h.elim)).trans hfr (fun _ _ h => h)).mono (fun x hx e => by have := HB0.out; omega))
        clear hfr
        have hq0 : (0 : Int) ≤ (q : Int) := by omega
        by_cases hlq : q < rn
        · have hq1 : (q : Int) < (rn : Int) := by omega
          have hqr : q < r.length := by rw [← HRN.out]; exact hlq
          obtain ⟨b2, o2, e2, hcell⟩ := RI.at (HRW.out wr HW2.out).2 hqr
          subst e2
          obtain ⟨s, hs⟩ : ∃ s, r[q] = s := ⟨_, rfl⟩
          rw [hs] at hcell
          have hsm : s ∈ r := by rw [← hs]; exact List.getElem_mem _
          obtain ⟨A4, n4, c4, hav4, han4⟩ := HAN.out s hsm
          have HT : Hid (ecs av (L j ++ (r.take (q + 1)).map fun s => (c, s)) = ecs av (L j ++ (r.take q).map fun s => (c, s)) ++ [.int .i64 c, .int .i64 s, .slice A4 n4 c4]) := Lib.hid (by
            rw [List.take_add_one, List.getElem?_eq_getElem hqr, hs]
            simp only [Option.toList_some, List.map_append, List.map_cons, List.map_nil, ← List.append_assoc]
            rw [ecs_append]
            congr 1
            simp [ecs, hav4])
          have HM2 : Hid (m2 = (L j).length + q ∧ m2 + 1 ≤ 4294971392) := Lib.hid ⟨hq2.out.1, by have h1 := HLJ.out; have h2 := hq2.out.1; omega⟩
          have HQ2 := Lib.hid hq2.out.2
          have w2' : IntKind.i64.wrap ((q : Int) + 1) = (q : Int) + 1 := IntWalk.i64_in _ (by omega)
          obtain ⟨kb, hkb⟩ : ∃ kb, wr.heap.size = kb := ⟨_, rfl⟩
          obtain ⟨WK, hWK⟩ : ∃ WK, wr.alloc (.cells #[.int .i64 c, .int .i64 s] 48) = WK := ⟨_, rfl⟩
          have KW : Hid (Bk WK kb 48 #[.int .i64 c, .int .i64 s]) := Lib.hid (by rw [← hWK, ← hkb]; exact Bk.new _ _ _)
          have FWK : Hid (Fr (fun _ => False) wr WK) := Lib.hid (by rw [← hWK]; exact (Fr.refl _ _).alloc _)
          have HC : Hid (∀ w', Fr (fun _ => False) WK w' → w'.cell? ⟨kb, 0, none⟩ = some (.int .i64 c) ∧ w'.cell? ⟨kb, 1, none⟩ = some (.int .i64 s) ∧ w'.cell? ⟨g, 1, none⟩ = some (.map (some ba)) ∧ (Instr.lookup 53 (.map (some ba)) (.agg #[.int .i64 c, .int .i64 s]) false).run Try.prog w' = .ok (.slice A4 n4 c4) w') := Lib.hid (fun w' hf => by
            have g1 := KW.out.fr hf (fun h => h)
            have f3 := (HW2.out.trans FWK.out (fun _ _ h => h)).trans hf (fun _ _ h => h)
            exact ⟨g1.cell 0, g1.cell 1, (HB.out.fr f3 (fun h => h)).cell 1, han4 w' f3⟩)
          clear hqr hs hsm hav4 han4 hq2
          go_wp2_with fail
          clear hWK hkb hcell
          refine wp_region_Z [10] (fun w' => Fr (fun _ => False) WK w') (by kernel_rfl) ((Fr.refl _ _).drew) (fun hHeld => ?_)
          refine anyZ_pure (i := 0) (v := ?_) (some 36) rfl rfl (by kernel_rfl) (by kernel_rfl) (by kernel_rfl) (by kernel_rfl) (fun _ _ _ h => h) (Or.inl ⟨by rfl, ?_⟩) (fun _ => hHeld) ?_
          rotate_left
          · intro w' _
            go_simp
            first | done | with_reducible rfl
          try simp only [Act.put, List.setIfInBounds_toArray, List.set_cons_zero, List.set_cons_succ]
          refine anyZ_read (i := 1) (v := ?_) (some 37) [8, 9, 10, 11] rfl rfl (by kernel_rfl) (by kernel_rfl) (by kernel_rfl) (by kernel_rfl) (by kernel_rfl) (by kernel_rfl) (fun _ _ _ h => h) (Or.inl ⟨by rfl, ?_⟩) hHeld ?_
          rotate_left
          · intro w' hSw
            obtain ⟨x0, x1, x2, x3⟩ := HC.out w' hSw
            go_simp
            first | done | with_reducible rfl
          try simp only [Act.put, List.setIfInBounds_toArray, List.set_cons_zero, List.set_cons_succ]
          refine anyZ_pure (i := 2) (v := ?_) (some 38) rfl rfl (by kernel_rfl) (by kernel_rfl) (by kernel_rfl) (by kernel_rfl) (fun _ _ _ h => h) (Or.inl ⟨by rfl, ?_⟩) (fun _ => hHeld) ?_
          rotate_left
          · intro w' _
            go_simp
            first | done | with_reducible rfl
          try simp only [Act.put, List.setIfInBounds_toArray, List.set_cons_zero, List.set_cons_succ]
          refine anyZ_pure (i := 3) (v := ?_) (some 39) rfl rfl (by kernel_rfl) (by kernel_rfl) (by kernel_rfl) (by kernel_rfl) (fun _ _ _ h => h) (Or.inl ⟨by rfl, ?_⟩) (fun _ => hHeld) ?_
          rotate_left
          · intro w' _
            go_simp
            first | done | with_reducible rfl
          try simp only [Act.put, List.setIfInBounds_toArray, List.set_cons_zero, List.set_cons_succ]
          refine anyZ_pure (i := 4) (v := ?_) (some 40) rfl rfl (by kernel_rfl) (by kernel_rfl) (by kernel_rfl) (by kernel_rfl) (fun _ _ _ h => h) (Or.inl ⟨by rfl, ?_⟩) (fun _ => hHeld) ?_
          rotate_left
          · intro w' _
            go_simp
            first | done | with_reducible rfl
          try simp only [Act.put, List.setIfInBounds_toArray, List.set_cons_zero, List.set_cons_succ]
          refine anyZ_read (i := 5) (v := ?_) (some 41) [7, 8, 9, 10, 11] rfl rfl (by kernel_rfl) (by kernel_rfl) (by kernel_rfl) (by kernel_rfl) (by kernel_rfl) (by kernel_rfl) (fun _ _ _ h => h) (Or.inl ⟨by rfl, ?_⟩) hHeld ?_
          rotate_left
          · intro w' hSw
            obtain ⟨x0, x1, x2, x3⟩ := HC.out w' hSw
            go_simp
            first | done | with_reducible rfl
          try simp only [Act.put, List.setIfInBounds_toArray, List.set_cons_zero, List.set_cons_succ]
          refine anyZ_read (i := 6) (v := ?_) (some 42) [7, 8, 9, 10, 11] rfl rfl (by kernel_rfl) (by kernel_rfl) (by kernel_rfl) (by kernel_rfl) (by kernel_rfl) (by kernel_rfl) (fun _ _ _ h => h) (Or.inl ⟨by rfl, ?_⟩) hHeld ?_
          rotate_left
          · intro w' hSw
            obtain ⟨x0, x1, x2, x3⟩ := HC.out w' hSw
            go_simp
            first | done | with_reducible rfl
          try simp only [Act.put, List.setIfInBounds_toArray, List.set_cons_zero, List.set_cons_succ]
          refine anyZ_read (i := 7) (v := ?_) (some 43) [8, 9, 10, 11] rfl rfl (by kernel_rfl) (by kernel_rfl) (by kernel_rfl) (by kernel_rfl) (by kernel_rfl) (by kernel_rfl) (fun _ _ _ h => h) (Or.inl ⟨by rfl, ?_⟩) hHeld ?_
          rotate_left
          · intro w' hSw
            obtain ⟨x0, x1, x2, x3⟩ := HC.out w' hSw
            go_simp
            first | done | with_reducible rfl
          try simp only [Act.put, List.setIfInBounds_toArray, List.set_cons_zero, List.set_cons_succ]
          refine anyZ_pure (i := 8) (v := ?_) (some 44) rfl rfl (by kernel_rfl) (by kernel_rfl) (by kernel_rfl) (by kernel_rfl) (fun _ _ _ h => h) (Or.inl ⟨by rfl, ?_⟩) (fun _ => hHeld) ?_
          rotate_left
          · intro w' _
            go_simp
            first | done | with_reducible rfl
          try simp only [Act.put, List.setIfInBounds_toArray, List.set_cons_zero, List.set_cons_succ]
          refine anyZ_ready (rs := [9]) (by kernel_rfl) (by simp) ?_
          refine AllZ.step rfl (fun K hK => ?_) AllZ.nil
          go_simp
          refine hK.out _ _ (hHeld.alloc _) (fun hHeld => ?_)
          clear hK K
          try change anyZ _ _ _ _ _ _ _ _ (Act.put _ (some 45) _) _
          try simp only [Act.put, List.setIfInBounds_toArray, List.set_cons_zero, List.set_cons_succ]
          refine anyZ_ready (rs := [10]) (by kernel_rfl) (by simp) ?_
          refine AllZ.last rfl (by kernel_rfl) (fun K hK => ?_) AllZ.nil
          have hrow := Row.fr0 HQ2.out.1 (FWK.out.trans hHeld (fun _ _ h => h))
          have hsl : Sl (WK.alloc (.cells #[.int .i64 c, .int .i64 s, .slice A4 n4 c4] 63)).drew 3 (.slice (some ⟨WK.heap.size, 0, none⟩) 1 1) 1 [.int .i64 c, .int .i64 s, .slice A4 n4 c4] := Sl.at rfl rfl (fun j u hu => by rw [Nat.zero_add, ((Bk.new WK _ _).drew).cell]; simpa using hu)
          refine stepOf_appendR teN rfl (.tmp 36) (.tmp 45) rfl (.slice A3 m2 cp3) m2 (ecs av (L j ++ (r.take q).map fun s => (c, s))) rfl hrow _ 1 [.int .i64 c, .int .i64 s, .slice A4 n4 c4] rfl hsl (fun u hu => by simp at hu; rcases hu with rfl | rfl | rfl <;> rfl) (by have := HM2.out.2; unfold maxLen; omega) (by have := HM2.out.2; omega) ?_
          intro A9 c9 w9 hr9 hf9 hm9
          have HQ9 : Hid (Row w9 63 3 (.slice A9 (m2 + 1) c9) (m2 + 1) (ecs av (L j ++ (r.take (q + 1)).map fun s => (c, s)))) := Lib.hid (by rw [HT.out]; exact hr9)
          have hfx : Fr (fun k => (Value.slice A3 m2 cp3).ownBlock = some k) wr w9 := ((FWK.out.trans hHeld (fun _ _ h => h)).mono (fun _ _ h => h.elim)).trans hf9 (fun _ _ h => h)
          have HF9 : Hid (Fr (fun k => k = b0) w1 w9) := Lib.hid (HFR2.out.trans hfx (fun x hx e => by rcases HQ2.out.2 x e with e | e; exact e; omega))
          have HO9 : Hid (∀ k, (Value.slice A9 (m2 + 1) c9).ownBlock = some k → k = b0 ∨ w1.heap.size ≤ k) := Lib.hid (fun k hk => by
            rcases hm9 with e | ⟨x, e, hx⟩
            · exact HQ2.out.2 k (e ▸ hk)
            · rw [e] at hk; injection hk with hk; have h1 := HFR2.out.size; have h2 := FWK.out.size; have h3 := hHeld.size; right; omega)
          clear hrow hsl hr9 hf9 hm9 hfx hHeld
          refine hK.out _ _ ?_
          clear hK K
          try change anyZ _ _ _ _ _ _ _ _ (Act.put _ (some 46) _) _
          try simp only [Act.put, List.setIfInBounds_toArray, List.set_cons_zero, List.set_cons_succ]
          refine anyZ_pure (i := 11) (v := ?_) (some 3) rfl rfl (by kernel_rfl) (by kernel_rfl) (by kernel_rfl) (by kernel_rfl) (fun _ _ _ h => h) (Or.inl ⟨by rfl, ?_⟩) (notYet (by kernel_rfl)) ?_
          rotate_left
          · intro w' _
            go_simp
            first | done | with_reducible rfl
          try simp only [Act.put, List.setIfInBounds_toArray, List.set_cons_zero, List.set_cons_succ]
          refine anyZ_done (by kernel_rfl) ?_ _
          go_wp2
          go_roundw
          case rel => exact ⟨q + 1, m2 + 1, A9, c9, by omega, by go_num, rfl, ⟨by rw [HM2.out.1]; rfl, HQ9.out, HO9.out⟩, HF9.out⟩
          case measure => simp [intOf]; omega
        · obtain rfl : q = rn := by omega
          have HEQ : Hid (m2 = (L (j + 1)).length ∧ Row wr 63 3 (.slice A3 m2 cp3) m2 (ecs av (L (j + 1))) ∧ ∀ k, (Value.slice A3 m2 cp3).ownBlock = some k → k = b0 ∨ w1.heap.size ≤ k) := Lib.hid (by
            have h1 := hq2.out
            rw [HRN.out, List.take_length] at h1
            rw [HSJ.out]
            exact ⟨by rw [List.length_append, List.length_map]; exact h1.1, h1.2.1, h1.2.2⟩)
          clear hq2 hlq hq
          go_wp2
          go_roundw
          case rel => exact ⟨j + 1, m2, A3, cp3, by omega, by go_num, rfl, HEQ, HFR2.out⟩
          case measure => simp [intOf]; omega
    · obtain rfl : j = nc := by omega
      have HEQ := Lib.hid hq.out
      clear hq hlt hj
      go_wp2
      go_ret
      obtain ⟨e1, e2, e3⟩ := HEQ.out
      rw [HNC.out]
      refine ⟨_, rfl, ?_, fun k hk => ?_, HW.out⟩
      · rw [← e1]; exact e2
      · have h1 := HB0.out
        have h2 := HF1.out.2
        rcases e3 k hk with e | e
        · omega
        · omega
end Go.Proofs.Ytdfkoehcmgcoiaa
