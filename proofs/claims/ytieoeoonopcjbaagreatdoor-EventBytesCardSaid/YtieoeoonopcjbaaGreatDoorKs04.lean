import Derived.Test.YtieoeoonopcjbaaGreatDoorKs03
import Derived.Laws.BytesArg
import Derived.Lib.SlBytesConst
import Derived.Deep.RegionHeld3

/- event: read. -/
namespace Go.Proofs.YtieoeoonopcjbaaGreatDoor
open Go.RowKit

theorem Ev.may.ok {p : VL} (h : p.e.may) : p.ok :=
  ⟨⟨by have := h.k; omega, by have := h.k; omega⟩, ⟨by have := h.a; omega, by have := h.a; omega⟩, ⟨by have := h.r; omega, by have := h.r; omega⟩, ⟨by have := h.i; omega, by have := h.i; omega⟩, ⟨by have := h.l; omega, by have := h.l; omega⟩, ⟨by have := h.n; omega, by have := h.n; omega⟩, by have := h.d; omega⟩
theorem teVE : TE Tryz.prog 22 68 7 72 (.agg #[.int .i64 0, .int .i64 0, .int .i64 0, .int .i64 0, .int .i64 0, .int .i64 0, .slice none 0 0]) := ⟨Tryz.underlying22, by kernel_rfl, rfl, by omega⟩
theorem sl1E {w' : World} {g : Nat} {cs : List Value} (hl : cs.length = 7) (h : Bk w' g 68 cs.toArray) : Sl w' 7 (.slice (some ⟨g, 0, none⟩) 1 1) 1 cs :=
  Sl.at rfl (by rw [hl]) (fun j u hu => by rw [Nat.zero_add, h.cell]; simpa using hu)
/-- What stands throughout. -/
structure RHome (w : World) (gr : Nat) (A : Option Addr) (n : Nat) : Prop where
  r : gr < w.heap.size
  re : gr ≠ 0
  e : 0 < w.heap.size
  a : ∀ ad, A = some ad → 0 < n → ad.block < w.heap.size
/-- A reader at work on a row of events that is new since w. -/
structure RLoop (w : World) (gr : Nat) (A : Option Addr) (n cp : Nat) (xs : List UInt8) (v : Value) (ps : List VL) (s : St) (wr : World) : Prop where
  rd : RdAt wr gr A n cp xs s
  own : OwnV wr 68 v ps
  new : ∀ k, VB v ps k → w.heap.size ≤ k
  et : ErrT wr
  fr : Fr (fun x => x = gr) w wr
section
variable {w w' wr : World} {gr : Nat} {A : Option Addr} {n cp : Nat} {xs : List UInt8} {v : Value} {ps : List VL} {s s' : St}
theorem RLoop.call (h : RLoop w gr A n cp xs v ps s wr) (hs : RHome w gr A n) (rd : RdAt w' gr A n cp xs s') (hf : Fr (fun x => x = gr) wr w') : RLoop w gr A n cp xs v ps s' w' :=
  ⟨rd, h.own.fr hf (fun k hk e => by have := h.new k hk; have := hs.r; omega), h.new, h.et.fr hf (fun e => hs.re e.symm), h.fr.trans hf (fun _ _ e => e)⟩
theorem RLoop.fr0 (h : RLoop w gr A n cp xs v ps s wr) (hf : Fr (fun _ => False) wr w') : RLoop w gr A n cp xs v ps s w' :=
  ⟨h.rd.quiet hf, h.own.fr0 hf, h.new, h.et.fr hf (fun e => e), h.fr.trans hf (fun _ _ e => e.elim)⟩
theorem RLoop.put (h : RLoop w gr A n cp xs v ps s wr) (hs : RHome w gr A n) {p : VL} (hp : OwV wr p) (hpn : ∀ k, p.bv.ownBlock = some k → w.heap.size ≤ k) {A6 : Option Addr} {c6 m : Nat} (hr : Row w' 68 7 (.slice A6 (m + 1) c6) (m + 1) (vlc ps ++ p.cells)) (hm : ps.length = m)
    (hf : Fr (fun g => v.ownBlock = some g) wr w') (hmv : Moved wr v (.slice A6 (m + 1) c6)) : RLoop w gr A n cp xs (.slice A6 (m + 1) c6) (ps ++ [p]) s w' := by
  have hv : ∀ k, v.ownBlock = some k → w.heap.size ≤ k := fun k hk => h.new k (.inl hk)
  have hne : (68 : TypeId) ≠ 5 := by decide
  refine ⟨rdAt_fr h.rd hf (fun e => by have := hv _ e; have := hs.r; omega) (fun ad e h0 e2 => by have := hs.a ad e h0; have := hv _ e2; omega), ⟨?_, fun q hq => ?_⟩, fun k hk => ?_, h.et.fr hf (fun e => by have := hv _ e; have := hs.e; omega), h.fr.trans hf (fun x hx e => by have := hv x e; omega)⟩
  · rw [show (ps ++ [p]).length = m + 1 by simp [hm], show vlc (ps ++ [p]) = vlc ps ++ p.cells by simp [vlc]]
    exact hr
  · rcases List.mem_append.1 hq with hq | hq
    · exact (h.own.each q hq).fr hf (fun k hk e => h.own.apart hne hq e hk)
    · simp at hq; subst hq
      exact hp.fr hf (fun k hk e => by
        obtain ⟨cur, hb⟩ := h.own.row.bk e
        exact hp.own.ne hb (fun e => hne e.symm) hk)
  · rcases hk with e | ⟨q, hq, e⟩
    · rcases hmv with e2 | ⟨x, e2, hx⟩
      · exact hv k (e2 ▸ e)
      · rw [e2] at e; injection e with e; have := h.fr.size; omega
    · rcases List.mem_append.1 hq with hq | hq
      · exact h.new k (.inr ⟨q, hq, e⟩)
      · simp at hq; subst hq; exact hpn k e
end

set_option maxRecDepth 100000 in
set_option maxHeartbeats 8000000 in
theorem readEvs_any {w : World} {gr : Nat} {A : Option Addr} {n cp : Nat} {xs : List UInt8} {s : St} (h : RdAt w gr A n cp xs s) (ht : ErrT w) (hs : RHome w gr A n) :
    Calls Tryz.prog 37 #[.pointer (some ⟨gr, 0, none⟩)] w fun e w' => ∃ A9 m c9 ps, e = .returned (.slice A9 m c9) ∧ ps.length = m ∧ ((rdE xs (stBetween xs cntW 0 4096 s).1.toNat (stBetween xs cntW 0 4096 s).2).1 = true → ps.map VL.e = (rdE xs (stBetween xs cntW 0 4096 s).1.toNat (stBetween xs cntW 0 4096 s).2).2.1) ∧ RLoop w gr A n cp xs (.slice A9 m c9) ps (rdE xs (stBetween xs cntW 0 4096 s).1.toNat (stBetween xs cntW 0 4096 s).2).2.2 w' := by
  have C1 := Lib.hid (rBetween_any h ht cntW hs.re 0 4096)
  have HS := Lib.hid hs
  have hb : 0 ≤ (stBetween xs cntW 0 4096 s).1 ∧ (stBetween xs cntW 0 4096 s).1 ≤ 4096 := by
    rcases btw_cases xs cntW 0 4096 s with h | h <;> omega
  have H0 : Hid (RLoop w gr A n cp xs (.slice none 0 0) [] s w) := Lib.hid ⟨h, OwnV.nil _ _, fun k hk => hk.elim (fun e => by cases e) (fun ⟨q, hq, _⟩ => by cases hq), ht, Fr.refl _ _⟩
  generalize stBetween xs cntW 0 4096 s = Y at *
  obtain ⟨cnt, s0⟩ := Y
  simp only at *
  obtain ⟨N, rfl⟩ : ∃ N : Nat, cnt = (N : Int) := ⟨cnt.toNat, by omega⟩
  rw [Int.toNat_natCast]
  obtain ⟨R, hR⟩ : ∃ R, rdE xs N s0 = R := ⟨_, rfl⟩
  rw [hR]
  have HR := Lib.hid hR
  have hNI : (N : Int) ≤ 4096 := by omega
  unfold cntW at C1
  clear h ht hs hb hR
  go_enter Tryz.func37, Tryz.ntmps37
  go_wp2_with fail
  refine C1.out.mono ?_; rintro e w1 ⟨rfl, hr1, hf1⟩
  have H1 := Lib.hid (H0.out.call HS.out hr1 hf1)
  clear hr1 hf1 C1 H0
  go_wp2_with fail
  go_loopw [7, 3] (fun i l wr => ∃ (k m : Nat) (A9 : Option Addr) (c9 : Nat) (ps : List VL) (s' : St), i = .int .i64 (k : Int) ∧ l = .slice A9 m c9 ∧ k ≤ N ∧ m ≤ k ∧ Hid (ps.length = m ∧ (rdE xs (N - k) s').1 = R.1 ∧ ((rdE xs (N - k) s').1 = true → ps.map VL.e ++ (rdE xs (N - k) s').2.1 = R.2.1) ∧ (rdE xs (N - k) s').2.2 = R.2.2 ∧ RLoop w gr A n cp xs (.slice A9 m c9) ps s' wr)) (fun i _ _ => N - (intOf i).toNat)
  case atStart => exact ⟨0, 0, none, 0, [], s0, rfl, rfl, by omega, by omega, ⟨rfl, by rw [Nat.sub_zero, HR.out], fun _ => by rw [Nat.sub_zero, HR.out]; rfl, by rw [Nat.sub_zero, HR.out], H1.out⟩⟩
  case round =>
    obtain ⟨k, m, A9, c9, ps, s', rfl, rfl, hk, hmk, HK⟩ := hrel
    clear H1 HR
    by_cases hlt : k < N
    · have hlt' : (k : Int) < (N : Int) := by omega
      have hkI : (k : Int) ≤ 4096 := by omega
      have w1 : IntKind.i64.wrap ((k : Int) + 1) = (k : Int) + 1 := IntWalk.i64_in _ (by omega)
      have HRL := Lib.hid HK.out.2.2.2.2
      have HLEN := Lib.hid HK.out.1
      have hex : rdE xs (N - k) s' = if (evR xs s').1.k = 0 then (false, [], (evR xs s').2) else ((rdE xs (N - (k + 1)) (evR xs s').2).1, (evR xs s').1 :: (rdE xs (N - (k + 1)) (evR xs s').2).2.1, (rdE xs (N - (k + 1)) (evR xs s').2).2.2) := by
        rw [show N - k = N - (k + 1) + 1 by omega, rdE]
      have HEX := Lib.hid hex
      have HREL := Lib.hid (And.intro HK.out.2.1 (And.intro HK.out.2.2.1 HK.out.2.2.2.1))
      have CE := Lib.hid (readEvent_any HRL.out.rd HRL.out.et HS.out.re (Nat.lt_of_lt_of_le HS.out.r HRL.out.fr.size) (fun ad e h0 => Nat.lt_of_lt_of_le (HS.out.a ad e h0) HRL.out.fr.size))
      have HMAY := Lib.hid (evR_may xs s')
      have HSZ : Hid (w.heap.size ≤ wr.heap.size) := Lib.hid HRL.out.fr.size
      clear hex HK
      go_wp2_with fail
      refine CE.out.mono ?_; rintro e w3 ⟨p, rfl, hpe, hown, hnew, hrd3, hf3⟩
      have HL3 := Lib.hid (HRL.out.call HS.out hrd3 hf3)
      have HPE := Lib.hid hpe
      have HOW : Hid (OwV w3 p) := Lib.hid ⟨hown, Ev.may.ok (by rw [hpe]; exact HMAY.out)⟩
      have HNEW := Lib.hid (fun k hk => Nat.le_trans HSZ.out (hnew k hk))
      clear hpe hown hnew hrd3 hf3 CE HRL
      have HC : Hid (p.cells = [.int .i64 p.e.k, .int .i64 p.e.a, .int .i64 p.e.r, .int .i64 p.e.i, .int .i64 p.e.l, .int .i64 p.e.n, .slice p.A p.e.d.length p.c]) := Lib.hid rfl
      have HK0 : Hid (p.e.k = (evR xs s').1.k) := Lib.hid (by rw [HPE.out])
      have hpv : p.val = .agg #[.int .i64 p.e.k, .int .i64 p.e.a, .int .i64 p.e.r, .int .i64 p.e.i, .int .i64 p.e.l, .int .i64 p.e.n, .slice p.A p.e.d.length p.c] := rfl
      rw [hpv]
      clear hpv
      generalize p.e.k = x0 at *
      generalize p.e.a = x1 at *
      generalize p.e.r = x2 at *
      generalize p.e.i = x3 at *
      generalize p.e.l = x4 at *
      generalize p.e.n = x5 at *
      generalize p.e.d.length = dl at *
      generalize p.A = pA at *
      generalize p.c = pc at *
      obtain ⟨g4, hg4⟩ : ∃ g4, w3.heap.size = g4 := ⟨_, rfl⟩
      obtain ⟨W4, hW4⟩ : ∃ W4, w3.alloc (.cells #[.int .i64 x0, .int .i64 x1, .int .i64 x2, .int .i64 x3, .int .i64 x4, .int .i64 x5, .slice pA dl pc] 68) = W4 := ⟨_, rfl⟩
      have F4 : Hid (Fr (fun _ => False) w3 W4) := Lib.hid (by rw [← hW4]; exact (Fr.refl _ _).alloc _)
      have K4 : Hid (Bk W4 g4 68 #[.int .i64 x0, .int .i64 x1, .int .i64 x2, .int .i64 x3, .int .i64 x4, .int .i64 x5, .slice pA dl pc]) := Lib.hid (by rw [← hW4, ← hg4]; exact Bk.new _ _ _)
      have m0 : W4.cell? ⟨g4, 0, none⟩ = some (.int .i64 x0) := K4.out.cell 0
      have m1 : W4.cell? ⟨g4, 1, none⟩ = some (.int .i64 x1) := K4.out.cell 1
      have m2 : W4.cell? ⟨g4, 2, none⟩ = some (.int .i64 x2) := K4.out.cell 2
      have m3 : W4.cell? ⟨g4, 3, none⟩ = some (.int .i64 x3) := K4.out.cell 3
      have m4 : W4.cell? ⟨g4, 4, none⟩ = some (.int .i64 x4) := K4.out.cell 4
      have m5 : W4.cell? ⟨g4, 5, none⟩ = some (.int .i64 x5) := K4.out.cell 5
      have m6 : W4.cell? ⟨g4, 6, none⟩ = some (.slice pA dl pc) := K4.out.cell 6
      by_cases hz : x0 = 0
      · have d0 : (x0 == 0) = true := by simpa using hz
        have HX := Lib.hid (HEX.out.trans (if_pos (by rw [← HK0.out]; exact hz)))
        clear hz HEX
        go_wp2
        go_ret
        have hR1 : R.1 = false := by rw [← HREL.out.1, HX.out]
        refine ⟨none, 0, 0, [], rfl, rfl, fun e => absurd (hR1.symm.trans e) Bool.false_ne_true, ?_⟩
        have h4 := HL3.out.fr0 F4.out
        refine ⟨?_, OwnV.nil _ _, fun k hk => ?_, h4.et, h4.fr⟩
        · rw [← HREL.out.2.2, HX.out]; exact h4.rd
        · rcases hk with e | ⟨q, hq, _⟩
          · cases e
          · cases hq
      · have d0 : (x0 == 0) = false := by simpa using hz
        have HX := Lib.hid (HEX.out.trans (if_neg (by rw [← HK0.out]; exact hz)))
        have H4 := Lib.hid (HL3.out.fr0 F4.out)
        clear hz HEX
        go_wp2_with (at_builtin; (refine wpList_appendR teVE rfl (.tmp 14) (.tmp 16) rfl (.slice A9 m c9) m (vlc ps) rfl (by have h9 := (H4.out.fr0 ((Fr.refl _ W4).alloc (.cells #[.int .i64 x0, .int .i64 x1, .int .i64 x2, .int .i64 x3, .int .i64 x4, .int .i64 x5, .slice pA dl pc] 68))).own.row; rw [HLEN.out] at h9; exact h9) _ 1 [.int .i64 x0, .int .i64 x1, .int .i64 x2, .int .i64 x3, .int .i64 x4, .int .i64 x5, .slice pA dl pc] rfl (sl1E rfl (Bk.new _ _ _)) (by intro u hu; simp at hu; rcases hu with rfl | rfl | rfl | rfl | rfl | rfl | rfl <;> rfl) (by unfold maxLen; omega) (by omega) ?_; intro A6 c6 w6 hr6 hf6 hm6; have HN6 := Lib.hid ((H4.out.fr0 ((Fr.refl _ W4).alloc (.cells #[.int .i64 x0, .int .i64 x1, .int .i64 x2, .int .i64 x3, .int .i64 x4, .int .i64 x5, .slice pA dl pc] 68))).put HS.out (p := p) (HOW.out.fr (F4.out.alloc _) (fun _ _ h => h)) HNEW.out (by rw [HC.out]; exact hr6) HLEN.out hf6 hm6); clear hr6 hf6 hm6))
        go_roundw
        case rel =>
          refine ⟨k + 1, m + 1, A6, c6, ps ++ [p], (evR xs s').2, by first | rfl | (go_num; done) | (congr 1; omega), rfl, by omega, by omega, ⟨by simp [HLEN.out], ?_, fun e => ?_, ?_, HN6.out⟩⟩
          · rw [← HREL.out.1, HX.out]
          · have h1 := HREL.out.2.1 (by rw [HX.out]; exact e)
            rw [HX.out] at h1
            rw [← h1, ← HPE.out]; simp
          · rw [← HREL.out.2.2, HX.out]
        case measure => (simp [intOf]) <;> omega
    · obtain rfl : k = N := by omega
      have hlt' : ¬ (k : Int) < (k : Int) := by omega
      have HZ := Lib.hid HK.out
      clear hlt HK
      go_wp2
      go_ret
      obtain ⟨z1, z2, z3, z4, z5⟩ := HZ.out
      rw [Nat.sub_self] at z2 z3 z4
      refine ⟨A9, m, c9, rfl, ps, z1, fun _ => by have := z3 rfl; simpa [rdE] using this, ?_⟩
      rw [← z4]; exact z5
end Go.Proofs.YtieoeoonopcjbaaGreatDoor

/- event: Decode. -/
namespace Go.Proofs.YtieoeoonopcjbaaGreatDoor
open Go.RowKit

theorem rdAt_lt {w : World} {g : Nat} {A : Option Addr} {n c : Nat} {xs : List UInt8} {s : St} (h : RdAt w g A n c xs s) : g < w.heap.size ∧ ∀ ad, A = some ad → 0 < n → ad.block < w.heap.size := by
  have h2 : ∀ {p er fat : Int} {what : ByteArray}, Rdr w g A n c xs p er fat what → g < w.heap.size ∧ ∀ ad, A = some ad → 0 < n → ad.block < w.heap.size := fun h => ⟨h.bk.lt, fun ad e h0 => by
    obtain ⟨ad', e', _, hc⟩ := h.rd (by rw [h.len]; exact h0)
    rw [e] at e'; injection e' with e'; subst e'
    exact World.block_lt_of_cell? w ⟨ad.block, ad.off + 0, none⟩ (hc 0 (by rw [h.len]; exact h0))⟩
  cases s with
  | at_ k => obtain ⟨_, _, _, h⟩ := h; exact h2 h
  | bad er a wh => obtain ⟨_, _, h⟩ := h; exact h2 h
theorem end_good {xs : List UInt8} {s : St} (h : stEnd xs s = none) : ¬ s.isBad := by
  cases s with
  | at_ k => exact id
  | bad er a w => cases h
/-- What Decode tells. -/
def DecE (xs : List UInt8) (w : World) (e : Ending) (w' : World) : Prop :=
  match stEnd xs (decE xs).2 with
  | some (er, a, wh) => ∃ fb, e = .returned (.tuple #[.slice none 0 0, .iface 96 (.pointer (some ⟨fb, 0, none⟩))]) ∧ Bk w' fb 99 #[.int .i64 er, .int .i64 a, .string wh] ∧ w.heap.size ≤ fb ∧ er ≠ 0
  | none => ∃ A m c ps, e = .returned (.tuple #[.slice A m c, .nilIface]) ∧ ps.length = m ∧ ps.map VL.e = (decE xs).1 ∧ OwnV w' 68 (.slice A m c) ps ∧ ∀ k, VB (.slice A m c) ps k → w.heap.size ≤ k

set_option maxRecDepth 100000 in
set_option maxHeartbeats 8000000 in
theorem decodeE_any (A : Option Addr) (n c : Nat) (xs : List UInt8) (w : World) (ht : ErrT w) (hr : Rd8 w A xs) (hn : xs.length = n) (hb : n ≤ 17592186044416) :
    Calls Tryz.prog 8 #[.slice A n c] w fun e w' => DecE xs w e w' ∧ Fr (fun _ => False) w w' := by
  have hel : 0 < w.heap.size := World.block_lt_of_cell? w _ ht
  have CN := Lib.hid (newReader_any A n c xs w hr hn hb)
  have HSAME := Lib.hid (rd_same xs (cntR xs).1.toNat (cntR xs).2)
  have HET := Lib.hid ht
  have HEL := Lib.hid hel
  clear hr hn hb hel ht
  go_enter Tryz.func8, Tryz.ntmps8
  go_wp2_with fail
  refine CN.out.mono ?_; rintro e w1 ⟨g, A', c', rfl, hr1, hf1, hg1⟩
  have HF1 := Lib.hid hf1
  have HG1 := Lib.hid hg1
  have hl := rdAt_lt hr1
  have HH : Hid (RHome w1 g A' n) := Lib.hid ⟨hl.1, by have := HEL.out; omega, by have := HEL.out; have := hf1.size; omega, hl.2⟩
  have CR := Lib.hid (readEvs_any hr1 (HET.out.fr hf1 (fun h => h)) HH.out)
  change Hid (Calls _ _ _ _ fun e w' => ∃ A9 m c9 ps, e = .returned (.slice A9 m c9) ∧ ps.length = m ∧ ((rdE xs (cntR xs).1.toNat (cntR xs).2).1 = true → ps.map VL.e = (rdE xs (cntR xs).1.toNat (cntR xs).2).2.1) ∧ RLoop w1 g A' n c' xs (.slice A9 m c9) ps (rdE xs (cntR xs).1.toNat (cntR xs).2).2.2 w') at CR
  clear hr1 hf1 hg1 hl CN
  go_wp2_with fail
  refine CR.out.mono ?_; rintro e w4 ⟨A9, m, c9, ps, rfl, hlen, hps, hrl⟩
  have hs1 := HSAME.out.1
  rw [hs1] at hrl
  have HD : Hid (decE xs = refE xs (cntR xs).1.toNat (cntR xs).2) := Lib.hid rfl
  rw [← HD.out] at hrl
  have HRL := Lib.hid hrl
  have HPS := Lib.hid hps
  have HLEN := Lib.hid hlen
  clear hs1 hrl hps hlen CR
  have HF4 : Hid (Fr (fun _ => False) w w4) := Lib.hid (HF1.out.trans HRL.out.fr (fun x hx e => by have := HG1.out; omega))
  have CE := Lib.hid (rEnd_any HRL.out.rd)
  go_wp2_with fail
  refine CE.out.mono ?_; rintro e w5 ⟨v, rfl, hv, hf5⟩
  have HF5 := Lib.hid (HF4.out.trans hf5 (fun _ _ h => h))
  have HO5 : Hid (OwnV w5 68 (.slice A9 m c9) ps ∧ ∀ k, VB (.slice A9 m c9) ps k → w.heap.size ≤ k) := Lib.hid ⟨HRL.out.own.fr0 hf5, fun k hk => Nat.le_trans HF1.out.size (HRL.out.new k hk)⟩
  have hs4 := HF4.out.size
  have HER : Hid (∀ er a wh, stEnd xs (decE xs).2 = some (er, a, wh) → er ≠ 0) := Lib.hid (fun er a wh h => by
    have hrd := HRL.out.rd
    cases hs : (decE xs).2 with
    | at_ k =>
      rw [hs] at h
      unfold stEnd at h
      simp only at h
      split at h
      · injection h with h; injection h with h; omega
      · cases h
    | bad er' a' wh' =>
      rw [hs] at h hrd
      unfold stEnd at h
      simp only at h
      injection h with h; injection h with h _
      rw [← h]; exact hrd.1)
  clear hf5 HRL HF4 CE
  cases hE : stEnd xs (decE xs).2 with
  | none =>
    rw [hE] at hv
    obtain rfl : v = .nilIface := hv
    have HE := Lib.hid hE
    clear hE hs4
    go_wp2
    go_ret2
    refine ⟨?_, HF5.out⟩
    unfold DecE
    rw [HE.out]
    have hg := HSAME.out.2 (by rw [← HD.out]; exact end_good HE.out)
    exact ⟨A9, m, c9, ps, rfl, HLEN.out, by rw [HPS.out hg.1, hg.2, HD.out], HO5.out.1, HO5.out.2⟩
  | some y =>
    obtain ⟨er, a, wh⟩ := y
    rw [hE] at hv
    obtain ⟨fb, rfl, hbk, hlf⟩ := hv
    have HB := Lib.hid hbk
    have HL : Hid (w.heap.size ≤ fb) := Lib.hid (by omega)
    have HE := Lib.hid hE
    clear hE hbk hlf hs4
    go_wp2
    go_ret2
    refine ⟨?_, HF5.out⟩
    unfold DecE
    rw [HE.out]
    exact ⟨fb, rfl, HB.out, HL.out, HER.out _ _ _ HE.out⟩
end Go.Proofs.YtieoeoonopcjbaaGreatDoor

/- event: Encode. -/
namespace Go.Proofs.YtieoeoonopcjbaaGreatDoor
open Go.RowKit

/-- A writer at g, new since w0, with these bytes; nothing that was there has turned. -/
def NW (w0 w : World) (g : Nat) (bs : List UInt8) : Prop := ∃ v, Wr w g v bs ∧ w0.heap.size ≤ g ∧ (∀ k, v.ownBlock = some k → w0.heap.size ≤ k) ∧ Fr (fun _ => False) w0 w
theorem NW.fr {w0 w : World} {g : Nat} {bs : List UInt8} (h : NW w0 w g bs) : Fr (fun _ => False) w0 w := h.choose_spec.2.2.2
theorem NW.to {w0 w w' : World} {g : Nat} {v v' : Value} {bs' : List UInt8} (hg : w0.heap.size ≤ g) (hv : ∀ k, v.ownBlock = some k → w0.heap.size ≤ k) (hf : Fr (fun _ => False) w0 w) (h : WrTo w g v w' v' bs') : NW w0 w' g bs' := by
  obtain ⟨h1, h2, h3⟩ := h
  refine ⟨v', h1, hg, fun k hk => ?_, hf.trans h2 (fun x hx e => ?_)⟩
  · rcases h3 with e | ⟨y, e, hy⟩
    · exact hv k (e.symm.trans hk)
    · rw [e] at hk; injection hk with hk; have := hf.size; omega
  · rcases e with e | e
    · omega
    · have := hv x e; omega
/-- The world went on, nothing turned. -/
theorem NW.on {w0 w w' : World} {g : Nat} {bs : List UInt8} (h : NW w0 w g bs) (hf : Fr (fun _ => False) w w') : NW w0 w' g bs := by
  obtain ⟨v, h1, h2, h3, h4⟩ := h
  exact ⟨v, ⟨h1.1.fr hf (fun h => h), h1.2.fr hf (fun _ _ h => h)⟩, h2, h3, h4.trans hf (fun _ _ h => h)⟩
theorem nw_new (w0 w : World) (hf : Fr (fun _ => False) w0 w) :
    Calls Tryz.prog 42 #[] w fun e w' => ∃ g, e = .returned (.pointer (some ⟨g, 0, none⟩)) ∧ NW w0 w' g [] := by
  refine (newWriter_any w).mono ?_
  rintro e w' ⟨rfl, rfl⟩
  exact ⟨_, rfl, .slice none 0 0, ⟨Bk.new _ _ _, Own8.nil _ _⟩, hf.size, fun k hk => by simp [Value.ownBlock] at hk, hf.alloc _⟩
theorem nw_int (w0 w : World) (g : Nat) (bs : List UInt8) (a : Int) (h : NW w0 w g bs) (h0 : -9223372036854775808 ≤ a) (h1 : a ≤ 9223372036854775807) (hb : bs.length ≤ 70368744177664) :
    Calls Tryz.prog 43 #[.pointer (some ⟨g, 0, none⟩), .int .i64 a] w fun e w' => e = .returned (.pointer (some ⟨g, 0, none⟩)) ∧ NW w0 w' g (bs ++ enc (foldN a)) := by
  obtain ⟨v, hw, hg, hv, hf⟩ := h
  refine (wInt_any g v a bs w h0 h1 hw hb).mono ?_
  rintro e w' ⟨rfl, v', hto⟩
  exact ⟨rfl, NW.to hg hv hf hto⟩
theorem nw_bytes (w0 w : World) (g : Nat) (bs : List UInt8) (A : Option Addr) (n c : Nat) (xs : List UInt8) (h : NW w0 w g bs) (hb : bs.length ≤ 17592186044416) (hr : Rd8 w A xs) (hn : xs.length = n) (hnb : n ≤ 17592186044416) (ha : ∀ ad, A = some ad → 0 < n → ad.block < w0.heap.size) :
    Calls Tryz.prog 44 #[.pointer (some ⟨g, 0, none⟩), .slice A n c] w fun e w' => e = .returned (.pointer (some ⟨g, 0, none⟩)) ∧ NW w0 w' g (bs ++ (enc (2 * n) ++ xs)) := by
  obtain ⟨v, hw, hg, hv, hf⟩ := h
  refine (wBytes_any g v bs A n c xs w hw hb hr hn hnb (fun ad e h0 hS => by
    have h1 := ha ad e h0
    rcases hS with e2 | e2
    · omega
    · have := hv _ e2; omega)).mono ?_
  rintro e w' ⟨rfl, v', hto⟩
  exact ⟨rfl, NW.to hg hv hf hto⟩
theorem nw_done (w0 w : World) (g : Nat) (bs : List UInt8) (h : NW w0 w g bs) (hb : bs.length ≤ 140737488355328) :
    Calls Tryz.prog 45 #[.pointer (some ⟨g, 0, none⟩)] w fun e w' => ∃ A' c', e = .returned (.slice A' bs.length c') ∧ Own8 w' 5 (.slice A' bs.length c') bs ∧ (∀ k, (Value.slice A' bs.length c').ownBlock = some k → w0.heap.size ≤ k) ∧ Fr (fun _ => False) w0 w' := by
  obtain ⟨v, hw, hg, hv, hf⟩ := h
  refine (wDone_any g v bs w hw hb).mono ?_
  rintro e w' ⟨A', c', rfl, ho, hfr⟩
  exact ⟨A', c', rfl, ho, fun k hk => Nat.le_trans hf.size (hfr.2 k hk), hf.trans hfr.1 (fun _ _ h => h)⟩
/-- As nw_int, nw_bytes: a block of another type stays. -/
theorem nw_intB (w0 w : World) (g : Nat) (bs : List UInt8) (a : Int) (b : Nat) (t : TypeId) (cs : Array Value) (h : NW w0 w g bs) (hk : Bk w b t cs) (h1 : 183 ≠ t) (h2 : 5 ≠ t) (h0 : -9223372036854775808 ≤ a) (h9 : a ≤ 9223372036854775807) (hb : bs.length ≤ 70368744177664) :
    Calls Tryz.prog 43 #[.pointer (some ⟨g, 0, none⟩), .int .i64 a] w fun e w' => e = .returned (.pointer (some ⟨g, 0, none⟩)) ∧ NW w0 w' g (bs ++ enc (foldN a)) ∧ Bk w' b t cs := by
  obtain ⟨v, hw, hg, hv, hf⟩ := h
  refine (wInt_any g v a bs w h0 h9 hw hb).mono ?_
  rintro e w' ⟨rfl, v', hto⟩
  refine ⟨rfl, NW.to hg hv hf hto, hk.fr hto.2.1 (fun e => ?_)⟩
  rcases e with e | e
  · exact Bk.ne hw.1 hk h1 e.symm
  · exact hw.2.ne hk h2 e

def eI (a : Int) : List UInt8 := enc (foldN a)
def eB (xs : List UInt8) : List UInt8 := enc (2 * xs.length) ++ xs
/-- An event's bytes. -/
def eE (e : Ev) : List UInt8 := eI e.k ++ eI e.a ++ eI e.r ++ eI e.i ++ eI e.l ++ eI e.n ++ eB e.d
def encE (l : List Ev) : List UInt8 := eI (l.length : Int) ++ l.flatMap eE
/-- The first j numbers of an event. -/
def eN (e : Ev) : Nat → List UInt8
  | 0 => []
  | 1 => eI e.k
  | 2 => eI e.k ++ eI e.a
  | 3 => eI e.k ++ eI e.a ++ eI e.r
  | 4 => eI e.k ++ eI e.a ++ eI e.r ++ eI e.i
  | 5 => eI e.k ++ eI e.a ++ eI e.r ++ eI e.i ++ eI e.l
  | _ => eI e.k ++ eI e.a ++ eI e.r ++ eI e.i ++ eI e.l ++ eI e.n
theorem eI_lenE {a : Int} (h : N64 a) : (eI a).length ≤ 10 := enc_length10 _ (foldN_lt a h.1 h.2)
theorem eB_lenE {xs : List UInt8} (h : xs.length ≤ 140737488355328) : (eB xs).length ≤ 10 + xs.length := by
  unfold eB
  have := enc_length10 (2 * xs.length) (by omega)
  simp; omega
theorem eN_len {p : VL} (ok : p.ok) : ∀ j, (eN p.e j).length ≤ 60 := by
  have h0 := eI_lenE ok.k; have h1 := eI_lenE ok.a; have h2 := eI_lenE ok.r; have h3 := eI_lenE ok.i; have h4 := eI_lenE ok.l; have h5 := eI_lenE ok.n
  intro j
  unfold eN
  split
  all_goals first | omega | (simp only [List.length_append, List.length_nil]; omega)
theorem eE_len {p : VL} (ok : p.ok) : (eE p.e).length ≤ 70 + p.e.d.length := by
  have h0 := eI_lenE ok.k; have h1 := eI_lenE ok.a; have h2 := eI_lenE ok.r; have h3 := eI_lenE ok.i; have h4 := eI_lenE ok.l; have h5 := eI_lenE ok.n
  have h6 := eB_lenE ok.d
  unfold eE; simp only [List.length_append]; omega
theorem rowE_len : ∀ (ps : List VL), (∀ p ∈ ps, p.ok ∧ p.e.d.length ≤ 16384) → ((ps.map VL.e).flatMap eE).length ≤ ps.length * 16454
  | [], _ => by simp
  | p :: ps, h => by
    have h1 := rowE_len ps (fun q hq => h q (List.mem_cons_of_mem _ hq))
    have h2 := h p (List.mem_cons_self ..)
    have h3 := eE_len h2.1
    simp only [List.map_cons, List.flatMap_cons, List.length_append, List.length_cons]
    omega
theorem take_evE {ps : List VL} {k : Nat} (h : k < ps.length) : ((ps.take (k + 1)).map VL.e).flatMap eE = ((ps.take k).map VL.e).flatMap eE ++ eE (ps.getD k default).e := by
  rw [List.take_add_one, List.getElem?_eq_getElem h, List.map_append, List.flatMap_append]
  congr 1
  simp [List.getD, h]

set_option maxRecDepth 100000 in
set_option maxHeartbeats 8000000 in
theorem encodeE_any (A : Option Addr) (n c : Nat) (ps : List VL) (w : World) (h : Vs w A n ps (fun k => k < w.heap.size)) (hn : n ≤ 4096) (hd : ∀ p ∈ ps, p.e.d.length ≤ 16384) :
    Calls Tryz.prog 10 #[.slice A n c] w fun e w' => ∃ A9 c9, e = .returned (.slice A9 (encE (ps.map VL.e)).length c9) ∧ Own8 w' 5 (.slice A9 (encE (ps.map VL.e)).length c9) (encE (ps.map VL.e)) ∧ Fr (fun _ => False) w w' := by
  have HV := Lib.hid h
  have HL := Lib.hid h.len
  have HD := Lib.hid hd
  have CN := Lib.hid (nw_new w w (Fr.refl _ _))
  have HE : Hid (encE (ps.map VL.e) = eI (n : Int) ++ ((ps.take n).map VL.e).flatMap eE) := Lib.hid (by
    unfold encE
    rw [List.length_map, h.len, List.take_of_length_le (by rw [h.len]; exact Nat.le_refl _)])
  have HTL : Hid (∀ k, k ≤ n → (eI (n : Int) ++ ((ps.take k).map VL.e).flatMap eE).length ≤ 10 + k * 16454) := Lib.hid (fun k hk => by
    have h1 := rowE_len (ps.take k) (fun q hq => ⟨(h.each q (List.mem_of_mem_take hq)).ok, hd q (List.mem_of_mem_take hq)⟩)
    rw [List.length_take, h.len, Nat.min_eq_left hk] at h1
    have h2 := eI_lenE (a := (n : Int)) ⟨by omega, by omega⟩
    rw [List.length_append]; omega)
  have hnI : (n : Int) ≤ 4096 := by omega
  clear h hd
  generalize encE (ps.map VL.e) = R at *
  go_enter Tryz.func10, Tryz.ntmps10
  go_wp2_with fail
  refine CN.out.mono ?_; rintro e w1 ⟨g, rfl, hw1⟩
  have C2 := Lib.hid (nw_int w w1 g [] (n : Int) hw1 (by omega) (by omega) (by simp))
  clear hw1 CN
  go_wp2_with fail
  refine C2.out.mono ?_; rintro e w2 ⟨rfl, hw2⟩
  have H2 : Hid (NW w w2 g (eI (n : Int))) := Lib.hid (by simpa [eI] using hw2)
  clear hw2 C2
  go_wp2_with fail
  go_loopw [14] (fun i wr => ∃ (k : Nat), i = .int .i64 (k : Int) ∧ k ≤ n ∧ Hid (NW w wr g (eI (n : Int) ++ ((ps.take k).map VL.e).flatMap eE))) (fun i _ => n - (intOf i).toNat)
  case atStart => exact ⟨0, rfl, Nat.zero_le _, Lib.hid (by simpa using H2.out)⟩
  case round =>
    obtain ⟨k, rfl, hk, HK⟩ := hrel
    clear H2
    have hk0 : (0 : Int) ≤ (k : Int) := by omega
    by_cases hlt : k < n
    · have hlt' : (k : Int) < (n : Int) := by omega
      have hkI : (k : Int) ≤ 4096 := by omega
      have w1 : IntKind.i64.wrap ((k : Int) + 1) = (k : Int) + 1 := IntWalk.i64_in _ (by omega)
      have HBL := Lib.hid (HTL.out k hk)
      have HST := Lib.hid (take_evE (ps := ps) (k := k) (by rw [HL.out]; exact hlt))
      obtain ⟨b, off, rfl, hbF, hcs, hrd⟩ := (HV.out.fr0 HK.out.fr).at hlt
      have HDL : Hid ((ps.getD k default).e.d.length ≤ 16384) := Lib.hid (HD.out _ (getD_mem (by rw [HL.out]; exact hlt)))
      have HPW : Hid (Rd8 w (ps.getD k default).A (ps.getD k default).e.d) := Lib.hid (HV.out.each _ (getD_mem (by rw [HL.out]; exact hlt))).rd
      generalize ps.getD k default = p at *
      have HRW : Hid (Rd8 w p.A p.e.d) := Lib.hid (HPW.out)
      have hok := hrd.ok
      have hEN := eN_len hok
      obtain ⟨bs, hbs⟩ : ∃ bs, eI (n : Int) ++ ((ps.take k).map VL.e).flatMap eE = bs := ⟨_, rfl⟩
      have HKK : Hid (NW w wr g bs) := Lib.hid (by rw [← hbs]; exact HK.out)
      rw [hbs] at HBL
      have HEN := Lib.hid hEN
      have HOK := Lib.hid hok
      have HBS : Hid (eI (n : Int) ++ ((ps.take (k + 1)).map VL.e).flatMap eE = bs ++ eE p.e) := Lib.hid (by rw [HST.out, ← hbs, List.append_assoc])
      have HEE : Hid (eE p.e = eN p.e 6 ++ (enc (2 * p.e.d.length) ++ p.e.d)) := Lib.hid rfl
      have HN1 : Hid (∀ j a, (j = 0 ∧ a = p.e.k) ∨ (j = 1 ∧ a = p.e.a) ∨ (j = 2 ∧ a = p.e.r) ∨ (j = 3 ∧ a = p.e.i) ∨ (j = 4 ∧ a = p.e.l) ∨ (j = 5 ∧ a = p.e.n) → N64 a ∧ bs ++ eN p.e j ++ enc (foldN a) = bs ++ eN p.e (j + 1)) := Lib.hid (fun j a hj => by
        rcases hj with ⟨rfl, rfl⟩ | ⟨rfl, rfl⟩ | ⟨rfl, rfl⟩ | ⟨rfl, rfl⟩ | ⟨rfl, rfl⟩ | ⟨rfl, rfl⟩
        · exact ⟨hok.k, by simp [eN, eI]⟩
        · exact ⟨hok.a, by simp [eN, eI]⟩
        · exact ⟨hok.r, by simp [eN, eI]⟩
        · exact ⟨hok.i, by simp [eN, eI]⟩
        · exact ⟨hok.l, by simp [eN, eI]⟩
        · exact ⟨hok.n, by simp [eN, eI]⟩)
      have q0 : wr.cell? ⟨b, off + k * 7, none⟩ = some (.int .i64 p.e.k) := hcs 0 _ rfl
      have q1 : wr.cell? ⟨b, off + k * 7 + 1, none⟩ = some (.int .i64 p.e.a) := hcs 1 _ rfl
      have q2 : wr.cell? ⟨b, off + k * 7 + 2, none⟩ = some (.int .i64 p.e.r) := hcs 2 _ rfl
      have q3 : wr.cell? ⟨b, off + k * 7 + 3, none⟩ = some (.int .i64 p.e.i) := hcs 3 _ rfl
      have q4 : wr.cell? ⟨b, off + k * 7 + 4, none⟩ = some (.int .i64 p.e.l) := hcs 4 _ rfl
      have q5 : wr.cell? ⟨b, off + k * 7 + 5, none⟩ = some (.int .i64 p.e.n) := hcs 5 _ rfl
      have q6 : wr.cell? ⟨b, off + k * 7 + 6, none⟩ = some (.slice p.A p.e.d.length p.c) := hcs 6 _ rfl
      have hbsz := World.block_lt_of_cell? wr _ q0
      have HIN := Lib.hid hrd.inF
      clear hcs hrd HK hok hEN hbF hbs HST HPW
      obtain ⟨d, hdd⟩ : ∃ d, p.e.d = d := ⟨_, rfl⟩
      rw [hdd] at HDL HEE HRW HIN q6
      obtain ⟨dl, hdl⟩ : ∃ dl, d.length = dl := ⟨_, rfl⟩
      have HDLE := Lib.hid hdl
      rw [hdl] at HDL HEE HIN q6
      clear hdd hdl
      have EN0 : Hid (eN p.e 0 = []) := Lib.hid rfl
      generalize eN p.e = en at *
      generalize eE p.e = ee at *
      generalize p.e.k = x0 at *
      generalize p.e.a = x1 at *
      generalize p.e.r = x2 at *
      generalize p.e.i = x3 at *
      generalize p.e.l = x4 at *
      generalize p.e.n = x5 at *
      generalize p.A = pA at *
      generalize p.c = pc at *
      obtain ⟨g5, hg5⟩ : ∃ g5, wr.heap.size = g5 := ⟨_, rfl⟩
      obtain ⟨W5, hW5⟩ : ∃ W5, wr.alloc (.cells #[.int .i64 x0, .int .i64 x1, .int .i64 x2, .int .i64 x3, .int .i64 x4, .int .i64 x5, .slice pA dl pc] 68) = W5 := ⟨_, rfl⟩
      have F5 : Hid (Fr (fun _ => False) wr W5) := Lib.hid (by rw [← hW5]; exact (Fr.refl _ _).alloc _)
      have K5 : Hid (Bk W5 g5 68 #[.int .i64 x0, .int .i64 x1, .int .i64 x2, .int .i64 x3, .int .i64 x4, .int .i64 x5, .slice pA dl pc]) := Lib.hid (by rw [← hW5, ← hg5]; exact Bk.new _ _ _)
      have m0 : W5.cell? ⟨g5, 0, none⟩ = some (.int .i64 x0) := K5.out.cell 0
      have m1 : W5.cell? ⟨g5, 1, none⟩ = some (.int .i64 x1) := K5.out.cell 1
      have m2 : W5.cell? ⟨g5, 2, none⟩ = some (.int .i64 x2) := K5.out.cell 2
      have m3 : W5.cell? ⟨g5, 3, none⟩ = some (.int .i64 x3) := K5.out.cell 3
      have m4 : W5.cell? ⟨g5, 4, none⟩ = some (.int .i64 x4) := K5.out.cell 4
      have m5 : W5.cell? ⟨g5, 5, none⟩ = some (.int .i64 x5) := K5.out.cell 5
      have H5 := Lib.hid (HKK.out.on F5.out)
      have HWW : Hid (w.heap.size ≤ wr.heap.size) := Lib.hid HKK.out.fr.size
      go_wp2_with fail
      clear hW5 hg5 q0 q1 q2 q3 q4 q5 q6 m0 m1 m2 m3 m4 m5 HKK
      go_loopw [31] (fun i wr => ∃ (j : Nat), i = .int .i64 (j : Int) ∧ j ≤ 6 ∧ Hid (NW w wr g (bs ++ en j) ∧ Bk wr g5 68 #[.int .i64 x0, .int .i64 x1, .int .i64 x2, .int .i64 x3, .int .i64 x4, .int .i64 x5, .slice pA dl pc])) (fun i _ => 6 - (intOf i).toNat)
      case atStart => exact ⟨0, rfl, by omega, ⟨by rw [EN0.out, List.append_nil]; exact H5.out, K5.out⟩⟩
      case round =>
        obtain ⟨j, rfl, hj, HJ⟩ := hrel
        clear H5 K5
        have hj7 : j = 0 ∨ j = 1 ∨ j = 2 ∨ j = 3 ∨ j = 4 ∨ j = 5 ∨ j = 6 := by omega
        rcases hj7 with rfl | rfl | rfl | rfl | rfl | rfl | rfl
        · have hx : ∀ w, (Instr.index 91 (.agg #[Value.int .i64 x0, .int .i64 x1, .int .i64 x2, .int .i64 x3, .int .i64 x4, .int .i64 x5]) (.int .i64 0)).run Tryz.prog w = .ok (.int .i64 x0) w := fun _ => by kernel_rfl
          have hn1 := HN1.out 0 x0 (by simp)
          have CI := Lib.hid (nw_intB w wr g _ x0 g5 _ _ HJ.out.1 HJ.out.2 (by decide) (by decide) hn1.1.1 hn1.1.2 (by have := HBL.out; have := HEN.out 0; rw [List.length_append]; omega))
          rw [hn1.2] at CI
          clear HJ hn1
          go_wp2_with fail
          refine CI.out.mono ?_; rintro e w6 ⟨rfl, hw6, hb6⟩
          have HJ6 := Lib.hid (And.intro hw6 hb6)
          clear hw6 hb6 CI hx
          go_wp2
          go_roundw
          case rel => exact ⟨1, by first | rfl | (go_num; done), by omega, HJ6.out⟩
          case measure => (simp [intOf]) <;> omega
        · have hx : ∀ w, (Instr.index 91 (.agg #[Value.int .i64 x0, .int .i64 x1, .int .i64 x2, .int .i64 x3, .int .i64 x4, .int .i64 x5]) (.int .i64 1)).run Tryz.prog w = .ok (.int .i64 x1) w := fun _ => by kernel_rfl
          have hn1 := HN1.out 1 x1 (by simp)
          have CI := Lib.hid (nw_intB w wr g _ x1 g5 _ _ HJ.out.1 HJ.out.2 (by decide) (by decide) hn1.1.1 hn1.1.2 (by have := HBL.out; have := HEN.out 1; rw [List.length_append]; omega))
          rw [hn1.2] at CI
          clear HJ hn1
          go_wp2_with fail
          refine CI.out.mono ?_; rintro e w6 ⟨rfl, hw6, hb6⟩
          have HJ6 := Lib.hid (And.intro hw6 hb6)
          clear hw6 hb6 CI hx
          go_wp2
          go_roundw
          case rel => exact ⟨2, by first | rfl | (go_num; done), by omega, HJ6.out⟩
          case measure => (simp [intOf]) <;> omega
        · have hx : ∀ w, (Instr.index 91 (.agg #[Value.int .i64 x0, .int .i64 x1, .int .i64 x2, .int .i64 x3, .int .i64 x4, .int .i64 x5]) (.int .i64 2)).run Tryz.prog w = .ok (.int .i64 x2) w := fun _ => by kernel_rfl
          have hn1 := HN1.out 2 x2 (by simp)
          have CI := Lib.hid (nw_intB w wr g _ x2 g5 _ _ HJ.out.1 HJ.out.2 (by decide) (by decide) hn1.1.1 hn1.1.2 (by have := HBL.out; have := HEN.out 2; rw [List.length_append]; omega))
          rw [hn1.2] at CI
          clear HJ hn1
          go_wp2_with fail
          refine CI.out.mono ?_; rintro e w6 ⟨rfl, hw6, hb6⟩
          have HJ6 := Lib.hid (And.intro hw6 hb6)
          clear hw6 hb6 CI hx
          go_wp2
          go_roundw
          case rel => exact ⟨3, by first | rfl | (go_num; done), by omega, HJ6.out⟩
          case measure => (simp [intOf]) <;> omega
        · have hx : ∀ w, (Instr.index 91 (.agg #[Value.int .i64 x0, .int .i64 x1, .int .i64 x2, .int .i64 x3, .int .i64 x4, .int .i64 x5]) (.int .i64 3)).run Tryz.prog w = .ok (.int .i64 x3) w := fun _ => by kernel_rfl
          have hn1 := HN1.out 3 x3 (by simp)
          have CI := Lib.hid (nw_intB w wr g _ x3 g5 _ _ HJ.out.1 HJ.out.2 (by decide) (by decide) hn1.1.1 hn1.1.2 (by have := HBL.out; have := HEN.out 3; rw [List.length_append]; omega))
          rw [hn1.2] at CI
          clear HJ hn1
          go_wp2_with fail
          refine CI.out.mono ?_; rintro e w6 ⟨rfl, hw6, hb6⟩
          have HJ6 := Lib.hid (And.intro hw6 hb6)
          clear hw6 hb6 CI hx
          go_wp2
          go_roundw
          case rel => exact ⟨4, by first | rfl | (go_num; done), by omega, HJ6.out⟩
          case measure => (simp [intOf]) <;> omega
        · have hx : ∀ w, (Instr.index 91 (.agg #[Value.int .i64 x0, .int .i64 x1, .int .i64 x2, .int .i64 x3, .int .i64 x4, .int .i64 x5]) (.int .i64 4)).run Tryz.prog w = .ok (.int .i64 x4) w := fun _ => by kernel_rfl
          have hn1 := HN1.out 4 x4 (by simp)
          have CI := Lib.hid (nw_intB w wr g _ x4 g5 _ _ HJ.out.1 HJ.out.2 (by decide) (by decide) hn1.1.1 hn1.1.2 (by have := HBL.out; have := HEN.out 4; rw [List.length_append]; omega))
          rw [hn1.2] at CI
          clear HJ hn1
          go_wp2_with fail
          refine CI.out.mono ?_; rintro e w6 ⟨rfl, hw6, hb6⟩
          have HJ6 := Lib.hid (And.intro hw6 hb6)
          clear hw6 hb6 CI hx
          go_wp2
          go_roundw
          case rel => exact ⟨5, by first | rfl | (go_num; done), by omega, HJ6.out⟩
          case measure => (simp [intOf]) <;> omega
        · have hx : ∀ w, (Instr.index 91 (.agg #[Value.int .i64 x0, .int .i64 x1, .int .i64 x2, .int .i64 x3, .int .i64 x4, .int .i64 x5]) (.int .i64 5)).run Tryz.prog w = .ok (.int .i64 x5) w := fun _ => by kernel_rfl
          have hn1 := HN1.out 5 x5 (by simp)
          have CI := Lib.hid (nw_intB w wr g _ x5 g5 _ _ HJ.out.1 HJ.out.2 (by decide) (by decide) hn1.1.1 hn1.1.2 (by have := HBL.out; have := HEN.out 5; rw [List.length_append]; omega))
          rw [hn1.2] at CI
          clear HJ hn1
          go_wp2_with fail
          refine CI.out.mono ?_; rintro e w6 ⟨rfl, hw6, hb6⟩
          have HJ6 := Lib.hid (And.intro hw6 hb6)
          clear hw6 hb6 CI hx
          go_wp2
          go_roundw
          case rel => exact ⟨6, by first | rfl | (go_num; done), by omega, HJ6.out⟩
          case measure => (simp [intOf]) <;> omega
        · have c6 : wr.cell? ⟨g5, 6, none⟩ = some (.slice pA dl pc) := HJ.out.2.cell 6
          have CB := Lib.hid (nw_bytes w wr g _ pA dl pc d HJ.out.1 (by have := HBL.out; have := HEN.out 6; rw [List.length_append]; omega) (HRW.out.fr HJ.out.1.fr (fun _ _ _ h => h)) HDLE.out (by have := HDL.out; omega) HIN.out)
          rw [List.append_assoc, ← HEE.out] at CB
          clear HJ
          go_wp2_with fail
          refine CB.out.mono ?_; rintro e w6 ⟨rfl, hw6⟩
          have HW6 := Lib.hid hw6
          clear hw6 CB c6
          go_wp2
          go_roundw
          case rel => exact ⟨k + 1, by first | rfl | (go_num; done) | (congr 1; omega), by omega, by rw [HBS.out]; exact HW6.out⟩
          case measure => (simp [intOf]) <;> omega
    · obtain rfl : k = n := by omega
      have hlt' : ¬ (k : Int) < (k : Int) := by omega
      have HB := Lib.hid (HTL.out k (Nat.le_refl _))
      have CD := Lib.hid (nw_done w wr g _ HK.out (by have := HB.out; omega))
      rw [← HE.out] at CD
      clear hlt HK HB
      go_wp2_with fail
      refine CD.out.mono ?_; rintro e w6 ⟨A9, c9, rfl, ho, -, hf⟩
      have HO := Lib.hid ho
      have HF := Lib.hid hf
      clear ho hf CD
      go_wp2
      go_ret
      exact ⟨A9, c9, rfl, HO.out, HF.out⟩
end Go.Proofs.YtieoeoonopcjbaaGreatDoor

/- Strings of bytes. -/
namespace Go.Proofs.YtieoeoonopcjbaaGreatDoor
open Go.RowKit

def strOf (xs : List UInt8) : ByteArray := ⟨xs.toArray⟩

theorem run_str8 {P : Program} {t e : TypeId} (hT : T8 P t e) (he : P.underlying e = some (.int .u8)) {s : TypeId} (hs : P.underlying s = some .string) {w : World} {A : Option Addr} {n : Nat} (c : Nat) {xs : List UInt8} (hr : Rd8 w A xs) (hn : xs.length = n) :
    (convert t s (.slice A n c)).run P w = .ok (.string (strOf xs)) w := by
  have e1 : strOfNums (xs.map fun b => (b.toNat : Int)) = strOf xs := by
    simp only [strOfNums, strOf, List.map_map]
    congr 1
    congr 1
    conv => rhs; rw [← List.map_id xs]
    refine List.map_congr_left fun b _ => ?_
    simp
  rcases A with _ | ad
  · have h0 : xs = [] := by
      rcases Nat.eq_zero_or_pos xs.length with h0 | h0
      · exact List.eq_nil_of_length_eq_zero h0
      · obtain ⟨ad, h, _⟩ := hr h0; cases h
    subst h0
    rw [run_convert_bytes_nil w t e hT.sl he n c s hs]
    rfl
  · by_cases h0 : 0 < xs.length
    · obtain ⟨ad', e, hsp, hc⟩ := hr h0
      injection e with e
      subst e
      obtain ⟨b, o, sp⟩ := ad
      cases hsp
      rw [run_convert_bytes_arg w t _ hT.sl he b o n c (xs.map fun b => (b.toNat : Int)) (by simpa using hn) (fun i hi => by
        rw [hc i (by omega)]
        simp [List.getD, show i < xs.length by omega]) s hs, e1]
    · have hx : xs = [] := List.eq_nil_of_length_eq_zero (by omega)
      subst hx
      simp at hn
      subst hn
      rw [run_convert_bytes_string w t s e _ 0 c hT.sl he hs, run_bytesToString w ad 0 c [] (by simp [loadCells, loadCellsFrom])]
      rfl

end Go.Proofs.YtieoeoonopcjbaaGreatDoor

/- What every law asks first. -/
namespace Go.Proofs.YtieoeoonopcjbaaGreatDoor
open Go.RowKit

theorem fold64 : foldN 64 = 128 := by unfold foldN; rw [if_pos (by omega)]; omega
theorem enc128 : enc 128 = [128, 1] := by
  rw [enc_ge 128 (Nat.le_refl _), enc_lt (128 / 128) (by omega)]
  decide +kernel
theorem enc4 : enc (2 * 2) = [4] := by
  rw [enc_lt (2 * 2) (by omega)]
  decide +kernel
theorem known1 : enc (foldN 64) ++ (enc (2 * 2) ++ [97, 98]) = [128, 1, 4, 97, 98] := by
  rw [fold64, enc128, enc4]
  decide +kernel
theorem known2 (wh : ByteArray) : stInt [128, 1, 4, 97, 98] wh (.at_ 0) = (64, .at_ 2) := rfl
theorem known3 (wh : ByteArray) : stBytes [128, 1, 4, 97, 98] wh 9 (.at_ 2) = ([97, 98], .at_ 5) := rfl
theorem known4 : stEnd [128, 1, 4, 97, 98] (.at_ 5) = none := rfl
theorem known5 : rdFrame (frameOf [97, 98, 99]) = .good [97, 98, 99] 15 := by rfl
theorem known6 : crcOf [49, 50, 51, 52, 53, 54, 55, 56, 57] = 3808858755 := by decide +kernel

/-- The blocks that the words of a world say. -/
theorem ErrT.lt {w : World} (h : ErrT w) : 0 < w.heap.size := World.block_lt_of_cell? w _ h
/-- A slice of two or three bytes that the text lays. -/
theorem rd_lit (w : World) (xs : List UInt8) (cs : Array Value) (hcs : cs = (xs.map B8).toArray) : Rd8 (w.alloc (.cells cs 5 (cs.size, cs.size + 1))) (some ⟨w.heap.size, 0, none⟩) xs := fun _ => by
  refine ⟨_, rfl, rfl, fun j hj => ?_⟩
  rw [Nat.zero_add, cell_of_row _ w.heap.size j cs 5 (cs.size, cs.size + 1) (heap_alloc_new w _), hcs]
  simp [hj, B8]

/-- From block B on anything may turn. -/
abbrev Nb (B : Nat) (w w' : World) : Prop := Fr (fun x => B ≤ x) w w'
theorem Nb.add {B : Nat} {a b c : World} (h : Nb B a b) (k : Nb B b c) : Nb B a c := h.trans k (fun _ _ h => h)
theorem Fr.nb {S : Nat → Prop} {w w' : World} (h : Fr S w w') {B : Nat} (hS : ∀ x, S x → B ≤ x) : Nb B w w' := h.mono (fun x _ h => hS x h)
theorem Fr.nb0 {w w' : World} (h : Fr (fun _ => False) w w') (B : Nat) : Nb B w w' := h.mono (fun _ _ h => h.elim)
/-- v's block, if it has one, is from B on. -/
def From (B : Nat) (v : Value) : Prop := ∀ k, v.ownBlock = some k → B ≤ k
theorem From.nil (B : Nat) (n c : Nat) : From B (.slice none n c) := fun k hk => by simp [Value.ownBlock] at hk
theorem From.moved {B : Nat} {w : World} {v v' : Value} (h : From B v) (hm : Moved w v v') (hB : B ≤ w.heap.size) : From B v' := fun k hk => by
  rcases hm with e | ⟨x, e, hx⟩
  · exact h k (e ▸ hk)
  · rw [e] at hk; injection hk with hk; omega
theorem WrTo.nb {w w' : World} {g : Nat} {v v' : Value} {bs : List UInt8} (h : WrTo w g v w' v' bs) {B : Nat} (hg : B ≤ g) (hv : From B v) (hB : B ≤ w.heap.size) : Nb B w w' ∧ From B v' ∧ B ≤ w'.heap.size :=
  ⟨h.2.1.nb (fun x hx => hx.elim (fun e => by rw [e]; exact hg) (hv x)), hv.moved h.2.2 hB, Nat.le_trans hB h.2.1.size⟩
theorem Fresh.from {w w' : World} {v : Value} (h : Fresh w w' v) {B : Nat} (hB : B ≤ w.heap.size) : From B v := fun k hk => Nat.le_trans hB (h.2 k hk)

end Go.Proofs.YtieoeoonopcjbaaGreatDoor

/- The reference writes a number, bytes. -/
namespace Go.Proofs.YtieoeoonopcjbaaGreatDoor
open Go.RowKit

/-- A row of bytes that was appended to: what it is now, what was turned. -/
def OwnTo (w : World) (v : Value) (w' : World) (v' : Value) (bs : List UInt8) : Prop := Own8 w' 5 v' bs ∧ Fr (fun k => v.ownBlock = some k) w w' ∧ Moved w v v'
theorem OwnTo.trans {w w1 w2 : World} {v v1 v2 : Value} {bs bs1 : List UInt8} (h : OwnTo w v w1 v1 bs) (k : OwnTo w1 v1 w2 v2 bs1) (hlt : ∀ x, v.ownBlock = some x → x < w.heap.size) : OwnTo w v w2 v2 bs1 :=
  ⟨k.1, h.2.1.trans k.2.1 (fun x hx e => by
    rcases h.2.2 with h1 | ⟨y, h1, hy⟩
    · rw [← h1]; exact e
    · rw [h1] at e; injection e with e; omega), h.2.2.trans k.2.2 h.2.1.size⟩

theorem add_val (n : Nat) : (n : Int) % 128 + 128 = ((UInt8.ofNat (n % 128 + 128)).toNat : Int) := by
  rw [UInt8.toNat_ofNat', Nat.mod_eq_of_lt (by omega)]; omega

set_option maxRecDepth 100000 in
set_option maxHeartbeats 2000000 in
theorem refWInt_any (v : Value) (a : Int) (bs : List UInt8) (w : World) (h0 : -9223372036854775808 ≤ a) (h1 : a ≤ 9223372036854775807) (hw : Own8 w 5 v bs) (hb : bs.length ≤ 70368744177664) :
    Calls Tryz.prog 46 #[v, .int .i64 a] w fun e w' => ∃ v', e = .returned v' ∧ OwnTo w v w' v' (bs ++ enc (foldN a)) := by
  have hlt := foldN_lt a h0 h1
  have he10 := enc_length10 _ hlt
  have hfold : (a < 0 ∧ ((foldN a : Nat) : Int) = 2 * (0 - (a + 1)) + 1) ∨ (0 ≤ a ∧ ((foldN a : Nat) : Int) = 2 * a) := by
    unfold foldN; split <;> omega
  have HB := Lib.hid (show ∀ x, v.ownBlock = some x → x < w.heap.size from fun x hx => hw.lt hx)
  rcases hfold with ⟨ha, hf⟩ | ⟨ha, hf⟩
  · have HF := Lib.hid hf
    have hf0 : (0 : Int) ≤ 2 * (0 - (a + 1)) + 1 := by omega
    clear hf
    go_enter Tryz.func46, Tryz.ntmps46
    go_wp2_with fail
    rw [show 2 * -(a + 1) + 1 = ((foldN a : Nat) : Int) from HF.out.symm ▸ by omega]
    go_loopw [0, 5] (fun b u wr => ∃ (n : Nat) (v' : Value) (done : List UInt8), (n : Int) ≤ 18446744073709551615 ∧ b = v' ∧ u = .int .u64 n ∧ OwnTo w v wr v' (bs ++ done) ∧ done ++ enc n = enc (foldN a)) (fun _ u _ => (intOf u).toNat)
    case atStart => exact ⟨foldN a, v, [], by omega, rfl, rfl, ⟨by simpa using hw, Fr.refl _ _, Moved.refl _ _⟩, rfl⟩
    case round =>
      obtain ⟨n, v', done, hn, rfl, rfl, hto, hdone⟩ := hrel
      clear hlt
      have hlen : (bs ++ done).length ≤ 70368744177680 := by
        have := congrArg List.length hdone
        simp at this ⊢; omega
      have HD := Lib.hid hdone
      clear hdone he10
      have HTO := Lib.hid hto
      have hw' := hto.1
      clear hto hw
      by_cases hlt : n < 128
      · have hlt' : (n : Int) < 128 := by omega
        have sv := Lib.hid (small_val n (by omega))
        go_wp2_with (at_builtin; (refine wpList_append8 _ rfl (.tmp 28) (.tmp 31) Tryz.t8 rfl _ _ rfl _ (UInt8.ofNat n) sv.out hw' rfl (by omega) ?_; intro g1 c1 w1 ho1 hf1 hm1))
        go_ret
        rw [List.append_assoc, List.length_append] at ho1
        rw [List.length_append] at hm1
        exact ⟨_, rfl, by rw [← HD.out, enc_lt n hlt]; exact HTO.out.trans ⟨ho1, hf1, hm1⟩ HB.out⟩
      · have hge : (128 : Int) ≤ n := by omega
        go_wp2_with (at_builtin; (refine wpList_append8 _ rfl (.tmp 19) (.tmp 24) Tryz.t8 rfl _ _ rfl _ (UInt8.ofNat (n % 128 + 128)) (add_val n) hw' rfl (by omega) ?_; intro g1 c1 w1 ho1 hf1 hm1))
        go_roundw
        case rel =>
          rw [List.append_assoc, List.length_append] at ho1
          rw [List.length_append] at hm1
          refine ⟨n / 128, _, _, by omega, rfl, ?_, HTO.out.trans ⟨ho1, hf1, hm1⟩ HB.out, ?_⟩
          · simp
          · rw [← HD.out, enc_ge n (by omega)]; simp
        case measure => simp [intOf]; omega
  · have HF := Lib.hid hf
    clear hf
    go_enter Tryz.func46, Tryz.ntmps46
    go_wp2_with fail
    rw [show 2 * a = ((foldN a : Nat) : Int) from HF.out.symm ▸ by omega]
    go_loopw [0, 5] (fun b u wr => ∃ (n : Nat) (v' : Value) (done : List UInt8), (n : Int) ≤ 18446744073709551615 ∧ b = v' ∧ u = .int .u64 n ∧ OwnTo w v wr v' (bs ++ done) ∧ done ++ enc n = enc (foldN a)) (fun _ u _ => (intOf u).toNat)
    case atStart => exact ⟨foldN a, v, [], by omega, rfl, rfl, ⟨by simpa using hw, Fr.refl _ _, Moved.refl _ _⟩, rfl⟩
    case round =>
      obtain ⟨n, v', done, hn, rfl, rfl, hto, hdone⟩ := hrel
      clear hlt
      have hlen : (bs ++ done).length ≤ 70368744177680 := by
        have := congrArg List.length hdone
        simp at this ⊢; omega
      have HD := Lib.hid hdone
      clear hdone he10
      have HTO := Lib.hid hto
      have hw' := hto.1
      clear hto hw
      by_cases hlt : n < 128
      · have hlt' : (n : Int) < 128 := by omega
        have sv := Lib.hid (small_val n (by omega))
        go_wp2_with (at_builtin; (refine wpList_append8 _ rfl (.tmp 28) (.tmp 31) Tryz.t8 rfl _ _ rfl _ (UInt8.ofNat n) sv.out hw' rfl (by omega) ?_; intro g1 c1 w1 ho1 hf1 hm1))
        go_ret
        rw [List.append_assoc, List.length_append] at ho1
        rw [List.length_append] at hm1
        exact ⟨_, rfl, by rw [← HD.out, enc_lt n hlt]; exact HTO.out.trans ⟨ho1, hf1, hm1⟩ HB.out⟩
      · have hge : (128 : Int) ≤ n := by omega
        go_wp2_with (at_builtin; (refine wpList_append8 _ rfl (.tmp 19) (.tmp 24) Tryz.t8 rfl _ _ rfl _ (UInt8.ofNat (n % 128 + 128)) (add_val n) hw' rfl (by omega) ?_; intro g1 c1 w1 ho1 hf1 hm1))
        go_roundw
        case rel =>
          rw [List.append_assoc, List.length_append] at ho1
          rw [List.length_append] at hm1
          refine ⟨n / 128, _, _, by omega, rfl, ?_, HTO.out.trans ⟨ho1, hf1, hm1⟩ HB.out, ?_⟩
          · simp
          · rw [← HD.out, enc_ge n (by omega)]; simp
        case measure => simp [intOf]; omega

set_option maxRecDepth 100000 in
set_option maxHeartbeats 2000000 in
theorem refWBytes_any (v : Value) (bs : List UInt8) (A : Option Addr) (n c : Nat) (xs : List UInt8) (w : World) (hw : Own8 w 5 v bs) (hb : bs.length ≤ 17592186044416) (hr : Rd8 w A xs) (hn : xs.length = n) (hn2 : n ≤ 17592186044416) (hA : ∀ ad, A = some ad → 0 < n → v.ownBlock ≠ some ad.block) :
    Calls Tryz.prog 47 #[v, .slice A n c] w fun e w' => ∃ v', e = .returned v' ∧ OwnTo w v w' v' (bs ++ (enc (2 * n) ++ xs)) := by
  have hfold : foldN (n : Int) = 2 * n := by unfold foldN; rw [if_pos (by omega)]; omega
  have he10 := enc_length10 (2 * n) (by omega)
  have HB := Lib.hid (show ∀ x, v.ownBlock = some x → x < w.heap.size from fun x hx => hw.lt hx)
  have HN := Lib.hid hn
  have C1 := Lib.hid (refWInt_any v n bs w (by omega) (by omega) hw (by omega))
  rw [hfold] at C1
  clear hfold hn
  go_enter Tryz.func47, Tryz.ntmps47
  go_wp2_with fail
  refine C1.out.mono ?_; rintro e w1 ⟨v1, rfl, h1⟩
  have hr1 : Rd8 w1 A xs := hr.fr h1.2.1 (fun ad ha h0 h => hA ad ha (HN.out ▸ h0) h)
  have hlen : (bs ++ enc (2 * n)).length + xs.length ≤ 140737488355328 := by rw [List.length_append, HN.out]; omega
  have H1 := Lib.hid h1
  have ho1 := h1.1
  clear h1 C1 hr hA he10
  go_wp2_with (at_builtin; (refine wpList_append8s _ rfl (.tmp 8) (.tmp 9) Tryz.t8 rfl v1 _ rfl ho1 A n c xs rfl HN.out hr1 hlen ?_; intro A2 c2 w2 ho2 hf2 hm2))
  go_ret
  refine ⟨_, rfl, ?_⟩
  have := H1.out.trans ⟨ho2, hf2, hm2⟩ HB.out
  rw [List.append_assoc] at this
  simpa [HN.out] using this
end Go.Proofs.YtieoeoonopcjbaaGreatDoor

/- A region that draws: an operation is taken first, the slot that it writes named. -/
namespace Go.Proofs.YtieoeoonopcjbaaGreatDoor
open Go.RowKit

/-- An operation is taken first; the slot that it writes is named (else the frame grows by a layer a take). -/
theorem wpAnyH_takeD {P : Program} {ops : Array Oper} {Q : Exit → Act → World → Prop} {md : Region.Mode} {S : World → Prop} {i : Nat} {oi : Oper} {v : Value} {fuel : Nat} {listed : Array Bool} {a : Act} {w : World} (d : Option Tmp) (hi : ops[i]? = some oi) (hd : oi.dst = d)
    (hs : Region.noSelect ops = true) (hf : Region.free md ops listed i = true) (hr : (Region.ready md ops listed).contains i = true)
    (hQ : ∀ c a w, Q (.panic c) (a.put oi.dst v) w → Q (.panic c) a w) (hy : YieldsIf P ops S oi v a) (hS : S w)
    (h : wpAnyH P md ops Q S fuel (listed.setIfInBounds i true) (a.put d v) w) : wpAnyH P md ops Q S (fuel + 1) listed a w := by
  subst hd
  exact wpAnyH_take hi hs hf hr hQ hy hS h

end Go.Proofs.YtieoeoonopcjbaaGreatDoor

/- The reference's Encode of events. -/
namespace Go.Proofs.YtieoeoonopcjbaaGreatDoor
open Go.RowKit

/-- A row of bytes that is new since w; nothing that was there has turned. -/
structure OE (w wk : World) (v : Value) (bs : List UInt8) : Prop where
  own : Own8 wk 5 v bs
  new : ∀ k, v.ownBlock = some k → w.heap.size ≤ k
  fr : Fr (fun _ => False) w wk
theorem OE.to {w wk w2 : World} {v v2 : Value} {bs b2 : List UInt8} (h : OE w wk v bs) (k : OwnTo wk v w2 v2 b2) : OE w w2 v2 b2 :=
  ⟨k.1, fun x hx => by
    rcases k.2.2 with e | ⟨y, e, hy⟩
    · exact h.new x (e ▸ hx)
    · rw [e] at hx; injection hx with hx; have := h.fr.size; omega, h.fr.trans k.2.1 (fun x hx e => by have := h.new x e; omega)⟩
theorem OE.on {w wk w2 : World} {v : Value} {bs : List UInt8} (h : OE w wk v bs) (hf : Fr (fun _ => False) wk w2) : OE w w2 v bs :=
  ⟨h.own.fr hf (fun _ _ h => h), h.new, h.fr.trans hf (fun _ _ h => h)⟩
theorem OE.int {w wk : World} {v : Value} {bs : List UInt8} (h : OE w wk v bs) (a : Int) (ha : N64 a) (hb : bs.length ≤ 70368744177664) {b : Nat} {t : TypeId} {cs : Array Value} (hk : Bk wk b t cs) (ht : 5 ≠ t) :
    Calls Tryz.prog 46 #[v, .int .i64 a] wk fun e w' => ∃ v', e = .returned v' ∧ OE w w' v' (bs ++ eI a) ∧ Bk w' b t cs := by
  refine (refWInt_any v a bs wk ha.1 ha.2 h.own hb).mono ?_
  rintro e w' ⟨v', rfl, k⟩
  exact ⟨v', rfl, h.to k, hk.fr k.2.1 (fun e => h.own.ne hk ht e)⟩
theorem OE.int0 {w wk : World} {v : Value} {bs : List UInt8} (h : OE w wk v bs) (a : Int) (ha : N64 a) (hb : bs.length ≤ 70368744177664) :
    Calls Tryz.prog 46 #[v, .int .i64 a] wk fun e w' => ∃ v', e = .returned v' ∧ OE w w' v' (bs ++ eI a) := by
  refine (refWInt_any v a bs wk ha.1 ha.2 h.own hb).mono ?_
  rintro e w' ⟨v', rfl, k⟩
  exact ⟨v', rfl, h.to k⟩
theorem OE.bytes {w wk : World} {v : Value} {bs : List UInt8} (h : OE w wk v bs) (A : Option Addr) (n c : Nat) (xs : List UInt8) (hr : Rd8 w A xs) (hx : xs.length = n) (hA : ∀ ad, A = some ad → 0 < n → ad.block < w.heap.size) (hb : bs.length ≤ 17592186044416) (hn : n ≤ 17592186044416) :
    Calls Tryz.prog 47 #[v, .slice A n c] wk fun e w' => ∃ v', e = .returned v' ∧ OE w w' v' (bs ++ eB xs) := by
  refine (refWBytes_any v bs A n c xs wk h.own hb (hr.fr h.fr (fun _ _ _ h => h)) hx hn (fun ad e h0 e2 => by
    have h1 := hA ad e h0
    have := h.new _ e2; omega)).mono ?_
  rintro e w' ⟨v', rfl, k⟩
  refine ⟨v', rfl, ?_⟩
  unfold eB
  rw [hx]
  exact h.to k
/-- The six numbers of an event. -/
def six (e : Ev) : List Int := [e.k, e.a, e.r, e.i, e.l, e.n]
theorem eE_six (e : Ev) : eE e = (six e).flatMap eI ++ eB e.d := by unfold eE six; simp
theorem eIs_lenE : ∀ (l : List Int), (∀ z ∈ l, N64 z) → (l.flatMap eI).length ≤ 10 * l.length
  | [], _ => by simp
  | a :: l, h => by
    have h1 := eIs_lenE l (fun z hz => h z (List.mem_cons_of_mem _ hz))
    have h2 := eI_lenE (h a (List.mem_cons_self ..))
    simp only [List.flatMap_cons, List.length_append, List.length_cons]; omega
theorem six_ok {p : VL} (ok : p.ok) : ∀ z ∈ six p.e, N64 z := fun z hz => by
  unfold six at hz
  simp at hz
  rcases hz with rfl | rfl | rfl | rfl | rfl | rfl
  · exact ok.k
  · exact ok.a
  · exact ok.r
  · exact ok.i
  · exact ok.l
  · exact ok.n

set_option maxRecDepth 100000 in
set_option maxHeartbeats 8000000 in
theorem refEncodeE_any (A : Option Addr) (n c : Nat) (ps : List VL) (w : World) (h : Vs w A n ps (fun k => k < w.heap.size)) (hn : n ≤ 4096) (hd : ∀ p ∈ ps, p.e.d.length ≤ 16384) :
    Calls Tryz.prog 11 #[.slice A n c] w fun e w' => ∃ A9 c9, e = .returned (.slice A9 (encE (ps.map VL.e)).length c9) ∧ Own8 w' 5 (.slice A9 (encE (ps.map VL.e)).length c9) (encE (ps.map VL.e)) ∧ Fr (fun _ => False) w w' := by
  have HV := Lib.hid h
  have HL := Lib.hid h.len
  have HD := Lib.hid hd
  have S0 := Lib.hid (show OE w w (.slice none 0 0) [] from ⟨Own8.nil _ _, fun k hk => by simp [Value.ownBlock] at hk, Fr.refl _ _⟩)
  have C1 := Lib.hid (S0.out.int0 (n : Int) ⟨by omega, by omega⟩ (by simp))
  have HE : Hid (encE (ps.map VL.e) = eI (n : Int) ++ ((ps.take n).map VL.e).flatMap eE) := Lib.hid (by
    unfold encE
    rw [List.length_map, h.len, List.take_of_length_le (by rw [h.len]; exact Nat.le_refl _)])
  have HTL : Hid (∀ k, k ≤ n → (eI (n : Int) ++ ((ps.take k).map VL.e).flatMap eE).length ≤ 10 + k * 16454) := Lib.hid (fun k hk => by
    have h1 := rowE_len (ps.take k) (fun q hq => ⟨(h.each q (List.mem_of_mem_take hq)).ok, hd q (List.mem_of_mem_take hq)⟩)
    rw [List.length_take, h.len, Nat.min_eq_left hk] at h1
    have h2 := eI_lenE (a := (n : Int)) ⟨by omega, by omega⟩
    rw [List.length_append]; omega)
  have hnI : (n : Int) ≤ 4096 := by omega
  clear h hd S0
  generalize encE (ps.map VL.e) = R at *
  go_enter Tryz.func11, Tryz.ntmps11
  go_wp2_with fail
  refine C1.out.mono ?_; rintro e w1 ⟨v1, rfl, hw1⟩
  have H1 : Hid (OE w w1 v1 (eI (n : Int))) := Lib.hid hw1
  clear hw1 C1
  go_wp2_with fail
  go_loopw [3, 4] (fun v i wr => ∃ (k : Nat), i = .int .i64 (k : Int) ∧ k ≤ n ∧ Hid (OE w wr v (eI (n : Int) ++ ((ps.take k).map VL.e).flatMap eE))) (fun _ i _ => n - (intOf i).toNat)
  case atStart => exact ⟨0, rfl, Nat.zero_le _, Lib.hid (by simpa using H1.out)⟩
  case round =>
    obtain ⟨k, rfl, hk, HK⟩ := hrel
    clear H1
    obtain ⟨v, rfl⟩ : ∃ v, v = u3 := ⟨_, rfl⟩
    have hk0 : (0 : Int) ≤ (k : Int) := by omega
    by_cases hlt : k < n
    · have hlt' : (k : Int) < (n : Int) := by omega
      have hkI : (k : Int) ≤ 4096 := by omega
      have w1 : IntKind.i64.wrap ((k : Int) + 1) = (k : Int) + 1 := IntWalk.i64_in _ (by omega)
      have HBL := Lib.hid (HTL.out k hk)
      have HST := Lib.hid (take_evE (ps := ps) (k := k) (by rw [HL.out]; exact hlt))
      obtain ⟨b, off, rfl, hbF, hcs, hrd⟩ := (HV.out.fr0 HK.out.fr).at hlt
      have HDL : Hid ((ps.getD k default).e.d.length ≤ 16384) := Lib.hid (HD.out _ (getD_mem (by rw [HL.out]; exact hlt)))
      have HPW : Hid (Rd8 w (ps.getD k default).A (ps.getD k default).e.d) := Lib.hid (HV.out.each _ (getD_mem (by rw [HL.out]; exact hlt))).rd
      have HPA : Hid (∀ ad, (ps.getD k default).A = some ad → 0 < (ps.getD k default).e.d.length → ad.block < w.heap.size) := Lib.hid (HV.out.each _ (getD_mem (by rw [HL.out]; exact hlt))).inF
      have HQ60 : Hid (w.cell? ⟨b, off + k * 7 + 6, none⟩ = some (.slice (ps.getD k default).A (ps.getD k default).e.d.length (ps.getD k default).c)) := Lib.hid ((HK.out.fr.cell hbF (fun h => h)).symm.trans (hcs 6 _ rfl))
      generalize ps.getD k default = p at *
      have hok := hrd.ok
      obtain ⟨bs, hbs⟩ : ∃ bs, eI (n : Int) ++ ((ps.take k).map VL.e).flatMap eE = bs := ⟨_, rfl⟩
      have HKK : Hid (OE w wr v bs) := Lib.hid (by rw [← hbs]; exact HK.out)
      rw [hbs] at HBL
      have HBS : Hid (eI (n : Int) ++ ((ps.take (k + 1)).map VL.e).flatMap eE = bs ++ (six p.e).flatMap eI ++ eB p.e.d) := Lib.hid (by rw [HST.out, ← hbs, eE_six]; simp only [List.append_assoc])
      have HSIX := Lib.hid (six_ok hok)
      have HSL : Hid (six p.e = [p.e.k, p.e.a, p.e.r, p.e.i, p.e.l, p.e.n]) := Lib.hid rfl
      have q0 : wr.cell? ⟨b, off + k * 7, none⟩ = some (.int .i64 p.e.k) := hcs 0 _ rfl
      have q1 : wr.cell? ⟨b, off + k * 7 + 1, none⟩ = some (.int .i64 p.e.a) := hcs 1 _ rfl
      have q2 : wr.cell? ⟨b, off + k * 7 + 2, none⟩ = some (.int .i64 p.e.r) := hcs 2 _ rfl
      have q3 : wr.cell? ⟨b, off + k * 7 + 3, none⟩ = some (.int .i64 p.e.i) := hcs 3 _ rfl
      have q4 : wr.cell? ⟨b, off + k * 7 + 4, none⟩ = some (.int .i64 p.e.l) := hcs 4 _ rfl
      have q5 : wr.cell? ⟨b, off + k * 7 + 5, none⟩ = some (.int .i64 p.e.n) := hcs 5 _ rfl
      have q6 : wr.cell? ⟨b, off + k * 7 + 6, none⟩ = some (.slice p.A p.e.d.length p.c) := hcs 6 _ rfl
      have hbsz := World.block_lt_of_cell? wr _ q0
      clear hcs hrd HK hok hbF hbs HST
      obtain ⟨d, hdd⟩ : ∃ d, p.e.d = d := ⟨_, rfl⟩
      rw [hdd] at HDL HBS HPW HPA HQ60 q6
      obtain ⟨dl, hdl⟩ : ∃ dl, d.length = dl := ⟨_, rfl⟩
      have HDLE := Lib.hid hdl
      rw [hdl] at HDL HPA HQ60 q6
      clear hdd hdl
      generalize six p.e = L6 at *
      generalize p.e.k = x0 at *
      generalize p.e.a = x1 at *
      generalize p.e.r = x2 at *
      generalize p.e.i = x3 at *
      generalize p.e.l = x4 at *
      generalize p.e.n = x5 at *
      generalize p.A = pA at *
      generalize p.c = pc at *
      have HQ : Hid (∀ w', Fr (fun _ => False) wr w' → w'.cell? ⟨b, off + k * 7, none⟩ = some (.int .i64 x0) ∧ w'.cell? ⟨b, off + k * 7 + 1, none⟩ = some (.int .i64 x1) ∧ w'.cell? ⟨b, off + k * 7 + 2, none⟩ = some (.int .i64 x2) ∧ w'.cell? ⟨b, off + k * 7 + 3, none⟩ = some (.int .i64 x3) ∧ w'.cell? ⟨b, off + k * 7 + 4, none⟩ = some (.int .i64 x4) ∧ w'.cell? ⟨b, off + k * 7 + 5, none⟩ = some (.int .i64 x5)) := Lib.hid (fun w' hf => ⟨(hf.cell (World.block_lt_of_cell? wr _ q0) (fun h => h)).trans q0, (hf.cell (World.block_lt_of_cell? wr _ q1) (fun h => h)).trans q1, (hf.cell (World.block_lt_of_cell? wr _ q2) (fun h => h)).trans q2, (hf.cell (World.block_lt_of_cell? wr _ q3) (fun h => h)).trans q3, (hf.cell (World.block_lt_of_cell? wr _ q4) (fun h => h)).trans q4, (hf.cell (World.block_lt_of_cell? wr _ q5) (fun h => h)).trans q5⟩)
      have HQ6 : Hid (∀ w', Fr (fun _ => False) w w' → w'.cell? ⟨b, off + k * 7 + 6, none⟩ = some (.slice pA dl pc)) := Lib.hid (fun w' hf => (hf.cell (World.block_lt_of_cell? w _ HQ60.out) (fun h => h)).trans HQ60.out)
      clear q0 q1 q2 q3 q4 q5 q6
      go_wp2_with fail
      refine wp_region_held_drew (S := (fun w' => Fr (fun _ => False) wr w')) (by kernel_rfl) ((Fr.refl _ _).drew) (fun hHeld => ?_)
      refine wpAnyH_takeD (i := 0) (v := ?_) (some 16) rfl rfl (by kernel_rfl) (by kernel_rfl) (by kernel_rfl) (fun _ _ _ h => h) (Or.inl ⟨by rfl, ?_⟩) (by assumption) ?_
      rotate_left
      · intro w' hSw
        go_simp
        first | done | with_reducible rfl
      try simp only [Act.put, List.setIfInBounds_toArray, List.set_cons_zero, List.set_cons_succ]
      refine wpAnyH_takeD (i := 1) (v := ?_) (some 17) rfl rfl (by kernel_rfl) (by kernel_rfl) (by kernel_rfl) (fun _ _ _ h => h) (Or.inl ⟨by rfl, ?_⟩) (by assumption) ?_
      rotate_left
      · intro w' hSw
        go_simp
        first | done | with_reducible rfl
      try simp only [Act.put, List.setIfInBounds_toArray, List.set_cons_zero, List.set_cons_succ]
      refine wpAnyH_takeD (i := 2) (v := ?_) (some 18) rfl rfl (by kernel_rfl) (by kernel_rfl) (by kernel_rfl) (fun _ _ _ h => h) (Or.inl ⟨by rfl, ?_⟩) (by assumption) ?_
      rotate_left
      · intro w' hSw
        go_simp
        first | done | with_reducible rfl
      try simp only [Act.put, List.setIfInBounds_toArray, List.set_cons_zero, List.set_cons_succ]
      refine wpAnyH_takeD (i := 3) (v := ?_) (some 19) rfl rfl (by kernel_rfl) (by kernel_rfl) (by kernel_rfl) (fun _ _ _ h => h) (Or.inl ⟨by rfl, ?_⟩) (by assumption) ?_
      rotate_left
      · intro w' hSw
        go_simp
        first | done | with_reducible rfl
      try simp only [Act.put, List.setIfInBounds_toArray, List.set_cons_zero, List.set_cons_succ]
      refine wpAnyH_takeD (i := 4) (v := ?_) (some 20) rfl rfl (by kernel_rfl) (by kernel_rfl) (by kernel_rfl) (fun _ _ _ h => h) (Or.inl ⟨by rfl, ?_⟩) (by assumption) ?_
      rotate_left
      · intro w' hSw
        have hb9 : b < w'.heap.size := Nat.lt_of_lt_of_le hbsz hSw.size; obtain ⟨q0, q1, q2, q3, q4, q5⟩ := HQ.out w' hSw
        go_simp
        first | done | with_reducible rfl
      try simp only [Act.put, List.setIfInBounds_toArray, List.set_cons_zero, List.set_cons_succ]
      refine wpAnyH_takeD (i := 5) (v := ?_) (some 21) rfl rfl (by kernel_rfl) (by kernel_rfl) (by kernel_rfl) (fun _ _ _ h => h) (Or.inl ⟨by rfl, ?_⟩) (by assumption) ?_
      rotate_left
      · intro w' hSw
        go_simp
        first | done | with_reducible rfl
      try simp only [Act.put, List.setIfInBounds_toArray, List.set_cons_zero, List.set_cons_succ]
      refine wpAnyH_takeD (i := 6) (v := ?_) (some 22) rfl rfl (by kernel_rfl) (by kernel_rfl) (by kernel_rfl) (fun _ _ _ h => h) (Or.inl ⟨by rfl, ?_⟩) (by assumption) ?_
      rotate_left
      · intro w' hSw
        go_simp
        first | done | with_reducible rfl
      try simp only [Act.put, List.setIfInBounds_toArray, List.set_cons_zero, List.set_cons_succ]
      refine wpAnyH_takeD (i := 7) (v := ?_) (some 23) rfl rfl (by kernel_rfl) (by kernel_rfl) (by kernel_rfl) (fun _ _ _ h => h) (Or.inl ⟨by rfl, ?_⟩) (by assumption) ?_
      rotate_left
      · intro w' hSw
        go_simp
        first | done | with_reducible rfl
      try simp only [Act.put, List.setIfInBounds_toArray, List.set_cons_zero, List.set_cons_succ]
      refine wpAnyH_takeD (i := 8) (v := ?_) (some 24) rfl rfl (by kernel_rfl) (by kernel_rfl) (by kernel_rfl) (fun _ _ _ h => h) (Or.inl ⟨by rfl, ?_⟩) (by assumption) ?_
      rotate_left
      · intro w' hSw
        go_simp
        first | done | with_reducible rfl
      try simp only [Act.put, List.setIfInBounds_toArray, List.set_cons_zero, List.set_cons_succ]
      refine wpAnyH_takeD (i := 9) (v := ?_) (some 25) rfl rfl (by kernel_rfl) (by kernel_rfl) (by kernel_rfl) (fun _ _ _ h => h) (Or.inl ⟨by rfl, ?_⟩) (by assumption) ?_
      rotate_left
      · intro w' hSw
        have hb9 : b < w'.heap.size := Nat.lt_of_lt_of_le hbsz hSw.size; obtain ⟨q0, q1, q2, q3, q4, q5⟩ := HQ.out w' hSw
        go_simp
        first | done | with_reducible rfl
      try simp only [Act.put, List.setIfInBounds_toArray, List.set_cons_zero, List.set_cons_succ]
      refine wpAnyH_takeD (i := 10) (v := ?_) (some 26) rfl rfl (by kernel_rfl) (by kernel_rfl) (by kernel_rfl) (fun _ _ _ h => h) (Or.inl ⟨by rfl, ?_⟩) (by assumption) ?_
      rotate_left
      · intro w' hSw
        go_simp
        first | done | with_reducible rfl
      try simp only [Act.put, List.setIfInBounds_toArray, List.set_cons_zero, List.set_cons_succ]
      refine wpAnyH_takeD (i := 11) (v := ?_) (some 27) rfl rfl (by kernel_rfl) (by kernel_rfl) (by kernel_rfl) (fun _ _ _ h => h) (Or.inl ⟨by rfl, ?_⟩) (by assumption) ?_
      rotate_left
      · intro w' hSw
        go_simp
        first | done | with_reducible rfl
      try simp only [Act.put, List.setIfInBounds_toArray, List.set_cons_zero, List.set_cons_succ]
      refine wpAnyH_takeD (i := 12) (v := ?_) (some 28) rfl rfl (by kernel_rfl) (by kernel_rfl) (by kernel_rfl) (fun _ _ _ h => h) (Or.inl ⟨by rfl, ?_⟩) (by assumption) ?_
      rotate_left
      · intro w' hSw
        go_simp
        first | done | with_reducible rfl
      try simp only [Act.put, List.setIfInBounds_toArray, List.set_cons_zero, List.set_cons_succ]
      refine wpAnyH_takeD (i := 13) (v := ?_) (some 29) rfl rfl (by kernel_rfl) (by kernel_rfl) (by kernel_rfl) (fun _ _ _ h => h) (Or.inl ⟨by rfl, ?_⟩) (by assumption) ?_
      rotate_left
      · intro w' hSw
        go_simp
        first | done | with_reducible rfl
      try simp only [Act.put, List.setIfInBounds_toArray, List.set_cons_zero, List.set_cons_succ]
      refine wpAnyH_takeD (i := 14) (v := ?_) (some 30) rfl rfl (by kernel_rfl) (by kernel_rfl) (by kernel_rfl) (fun _ _ _ h => h) (Or.inl ⟨by rfl, ?_⟩) (by assumption) ?_
      rotate_left
      · intro w' hSw
        have hb9 : b < w'.heap.size := Nat.lt_of_lt_of_le hbsz hSw.size; obtain ⟨q0, q1, q2, q3, q4, q5⟩ := HQ.out w' hSw
        go_simp
        first | done | with_reducible rfl
      try simp only [Act.put, List.setIfInBounds_toArray, List.set_cons_zero, List.set_cons_succ]
      refine wpAnyH_takeD (i := 15) (v := ?_) (some 31) rfl rfl (by kernel_rfl) (by kernel_rfl) (by kernel_rfl) (fun _ _ _ h => h) (Or.inl ⟨by rfl, ?_⟩) (by assumption) ?_
      rotate_left
      · intro w' hSw
        go_simp
        first | done | with_reducible rfl
      try simp only [Act.put, List.setIfInBounds_toArray, List.set_cons_zero, List.set_cons_succ]
      refine wpAnyH_takeD (i := 16) (v := ?_) (some 32) rfl rfl (by kernel_rfl) (by kernel_rfl) (by kernel_rfl) (fun _ _ _ h => h) (Or.inl ⟨by rfl, ?_⟩) (by assumption) ?_
      rotate_left
      · intro w' hSw
        go_simp
        first | done | with_reducible rfl
      try simp only [Act.put, List.setIfInBounds_toArray, List.set_cons_zero, List.set_cons_succ]
      refine wpAnyH_takeD (i := 17) (v := ?_) (some 33) rfl rfl (by kernel_rfl) (by kernel_rfl) (by kernel_rfl) (fun _ _ _ h => h) (Or.inl ⟨by rfl, ?_⟩) (by assumption) ?_
      rotate_left
      · intro w' hSw
        go_simp
        first | done | with_reducible rfl
      try simp only [Act.put, List.setIfInBounds_toArray, List.set_cons_zero, List.set_cons_succ]
      refine wpAnyH_takeD (i := 18) (v := ?_) (some 34) rfl rfl (by kernel_rfl) (by kernel_rfl) (by kernel_rfl) (fun _ _ _ h => h) (Or.inl ⟨by rfl, ?_⟩) (by assumption) ?_
      rotate_left
      · intro w' hSw
        go_simp
        first | done | with_reducible rfl
      try simp only [Act.put, List.setIfInBounds_toArray, List.set_cons_zero, List.set_cons_succ]
      refine wpAnyH_takeD (i := 19) (v := ?_) (some 35) rfl rfl (by kernel_rfl) (by kernel_rfl) (by kernel_rfl) (fun _ _ _ h => h) (Or.inl ⟨by rfl, ?_⟩) (by assumption) ?_
      rotate_left
      · intro w' hSw
        have hb9 : b < w'.heap.size := Nat.lt_of_lt_of_le hbsz hSw.size; obtain ⟨q0, q1, q2, q3, q4, q5⟩ := HQ.out w' hSw
        go_simp
        first | done | with_reducible rfl
      try simp only [Act.put, List.setIfInBounds_toArray, List.set_cons_zero, List.set_cons_succ]
      refine wpAnyH_takeD (i := 20) (v := ?_) (some 36) rfl rfl (by kernel_rfl) (by kernel_rfl) (by kernel_rfl) (fun _ _ _ h => h) (Or.inl ⟨by rfl, ?_⟩) (by assumption) ?_
      rotate_left
      · intro w' hSw
        go_simp
        first | done | with_reducible rfl
      try simp only [Act.put, List.setIfInBounds_toArray, List.set_cons_zero, List.set_cons_succ]
      refine wpAnyH_takeD (i := 21) (v := ?_) (some 37) rfl rfl (by kernel_rfl) (by kernel_rfl) (by kernel_rfl) (fun _ _ _ h => h) (Or.inl ⟨by rfl, ?_⟩) (by assumption) ?_
      rotate_left
      · intro w' hSw
        go_simp
        first | done | with_reducible rfl
      try simp only [Act.put, List.setIfInBounds_toArray, List.set_cons_zero, List.set_cons_succ]
      refine wpAnyH_takeD (i := 22) (v := ?_) (some 38) rfl rfl (by kernel_rfl) (by kernel_rfl) (by kernel_rfl) (fun _ _ _ h => h) (Or.inl ⟨by rfl, ?_⟩) (by assumption) ?_
      rotate_left
      · intro w' hSw
        go_simp
        first | done | with_reducible rfl
      try simp only [Act.put, List.setIfInBounds_toArray, List.set_cons_zero, List.set_cons_succ]
      refine wpAnyH_takeD (i := 23) (v := ?_) (some 39) rfl rfl (by kernel_rfl) (by kernel_rfl) (by kernel_rfl) (fun _ _ _ h => h) (Or.inl ⟨by rfl, ?_⟩) (by assumption) ?_
      rotate_left
      · intro w' hSw
        go_simp
        first | done | with_reducible rfl
      try simp only [Act.put, List.setIfInBounds_toArray, List.set_cons_zero, List.set_cons_succ]
      refine wpAnyH_takeD (i := 24) (v := ?_) (some 40) rfl rfl (by kernel_rfl) (by kernel_rfl) (by kernel_rfl) (fun _ _ _ h => h) (Or.inl ⟨by rfl, ?_⟩) (by assumption) ?_
      rotate_left
      · intro w' hSw
        have hb9 : b < w'.heap.size := Nat.lt_of_lt_of_le hbsz hSw.size; obtain ⟨q0, q1, q2, q3, q4, q5⟩ := HQ.out w' hSw
        go_simp
        first | done | with_reducible rfl
      try simp only [Act.put, List.setIfInBounds_toArray, List.set_cons_zero, List.set_cons_succ]
      refine wpAnyH_takeD (i := 25) (v := ?_) (some 41) rfl rfl (by kernel_rfl) (by kernel_rfl) (by kernel_rfl) (fun _ _ _ h => h) (Or.inl ⟨by rfl, ?_⟩) (by assumption) ?_
      rotate_left
      · intro w' hSw
        go_simp
        first | done | with_reducible rfl
      try simp only [Act.put, List.setIfInBounds_toArray, List.set_cons_zero, List.set_cons_succ]
      refine wpAnyH_takeD (i := 26) (v := ?_) (some 42) rfl rfl (by kernel_rfl) (by kernel_rfl) (by kernel_rfl) (fun _ _ _ h => h) (Or.inl ⟨by rfl, ?_⟩) (by assumption) ?_
      rotate_left
      · intro w' hSw
        go_simp
        first | done | with_reducible rfl
      try simp only [Act.put, List.setIfInBounds_toArray, List.set_cons_zero, List.set_cons_succ]
      refine wpAnyH_takeD (i := 27) (v := ?_) (some 43) rfl rfl (by kernel_rfl) (by kernel_rfl) (by kernel_rfl) (fun _ _ _ h => h) (Or.inl ⟨by rfl, ?_⟩) (by assumption) ?_
      rotate_left
      · intro w' hSw
        go_simp
        first | done | with_reducible rfl
      try simp only [Act.put, List.setIfInBounds_toArray, List.set_cons_zero, List.set_cons_succ]
      refine wpAnyH_takeD (i := 28) (v := ?_) (some 44) rfl rfl (by kernel_rfl) (by kernel_rfl) (by kernel_rfl) (fun _ _ _ h => h) (Or.inl ⟨by rfl, ?_⟩) (by assumption) ?_
      rotate_left
      · intro w' hSw
        go_simp
        first | done | with_reducible rfl
      try simp only [Act.put, List.setIfInBounds_toArray, List.set_cons_zero, List.set_cons_succ]
      refine wpAnyH_takeD (i := 29) (v := ?_) (some 45) rfl rfl (by kernel_rfl) (by kernel_rfl) (by kernel_rfl) (fun _ _ _ h => h) (Or.inl ⟨by rfl, ?_⟩) (by assumption) ?_
      rotate_left
      · intro w' hSw
        have hb9 : b < w'.heap.size := Nat.lt_of_lt_of_le hbsz hSw.size; obtain ⟨q0, q1, q2, q3, q4, q5⟩ := HQ.out w' hSw
        go_simp
        first | done | with_reducible rfl
      try simp only [Act.put, List.setIfInBounds_toArray, List.set_cons_zero, List.set_cons_succ]
      refine wpAnyH_ready (rs := [30]) (by kernel_rfl) (by simp) ?_
      refine AllReadyH.cons rfl (fun K hK => ?_) AllReadyH.nil
      go_simp
      have HK5 := Lib.hid ((Bk.new wr 3 #[.int .i64 x0, .int .i64 x1, .int .i64 x2, .int .i64 x3, .int .i64 x4, .int .i64 x5]).drew)
      have HH5 : Hid (OE w (wr.alloc (.cells #[.int .i64 x0, .int .i64 x1, .int .i64 x2, .int .i64 x3, .int .i64 x4, .int .i64 x5] 3)).drew v bs) := Lib.hid (HKK.out.on ((Fr.refl _ _).alloc _).drew)
      refine hK.out _ _ (hHeld.alloc _) (fun hHeld => ?_)
      clear hK K
      try change wpAnyH _ _ _ _ _ _ _ (Act.put _ (some 46) _) _
      try simp only [Act.put, List.setIfInBounds_toArray, List.set_cons_zero, List.set_cons_succ]
      refine wpAnyH_takeD (i := 31) (v := ?_) (some 5) rfl rfl (by kernel_rfl) (by kernel_rfl) (by kernel_rfl) (fun _ _ _ h => h) (Or.inl ⟨by rfl, ?_⟩) (by assumption) ?_
      rotate_left
      · intro w' hSw
        go_simp
        first | done | with_reducible rfl
      try simp only [Act.put, List.setIfInBounds_toArray, List.set_cons_zero, List.set_cons_succ]
      refine wpAnyH_done (by kernel_rfl) ?_ _
      clear hHeld HQ HKK
      obtain ⟨g5, hg5⟩ : ∃ g5, wr.heap.size = g5 := ⟨_, rfl⟩
      obtain ⟨W5, hW5⟩ : ∃ W5, (wr.alloc (.cells #[.int .i64 x0, .int .i64 x1, .int .i64 x2, .int .i64 x3, .int .i64 x4, .int .i64 x5] 3)).drew = W5 := ⟨_, rfl⟩
      rw [hg5, hW5] at HK5
      rw [hW5] at HH5
      have K5 : Hid (Bk W5 g5 3 (L6.map fun z => Value.int .i64 z).toArray) := Lib.hid (by rw [HSL.out]; exact HK5.out)
      have HL6 : Hid (L6.length = 6) := Lib.hid (by rw [HSL.out]; rfl)
      simp only [hg5, hW5]
      clear hg5 hW5 HK5 HSL hbsz
      go_wp2_with fail
      go_loopw [3, 6] (fun v i wr => ∃ (j : Nat), i = .int .i64 (j : Int) ∧ j ≤ 6 ∧ Hid (OE w wr v (bs ++ (L6.take j).flatMap eI) ∧ Bk wr g5 3 (L6.map fun z => Value.int .i64 z).toArray)) (fun _ i _ => 6 - (intOf i).toNat)
      case atStart => exact ⟨0, rfl, by omega, ⟨by simpa using HH5.out, K5.out⟩⟩
      case round =>
        obtain ⟨j, rfl, hj, HJ⟩ := hrel
        clear HH5 K5
        obtain ⟨v, rfl⟩ : ∃ v, v = u3 := ⟨_, rfl⟩
        by_cases hj6 : j < 6
        · have hjl : j < L6.length := by rw [HL6.out]; exact hj6
          have hcz : wr.cell? ⟨g5, j, none⟩ = some (.int .i64 (L6.getD j default)) := by
            rw [HJ.out.2.cell j]; simp [List.getD, hjl]
          have hz := HSIX.out (L6.getD j default) (by rw [show L6.getD j default = L6[j] by simp [List.getD, hjl]]; exact List.getElem_mem _)
          have HTK : Hid ((L6.take (j + 1)).flatMap eI = (L6.take j).flatMap eI ++ eI (L6.getD j default)) := Lib.hid (by rw [take_succ_getD hjl]; simp)
          have h60 := eIs_lenE (L6.take j) (fun z hz => HSIX.out z (List.mem_of_mem_take hz))
          rw [List.length_take, HL6.out] at h60
          have CI := Lib.hid (HJ.out.1.int (L6.getD j default) hz (by have := HBL.out; rw [List.length_append]; omega) HJ.out.2 (by decide))
          have hj0 : (0 : Int) ≤ (j : Int) := by omega
          have hj1 : (j : Int) < 6 := by omega
          have hg5s : g5 < wr.heap.size := HJ.out.2.lt
          generalize L6.getD j default = z at *
          clear HJ hz hjl h60
          go_wp2_with fail
          refine CI.out.mono ?_; rintro e w6 ⟨v6, rfl, hw6, hb6⟩
          have HJ6 : Hid (OE w w6 v6 (bs ++ (L6.take (j + 1)).flatMap eI) ∧ Bk w6 g5 3 (L6.map fun z => Value.int .i64 z).toArray) := Lib.hid ⟨by rw [HTK.out, ← List.append_assoc]; exact hw6, hb6⟩
          clear hw6 hb6 CI hcz
          go_wp2
          go_roundw
          case rel => exact ⟨j + 1, by first | rfl | (go_num; done) | (congr 1; omega), by omega, HJ6.out⟩
          case measure => (simp [intOf]) <;> omega
        · obtain rfl : j = 6 := by omega
          have HJ1 : Hid (OE w wr v (bs ++ L6.flatMap eI)) := Lib.hid (by have := HJ.out.1; rwa [List.take_of_length_le (by rw [HL6.out]; exact Nat.le_refl _)] at this)
          have q6 := HQ6.out wr HJ1.out.fr
          have hb9 := World.block_lt_of_cell? wr _ q6
          have h60 := eIs_lenE L6 HSIX.out
          rw [HL6.out] at h60
          have CB := Lib.hid (HJ1.out.bytes pA dl pc d HPW.out HDLE.out HPA.out (by have := HBL.out; rw [List.length_append]; omega) (by have := HDL.out; omega))
          rw [← HBS.out] at CB
          clear HJ HJ1 h60 hj6
          go_wp2_with fail
          refine CB.out.mono ?_; rintro e w6 ⟨v6, rfl, hw6⟩
          have HW6 := Lib.hid hw6
          clear hw6 CB q6
          go_wp2
          go_roundw
          case rel => exact ⟨k + 1, by first | rfl | (go_num; done) | (congr 1; omega), by omega, HW6.out⟩
          case measure => (simp [intOf]) <;> omega
    · obtain rfl : k = n := by omega
      have hlt' : ¬ (k : Int) < (k : Int) := by omega
      have HK9 : Hid (OE w wr v R) := Lib.hid (by rw [HE.out]; exact HK.out)
      have hlen : ∃ A9 c9, v = .slice A9 R.length c9 := by
        rcases HK9.out.own.form with ⟨h1, h2⟩ | ⟨g9, c9, h1, _⟩
        · exact ⟨none, 0, by rw [h1, h2]; rfl⟩
        · exact ⟨_, c9, h1⟩
      obtain ⟨A9, c9, rfl⟩ := hlen
      clear hlt HK
      go_wp2
      go_ret
      exact ⟨A9, c9, rfl, HK9.out.own, HK9.out.fr⟩
end Go.Proofs.YtieoeoonopcjbaaGreatDoor
