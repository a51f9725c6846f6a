/- The reference's Cut and Sync. -/
import Derived.Test.YtnkkdpmmnenncaaVb
namespace Go.Proofs.Ytnkkdpmmnenncaa
open Go.RowKit Go.Maps

theorem RefM.cells {w : World} {g : Nat} {s : DS} {m : RL} (h : RefM w g s m) {i : Nat} {v : Value} (hv : (rcells s m)[i]? = some v) : w.cell? ⟨g, i, none⟩ = some v := (h.blk.cell i).trans hv
/-- What keeping one of the pending writes asks. -/
theorem RefM.keepC {w wr : World} {g : Nat} {s : DS} {m : RL} (h : RefM w g s m) {f : Nat → Bool} {k : Nat} (hk : k < m.ps.length) (hf : f k = true) (hb : Bk wr m.bb 5 ((keepN s.sz s.q f s.kept k).map B8).toArray) (hw : Fr (fun x => x = m.bb) w wr) :
    Calls Try.prog 37 #[.pointer (some ⟨g, 0, none⟩), .agg #[.int .i64 ((m.ps.getD k default).x : Int), .slice (some ⟨(m.ps.getD k default).b, 0, none⟩) s.sz (m.ps.getD k default).c]] wr fun e w' =>
      e = .returned (.tuple #[]) ∧ Bk w' m.bb 5 ((keepN s.sz s.q f s.kept (k + 1)).map B8).toArray ∧ Fr (fun x => x = m.bb) w w' := by
  have hm := pi_at hk
  have hq : k < s.q.length := by rw [h.ql]; exact hk
  have hp : pAt s.q k = (m.ps.getD k default).pend := by rw [h.q]; exact pend_at hk
  have hx : (m.ps.getD k default).x < s.N := by have := h.ok.sec _ (pAt_mem hq); rw [hp] at this; exact this
  have hl : (m.ps.getD k default).bs.length = s.sz := by have := h.ok.len _ (pAt_mem hq); rw [hp] at this; exact this
  have hbk : Bk wr g 47 (rcells s m) := h.blk.fr hw (Ne.symm h.bg)
  have he := h.each _ hm
  have hrd : Rd8 wr (some ⟨(m.ps.getD k default).b, 0, none⟩) (m.ps.getD k default).bs := he.1.rd.fr hw (fun ad e _ hx => by injection e with e; subst e; exact he.2 hx)
  have hlt : (m.ps.getD k default).b < wr.heap.size := Nat.lt_of_lt_of_le (he.1.lt rfl) hw.size
  refine (refKeep_any hbk rfl rfl hb (keepN_len h.ok f k (by omega)) (h.ok.fits hx) h.ok.prod hrd hl hlt he.2 h.bg (by have := h.ok.n1; omega) (by have := h.ok.s0; omega)).mono ?_
  rintro e w' ⟨rfl, h1, h2⟩
  refine ⟨rfl, ?_, hw.trans h2 (fun _ _ h => h)⟩
  rw [keepN_yes hf, hp]; exact h1

set_option maxRecDepth 100000 in
set_option maxHeartbeats 2000000 in
theorem refCut_any {w : World} {g : Nat} {s : DS} {m : RL} (h : RefM w g s m) (A : Option Addr) (n c : Nat) (xs : List Bool) (hr : RdB w A xs) (hn : xs.length = n) (hq : s.q.length ≤ 1048576) (hnb : n ≤ 140737488355328) (hap : ∀ ad, A = some ad → 0 < xs.length → ad.block ≠ g ∧ ad.block ≠ m.bb) :
    Calls Try.prog 20 #[.pointer (some ⟨g, 0, none⟩), .slice A n c] w fun e w' => e = .returned (.tuple #[]) ∧ RefM w' g (s.cut xs) ⟨m.bb, .slice none 0 0, [], m.KV⟩ ∧ Fr (fun x => x = g ∨ x = m.bb) w w' := by
  obtain ⟨bb, LV, ps, KV⟩ := m
  obtain ⟨LA, Lc, hLV, hlb⟩ := h.row.form
  have hql := h.ql
  simp only at hql hlb hap hLV
  subst hLV
  have hbg : bb ≠ g := h.bg
  have hLg : ∀ lb, LA = some ⟨lb, 0, none⟩ → lb ≠ g ∧ lb ≠ bb := fun lb e => by
    subst e
    exact ⟨fun e => h.lg (by rw [← e]; rfl), fun e => h.lb (by rw [← e]; rfl)⟩
  have hpl : (ps.length : Int) ≤ 1048576 := by omega
  have K0 := Lib.hid (show Bk w bb 5 ((keepN s.sz s.q (kOf xs) s.kept 0).map B8).toArray from h.kept)
  have C3 := Lib.hid (fun wr (hf : Fr (fun x => x = bb) w wr) => show wr.cell? ⟨g, 3, none⟩ = some (.slice LA ps.length Lc) from ((h.blk.fr hf (Ne.symm hbg)).cell 3))
  have HH := Lib.hid h
  have HR := Lib.hid (fun wr (hf : Fr (fun x => x = bb) w wr) => RdB.fr hr hf (fun ad e h0 => (hap ad e h0).2))
  have HN := Lib.hid hn
  have HQ := Lib.hid hql
  have HLB := Lib.hid hlb
  have HLG := Lib.hid hLg
  clear h hr hn hq hql hlb hLg hap
  go_enter Try.func20, Try.ntmps20
  go_wp2_with fail
  go_loopw [4] (fun i wr => ∃ k : Nat, k ≤ ps.length ∧ i = .int .i64 k ∧ Bk wr bb 5 ((keepN s.sz s.q (kOf xs) s.kept k).map B8).toArray ∧ Fr (fun x => x = bb) w wr) (fun i _ => ps.length - (intOf i).toNat)
  case atStart => exact ⟨0, Nat.zero_le _, rfl, K0.out, Fr.refl _ _⟩
  case round =>
    obtain ⟨k, hk, rfl, hbk, hf⟩ := hrel
    have q3 := C3.out wr hf
    have HBK := Lib.hid hbk
    have HF := Lib.hid hf
    clear hbk hf K0
    by_cases hlt : k < ps.length
    · obtain ⟨lb, rfl⟩ := HLB.out (by omega)
      obtain ⟨hl1, hl2⟩ := HLG.out lb rfl
      have KC := Lib.hid (fun hf => HH.out.keepC (f := kOf xs) hlt hf HBK.out HF.out)
      have hsz : (ps.getD k default).bs.length = s.sz := by
        have hq : k < s.q.length := by rw [HQ.out]; exact hlt
        have := HH.out.ok.len _ (pAt_mem hq)
        have e : pAt s.q k = (ps.getD k default).pend := by rw [HH.out.q]; exact pend_at hlt
        rw [e] at this; exact this
      obtain ⟨p0, p1⟩ := OwnP.cell (HH.out.row.fr HF.out (fun k e => by injection e with e; subst e; exact hl2)) hlt
      simp only at p0 p1 KC
      rw [hsz] at p1
      have STY := Lib.hid (fun (hf : kOf xs k = false) => keepN_no (sz := s.sz) (q := s.q) (kept := s.kept) hf)
      clear hsz hl1 hl2
      have hk0 : (0 : Int) ≤ (k : Int) := by omega
      have hk1 : (k : Int) < (ps.length : Int) := by omega
      generalize ps.getD k default = p at *
      by_cases hkn : k < n
      · obtain ⟨kb, ko, rfl, hcell⟩ := RdB.at_ (HR.out wr HF.out) (k := k) (by rw [HN.out]; exact hkn)
        by_cases hkk : kOf xs k = true
        · rw [hkk] at hcell
          have KC := Lib.hid (KC.out hkk)
          clear hkk
          go_wp2_with fail
          refine KC.out.mono ?_; rintro e w2 ⟨rfl, hb2, hf2⟩
          have HB2 := Lib.hid hb2
          have HF2 := Lib.hid hf2
          clear KC hb2 hf2 q3 p0 p1 hcell
          go_wp2
          go_roundw
          case rel => exact ⟨k + 1, by omega, by go_num, HB2.out, HF2.out⟩
          case measure => simp [intOf]; omega
        · have hkf : kOf xs k = false := by simpa using hkk
          rw [hkf] at hcell
          have ST := Lib.hid (STY.out hkf)
          clear hkf hkk
          go_wp2
          go_roundw
          case rel => exact ⟨k + 1, by omega, by go_num, by rw [ST.out]; exact HBK.out, HF.out⟩
          case measure => simp [intOf]; omega
      · have ST := Lib.hid (STY.out (kOf_past (by rw [HN.out]; omega)))
        go_wp2
        go_roundw
        case rel => exact ⟨k + 1, by omega, by go_num, by rw [ST.out]; exact HBK.out, HF.out⟩
        case measure => simp [intOf]; omega
    · obtain rfl : k = ps.length := by omega
      have HBG := Lib.hid (HH.out.blk.fr HF.out (Ne.symm hbg))
      have f3 := HBG.out.frozen 3
      have f4 := HBG.out.frozen 4
      have f5 := HBG.out.frozen 5
      have c4 : wr.cell? ⟨g, 4, none⟩ = some (.bool s.off) := HBG.out.cell 4
      have c5 : wr.cell? ⟨g, 5, none⟩ = some (.int .i64 (s.left : Int)) := HBG.out.cell 5
      go_wp2
      go_end0
      have hS := ((HBG.out.set 3 (.slice none 0 0)).set 4 (.bool true)).set 5 (.int .i64 0)
      have hF : Fr (fun x => x = g) wr (((wr.setCell ⟨g, 3, none⟩ (.slice none 0 0)).setCell ⟨g, 4, none⟩ (.bool true)).setCell ⟨g, 5, none⟩ (.int .i64 0)) := ((Bk.fr_set 3 _).set 4 _).set 5 _
      refine ⟨rfl, ⟨HH.out.ok.cut xs, hS, ?_, OwnP.nil _, rfl, fun p hp => by simp at hp, fun h => by simp [DS.cut] at h⟩, (HF.out.mono (fun _ _ h => .inr h)).trans hF (fun _ _ h => .inl h)⟩
      have := HBK.out.fr hF hbg
      show Bk _ bb 5 ((keepN s.sz s.q (kOf xs) s.kept s.q.length).map B8).toArray
      rw [HQ.out]; exact this

set_option maxRecDepth 100000 in
set_option maxHeartbeats 2000000 in
theorem refSync_any {w : World} {g : Nat} {s : DS} {m : RL} (h : RefM w g s m) (hq : s.q.length ≤ 1048576) (ho : s.off = false) :
    Calls Try.prog 16 #[.pointer (some ⟨g, 0, none⟩)] w fun e w' => e = .returned (.int .i64 0) ∧ RefM w' g s.sync ⟨m.bb, .slice none 0 0, [], m.KV⟩ ∧ Fr (fun x => x = g ∨ x = m.bb) w w' := by
  obtain ⟨bb, LV, ps, KV⟩ := m
  obtain ⟨LA, Lc, hLV, hlb⟩ := h.row.form
  have hql := h.ql
  simp only at hql hlb hLV
  subst hLV
  have hbg : bb ≠ g := h.bg
  have hLg : ∀ lb, LA = some ⟨lb, 0, none⟩ → lb ≠ g ∧ lb ≠ bb := fun lb e => by
    subst e
    exact ⟨fun e => h.lg (by rw [← e]; rfl), fun e => h.lb (by rw [← e]; rfl)⟩
  have hpl : (ps.length : Int) ≤ 1048576 := by omega
  have c4 : w.cell? ⟨g, 4, none⟩ = some (.bool false) := by rw [← ho]; exact h.blk.cell 4
  have K0 := Lib.hid (show Bk w bb 5 ((keepN s.sz s.q (fun _ => true) s.kept 0).map B8).toArray from h.kept)
  have C3 := Lib.hid (fun wr (hf : Fr (fun x => x = bb) w wr) => show wr.cell? ⟨g, 3, none⟩ = some (.slice LA ps.length Lc) from ((h.blk.fr hf (Ne.symm hbg)).cell 3))
  have HH := Lib.hid h
  have HQ := Lib.hid hql
  have HLB := Lib.hid hlb
  have HLG := Lib.hid hLg
  clear h hq hql hlb hLg ho
  go_enter Try.func16, Try.ntmps16
  go_wp2_with fail
  go_loopw [3] (fun i wr => ∃ k : Nat, k ≤ ps.length ∧ i = .int .i64 k ∧ Bk wr bb 5 ((keepN s.sz s.q (fun _ => true) s.kept k).map B8).toArray ∧ Fr (fun x => x = bb) w wr) (fun i _ => ps.length - (intOf i).toNat)
  case atStart => exact ⟨0, Nat.zero_le _, rfl, K0.out, Fr.refl _ _⟩
  case round =>
    obtain ⟨k, hk, rfl, hbk, hf⟩ := hrel
    have q3 := C3.out wr hf
    have HBK := Lib.hid hbk
    have HF := Lib.hid hf
    clear hbk hf K0
    by_cases hlt : k < ps.length
    · obtain ⟨lb, rfl⟩ := HLB.out (by omega)
      obtain ⟨hl1, hl2⟩ := HLG.out lb rfl
      have KC := Lib.hid (HH.out.keepC (f := fun _ => true) hlt rfl HBK.out HF.out)
      have hsz : (ps.getD k default).bs.length = s.sz := by
        have hq : k < s.q.length := by rw [HQ.out]; exact hlt
        have := HH.out.ok.len _ (pAt_mem hq)
        have e : pAt s.q k = (ps.getD k default).pend := by rw [HH.out.q]; exact pend_at hlt
        rw [e] at this; exact this
      obtain ⟨p0, p1⟩ := OwnP.cell (HH.out.row.fr HF.out (fun k e => by injection e with e; subst e; exact hl2)) hlt
      simp only at p0 p1 KC
      rw [hsz] at p1
      clear hsz hl1 hl2
      have hk0 : (0 : Int) ≤ (k : Int) := by omega
      have hk1 : (k : Int) < (ps.length : Int) := by omega
      generalize ps.getD k default = p at *
      go_wp2_with fail
      refine KC.out.mono ?_; rintro e w2 ⟨rfl, hb2, hf2⟩
      have HB2 := Lib.hid hb2
      have HF2 := Lib.hid hf2
      clear KC hb2 hf2 q3 p0 p1
      go_wp2
      go_roundw
      case rel => exact ⟨k + 1, by omega, by go_num, HB2.out, HF2.out⟩
      case measure => simp [intOf]; omega
    · obtain rfl : k = ps.length := by omega
      have HBG := Lib.hid (HH.out.blk.fr HF.out (Ne.symm hbg))
      have f3 := HBG.out.frozen 3
      go_wp2
      go_ret
      have hS := HBG.out.set 3 (.slice none 0 0)
      have hF : Fr (fun x => x = g) wr (wr.setCell ⟨g, 3, none⟩ (.slice none 0 0)) := Bk.fr_set 3 _
      have hFF : Fr (fun x => x = g ∨ x = bb) w (wr.setCell ⟨g, 3, none⟩ (.slice none 0 0)) := (HF.out.mono (fun _ _ h => .inr h)).trans hF (fun _ _ h => .inl h)
      refine ⟨rfl, ⟨HH.out.ok.sync, hS, ?_, OwnP.nil _, rfl, fun p hp => by simp at hp, fun h0 => (HH.out.keep h0).fr hFF (fun k e hk => ?_)⟩, hFF⟩
      · have := HBK.out.fr hF hbg
        show Bk _ bb 5 ((keepN s.sz s.q (fun _ => true) s.kept s.q.length).map B8).toArray
        rw [HQ.out]; exact this
      · have h0' : 0 < s.left := h0
        rcases hk with rfl | rfl
        · exact HH.out.kg h0' e
        · exact HH.out.kb h0' e
theorem refSync_off {w : World} {g : Nat} {s : DS} {m : RL} (h : RefM w g s m) (ho : s.off = true) :
    Calls Try.prog 16 #[.pointer (some ⟨g, 0, none⟩)] w fun e w' => e = .returned (.int .i64 5) ∧ w = w' := by
  have c4 : w.cell? ⟨g, 4, none⟩ = some (.bool true) := by rw [← ho]; exact h.blk.cell 4
  clear h
  go_enter Try.func16, Try.ntmps16
  go_wp2
  go_ret
  exact ⟨rfl, rfl⟩
end Go.Proofs.Ytnkkdpmmnenncaa
