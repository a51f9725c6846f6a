/- The disk's calls: Write, Read, Bytes, Shape, Arm, On, Off, Pending, Writes. -/
import Derived.Test.YtnkkdpmmnenncaaUh
namespace Go.Proofs.Ytnkkdpmmnenncaa
open Go.RowKit Go.Maps

theorem countDownM {g : Nat} {s : DS} {m : ML} {w : World} (h : DskM w g s m) :
    Calls Try.prog 31 #[.pointer (some ⟨g, 0, none⟩)] w fun e w' => e = .returned (.bool (s.left == 1)) ∧ DskM w' g { s with left := s.left - 1 } m ∧ Fr (fun k => k = g) w w' := by
  refine (countDown_any g s.left _ _ _ _ _ _ _ _ _ _ w h.ok.lf h.blk).mono ?_
  rintro e w1 ⟨rfl, hb, hf⟩
  exact ⟨rfl, ⟨⟨h.ok.n0, h.ok.n1, h.ok.s0, h.ok.s1, h.ok.klen, h.ok.sec, h.ok.len, by have := h.ok.lf; simp only; omega⟩, hb, h.keep.fr hf (fun ad e h0 h1 => h.kap ad e h0 (.inl h1)), h.kap, h.kept.fr hf h.kg, h.secs.fr hf (fun k hk e => h.sg (by rw [hk, e])), h.bytes.fr hf (fun k hk e => h.bg (by rw [hk, e])), h.map.fr hf h.mg, h.mn, h.newD, h.kne⟩, hf⟩

theorem write_err {s : DS} {x : Int} {b : List UInt8} (h : s.err x ≠ 0) : s.wErr x b = s.err x ∧ s.write x b = s := ⟨if_pos h, if_pos (.inl h)⟩
theorem write_len {s : DS} {x : Int} {b : List UInt8} (h : s.err x = 0) (hb : b.length ≠ s.sz) : s.wErr x b = 1 ∧ s.write x b = s := by
  unfold DS.wErr DS.write
  rw [if_neg (by omega), if_pos hb, if_pos (.inr hb)]; exact ⟨rfl, rfl⟩
theorem write_cut {s : DS} {x : Int} {b : List UInt8} (h : s.err x = 0) (hb : b.length = s.sz) (hl : s.left = 1) : s.wErr x b = 5 ∧ s.write x b = s.cut s.keep := by
  unfold DS.wErr DS.write
  rw [if_neg (by omega), if_neg (by omega), if_pos hl, if_neg (by omega), if_pos hl]; exact ⟨rfl, rfl⟩
theorem write_add {s : DS} {x : Int} {b : List UInt8} (h : s.err x = 0) (hb : b.length = s.sz) (hl : s.left ≠ 1) : s.wErr x b = 0 ∧ s.write x b = s.add x.toNat b := by
  unfold DS.wErr DS.write
  rw [if_neg (by omega), if_neg (by omega), if_neg hl, if_neg (by omega), if_neg hl]; exact ⟨rfl, rfl⟩

set_option maxRecDepth 100000 in
set_option maxHeartbeats 4000000 in
theorem write_any {g : Nat} {s : DS} {F : Nat → Prop} {w : World} (h : Dsk w g s F) (hq : s.q.length ≤ 1048575) (hw : (s.writes : Int) ≤ 4611686018427387904) (hk : s.keep.length ≤ 140737488355328) (x : Int) (A : Option Addr) (n c : Nat) (bs : List UInt8) (hr : Rd8 w A bs) (hn : bs.length = n)
    (hap : ∀ ad, A = some ad → 0 < bs.length → ¬ F ad.block) :
    Calls Try.prog 12 #[.pointer (some ⟨g, 0, none⟩), .int .i64 x, .slice A n c] w fun e w' => e = .returned (.int .i64 (s.wErr x bs)) ∧ DskTo w g F w' (s.write x bs) := by
  have HD := Lib.hid h
  obtain ⟨m, hm, hF, hA, hl⟩ := h
  have C1 := Lib.hid (check_any hm x)
  have c4 : w.cell? ⟨g, 4, none⟩ = some (.int .i64 (s.sz : Int)) := hm.blk.cell 4
  have H := Lib.hid hm
  have HF := Lib.hid hF
  have HA := Lib.hid hA
  have HL := Lib.hid hl
  have HR := Lib.hid hr
  have HAP := Lib.hid hap
  have HN := Lib.hid hn
  have HW := Lib.hid hw
  clear hm hF hA hl hr hap hn hw
  by_cases he : s.err x = 0
  · by_cases hlen : n = s.sz
    · subst hlen
      obtain ⟨ho, hx0, hx1⟩ := DS.err_in he
      have C2 := Lib.hid (countDownM H.out)
      rw [he] at C1
      by_cases hleft : s.left = 1
      · obtain ⟨e1, e2⟩ := write_cut he HN.out hleft
        rw [e1, e2]
        have hl1 : (s.left == 1) = true := by simpa using hleft
        rw [hl1] at C2
        clear e1 e2 he ho hleft hl1
        go_enter Try.func12, Try.ntmps12
        go_wp2_with fail
        refine C1.out.mono ?_; rintro e w1 ⟨rfl, rfl⟩
        clear C1
        go_wp2_with fail
        refine C2.out.mono ?_; rintro e w2 ⟨rfl, h2, hf2⟩
        have c2 : w2.cell? ⟨g, 2, none⟩ = some (.slice m.A s.keep.length m.c) := h2.blk.cell 2
        have C3 := Lib.hid (cutM h2 (by show s.q.length ≤ _; omega) m.A s.keep.length m.c s.keep h2.keep rfl hk h2.kap)
        have HF2 := Lib.hid hf2
        clear C2 h2 hf2 c4
        go_wp2_with fail
        refine C3.out.mono ?_; rintro e w3 ⟨rfl, m3, h3, hw3, hA3, hf3⟩
        have H3 := Lib.hid h3
        have HF3 := Lib.hid hf3
        have HW3 := Lib.hid hw3
        have HA3 := Lib.hid hA3
        clear C3 h3 hf3 hw3 hA3 c2
        go_wp2
        go_ret
        refine ⟨rfl, DskM.to (s' := s.cut s.keep) H3.out HL.out (fun k hk => ?_) (fun ad e => by rw [HA3.out] at e; cases e) ((HF2.out.mono (fun x _ h => HF.out x (.inl h))).trans HF3.out (fun x _ h => HF.out x h))⟩
        rcases HW3.out k hk with h | h
        · exact .inl (HF.out k h)
        · have h5 := HF2.out.size
          exact .inr (by omega)
      · obtain ⟨e1, e2⟩ := write_add he HN.out hleft
        rw [e1, e2]
        have hl1 : (s.left == 1) = false := by simpa using hleft
        rw [hl1] at C2
        clear e1 e2 he ho hleft hl1
        obtain ⟨x, rfl⟩ : ∃ k : Nat, x = k := ⟨x.toNat, by omega⟩
        rw [Int.toNat_natCast]
        go_enter Try.func12, Try.ntmps12
        go_wp2_with fail
        refine C1.out.mono ?_; rintro e w1 ⟨rfl, rfl⟩
        clear C1
        go_wp2_with fail
        refine C2.out.mono ?_; rintro e w2 ⟨rfl, h2, hf2⟩
        have hr2 := HR.out.fr hf2 (fun ad e h0 h => HAP.out ad e h0 (HF.out _ (.inl h)))
        have C3 := Lib.hid (add_any h2 hq x (by show x < s.N; omega) A c bs hr2 HN.out (fun ad e h0 h => HAP.out ad e h0 (HF.out _ h)))
        have HF2 := Lib.hid hf2
        clear C2 h2 hf2 hr2 c4
        go_wp2_with fail
        refine C3.out.mono ?_; rintro e w3 ⟨rfl, m3, h3, hw3, hf3⟩
        have c10 : w3.cell? ⟨g, 10, none⟩ = some (.int .i64 (s.writes : Int)) := h3.blk.cell 10
        have f10 : w3.frozen? ⟨g, 10, none⟩ = false := h3.blk.frozen 10
        have hw0 := HW.out
        have H3 := Lib.hid h3
        have HF3 := Lib.hid hf3
        have HW3 := Lib.hid hw3
        clear C3 h3 hf3 hw3
        have hwi : ∃ z : Int, z = s.writes := ⟨_, rfl⟩
        go_wp2
        go_ret
        have hfs : Fr (fun k => k = g) w3 (w3.setCell ⟨g, 10, none⟩ (.int .i64 ((s.writes : Int) + 1))) := Bk.fr_set _ _
        have hp := H3.out.pt.put (w1 := w3.setCell ⟨g, 10, none⟩ (.int .i64 ((s.writes : Int) + 1))) (cs' := dcells (s.add x bs) m3) (by
          have := H3.out.blk.set 10 (.int .i64 ((s.writes : Int) + 1))
          simpa [dcells, DS.add] using this) hfs
        have D := PtM.dsk (s := s.add x bs) hp (H.out.ok.add (by omega) HN.out) H3.out.mn H3.out.newD
        refine ⟨rfl, D.to HL.out (fun k hk => ?_) (fun ad e h0 => .inl (HA.out ad (HW3.out.1.symm.trans e) h0)) (((HF2.out.mono (fun x _ h => HF.out x (.inl h))).trans HF3.out (fun x _ h => HF.out x h)).trans hfs (fun x _ h => HF.out x (.inl h)))⟩
        rcases HW3.out.2.2 k hk with h | h
        · exact .inl (HF.out k h)
        · have h5 := HF2.out.size
          exact .inr (by omega)
    · obtain ⟨e1, e2⟩ := write_len (b := bs) he (by rw [HN.out]; exact hlen)
      rw [e1, e2]
      have hd : ((n : Int) == (s.sz : Int)) = false := by simp; omega
      have hd2 : ((n : Int) != (s.sz : Int)) = true := by simp; omega
      rw [he] at C1
      clear e1 e2 he hlen
      go_enter Try.func12, Try.ntmps12
      go_wp2_with fail
      refine C1.out.mono ?_; rintro e w1 ⟨rfl, rfl⟩
      go_wp2
      go_ret
      exact ⟨rfl, HD.out.to0 (Fr.refl _ _)⟩
  · obtain ⟨e1, e2⟩ := write_err (b := bs) he
    rw [e1, e2]
    have hd : (s.err x == 0) = false := by simpa using he
    have hd2 : (s.err x != 0) = true := by simpa using he
    clear e1 e2 he
    generalize s.err x = z at *
    go_enter Try.func12, Try.ntmps12
    go_wp2_with fail
    refine C1.out.mono ?_; rintro e w1 ⟨rfl, rfl⟩
    go_wp2
    go_ret
    exact ⟨rfl, HD.out.to0 (Fr.refl _ _)⟩
end Go.Proofs.Ytnkkdpmmnenncaa
