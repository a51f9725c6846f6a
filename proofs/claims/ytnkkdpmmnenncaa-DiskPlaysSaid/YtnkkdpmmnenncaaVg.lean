/- The reference's disk and the program's: the law function same. -/
import Derived.Test.YtnkkdpmmnenncaaVf
namespace Go.Proofs.Ytnkkdpmmnenncaa
open Go.RowKit Go.Maps

theorem RefTo.same {w : World} {g : Nat} {s : DS} {G : Nat → Prop} (h : RefD w g s G) : RefTo w g G w s := ⟨G, h, Fr.refl _ _, fun _ hk => .inl hk⟩
theorem RefD.write {w : World} {g : Nat} {s : DS} {G : Nat → Prop} (h : RefD w g s G) (hq : s.q.length ≤ 1048575) (hw : (s.writes : Int) ≤ 4611686018427387904) (hk : s.keep.length ≤ 140737488355328) (x : Int) (A : Option Addr) (n c : Nat) (bs : List UInt8) (hr : Rd8 w A bs) (hn : bs.length = n) (hA : ∀ ad, A = some ad → 0 < bs.length → ¬ G ad.block) :
    Calls Try.prog 14 #[.pointer (some ⟨g, 0, none⟩), .int .i64 x, .slice A n c] w fun e w' => e = .returned (.int .i64 (s.wErr x bs)) ∧ RefTo w g G w' (s.write x bs) := by
  have hd := h
  obtain ⟨m, hm, hG, hlt⟩ := h
  by_cases he : s.err x = 0
  · by_cases hb : bs.length = s.sz
    · by_cases hl : s.left = 1
      · obtain ⟨e1, e2⟩ := write_cut he hb hl
        rw [e1, e2]
        refine (refWrite_cut hm (by omega) hk x A n c he (by omega) hl).mono ?_
        rintro e w' ⟨rfl, h1, h2⟩
        refine ⟨rfl, h1.to (fun k hk => ?_) (h2.mono (fun k _ e => ?_))⟩
        · rcases hk with e | e | e | ⟨p, hp, _⟩ | ⟨h0, _⟩
          · exact .inl (hG k (.inl e))
          · exact .inl (hG k (.inr (.inl e)))
          · simp [Value.ownBlock] at e
          · simp at hp
          · simp [DS.cut] at h0
        · rcases e with e | e
          · exact hG k (.inl e)
          · exact hG k (.inr (.inl e))
      · obtain ⟨e1, e2⟩ := write_add he hb hl
        rw [e1, e2]
        obtain ⟨X, rfl⟩ : ∃ X : Nat, x = X := ⟨x.toNat, by have := (DS.err_in he).2.1; omega⟩
        rw [Int.toNat_natCast, ← hn, hb]
        by_cases h0 : s.left = 0
        · exact refWrite_zero hm hG hq hw X A c bs hr hA he hb h0
        · exact refWrite_more hm hG hq hw X A c bs hr hA he hb (by omega)
    · obtain ⟨e1, e2⟩ := write_len he hb
      rw [e1, e2]
      refine (refWrite_len hm x A n c he (by omega)).mono ?_
      rintro e w' ⟨rfl, rfl⟩
      exact ⟨rfl, RefTo.same hd⟩
  · obtain ⟨e1, e2⟩ := write_err (b := bs) he
    rw [e1, e2]
    refine (refWrite_err hm x A n c he).mono ?_
    rintro e w' ⟨rfl, rfl⟩
    exact ⟨rfl, RefTo.same hd⟩
theorem RefD.cut {w : World} {g : Nat} {s : DS} {G : Nat → Prop} (h : RefD w g s G) (A : Option Addr) (n c : Nat) (xs : List Bool) (hr : RdB w A xs) (hn : xs.length = n) (hq : s.q.length ≤ 1048576) (hnb : n ≤ 140737488355328) (hA : ∀ ad, A = some ad → 0 < xs.length → ¬ G ad.block) :
    Calls Try.prog 20 #[.pointer (some ⟨g, 0, none⟩), .slice A n c] w fun e w' => e = .returned (.tuple #[]) ∧ RefTo w g G w' (s.cut xs) := by
  obtain ⟨m, hm, hG, hlt⟩ := h
  refine (refCut_any hm A n c xs hr hn hq hnb (fun ad e h0 => ⟨fun e2 => hA ad e h0 (hG _ (.inl e2)), fun e2 => hA ad e h0 (hG _ (.inr (.inl e2)))⟩)).mono ?_
  rintro e w' ⟨rfl, h1, h2⟩
  refine ⟨rfl, h1.to (fun k hk => ?_) (h2.mono (fun k _ e => ?_))⟩
  · rcases hk with e | e | e | ⟨p, hp, _⟩ | ⟨h0, _⟩
    · exact .inl (hG k (.inl e))
    · exact .inl (hG k (.inr (.inl e)))
    · simp [Value.ownBlock] at e
    · simp at hp
    · simp [DS.cut] at h0
  · rcases e with e | e
    · exact hG k (.inl e)
    · exact hG k (.inr (.inl e))
theorem RefD.sync {w : World} {g : Nat} {s : DS} {G : Nat → Prop} (h : RefD w g s G) (hq : s.q.length ≤ 1048576) :
    Calls Try.prog 16 #[.pointer (some ⟨g, 0, none⟩)] w fun e w' => e = .returned (.int .i64 (syncE s)) ∧ RefTo w g G w' (syncS s) := by
  have hd := h
  obtain ⟨m, hm, hG, hlt⟩ := h
  by_cases ho : s.off = true
  · rw [show syncE s = 5 from if_pos ho, show syncS s = s from if_pos ho]
    refine (refSync_off hm ho).mono ?_
    rintro e w' ⟨rfl, rfl⟩
    exact ⟨rfl, RefTo.same hd⟩
  · rw [show syncE s = 0 from if_neg ho, show syncS s = s.sync from if_neg ho]
    refine (refSync_any hm hq (by simpa using ho)).mono ?_
    rintro e w' ⟨rfl, h1, h2⟩
    refine ⟨rfl, h1.to (fun k hk => ?_) (h2.mono (fun k _ e => ?_))⟩
    · rcases hk with e | e | e | ⟨p, hp, _⟩ | ⟨h0, e⟩
      · exact .inl (hG k (.inl e))
      · exact .inl (hG k (.inr (.inl e)))
      · simp [Value.ownBlock] at e
      · simp at hp
      · exact .inl (hG k (.inr (.inr (.inr (.inr ⟨h0, e⟩)))))
    · rcases e with e | e
      · exact hG k (.inl e)
      · exact hG k (.inr (.inl e))
/-- What the law itself stores: the power is on. -/
theorem RefD.on {w : World} {g : Nat} {s : DS} {G : Nat → Prop} (h : RefD w g s G) : RefD (w.setCell ⟨g, 4, none⟩ (.bool false)) g s.on G := by
  obtain ⟨m, hm, hG, hlt⟩ := h
  have hf : Fr (fun x => x = g) w (w.setCell ⟨g, 4, none⟩ (.bool false)) := Bk.fr_set 4 _
  refine ⟨m, ⟨hm.ok.on, hm.blk.set 4 _, hm.kept.fr hf hm.bg, hm.row.fr hf (fun k e e2 => hm.lg (by rw [e, e2])), hm.q, fun p hp => ⟨(hm.each p hp).1.fr hf (fun k e e2 => by
    injection e with e
    exact hm.pg hp (e.trans e2)), (hm.each p hp).2⟩, fun h0 => (hm.keep h0).fr hf (fun k e e2 => hm.kg h0 (by rw [e, e2]))⟩, hG, fun k hk => Nat.lt_of_lt_of_le (hlt k hk) hf.size⟩

/-- The cells of it that the law looks at. -/
theorem RefM.four {w : World} {g : Nat} {s : DS} {m : RL} (h : RefM w g s m) : w.cell? ⟨g, 4, none⟩ = some (.bool s.off) ∧ w.cell? ⟨g, 3, none⟩ = some m.LV ∧ w.cell? ⟨g, 7, none⟩ = some (.int .i64 (s.writes : Int)) ∧ w.cell? ⟨g, 2, none⟩ = some (.slice (some ⟨m.bb, 0, none⟩) (s.N * s.sz) (s.N * s.sz)) :=
  ⟨h.cells rfl, h.cells rfl, h.cells rfl, h.cells rfl⟩

set_option maxRecDepth 100000 in
set_option maxHeartbeats 4000000 in
theorem same_err {w wi : World} {g gr : Nat} {s : DS} {F G : Nat → Prop} (h : RunF w wi g s F) (hr : RefD wi gr s G) (hq : s.q.length ≤ 1048576) (x : Int) (he : s.err x ≠ 0) :
    Calls Try.prog 22 #[.pointer (some ⟨g, 0, none⟩), .pointer (some ⟨gr, 0, none⟩), .int .i64 x] wi fun e w' => e = .returned (.bool true) ∧ Fr (fun _ => False) wi w' := by
  obtain ⟨m, hm, hG, hlt⟩ := hr
  have C1 := Lib.hid (read_err h.dsk x he)
  have C2 := Lib.hid (refRead_err hm x he)
  have H := Lib.hid h
  have HM := Lib.hid hm
  generalize s.err x = er at *
  have b0 : (er == er) = true := by simp
  clear h hm hG hlt he hq
  go_enter Try.func22, Try.ntmps22
  go_wp2_with fail
  refine C1.out.mono ?_; rintro e _ ⟨rfl, rfl⟩
  clear C1
  go_wp2_with fail
  refine C2.out.mono ?_; rintro e _ ⟨rfl, rfl⟩
  clear C2
  have HF := Lib.hid (Fr.refl (fun _ => False) wi)
  obtain ⟨v, hv⟩ : ∃ v, wi = v := ⟨_, rfl⟩
  have FA := Lib.hid (fun w' (_ : Fr (fun _ => False) v w') => run_str8 Try.t8d Try.underlying5 Try.underlying9 (n := 0) 0 (Rd8.nil w' none) rfl)
  have FB := FA
  have HV := Lib.hid (show Fr (fun _ => False) wi v by rw [← hv]; exact Fr.refl _ _)
  rw [hv]
  have b1 : ((strOf []).toList == (strOf []).toList) = true := by simp
  have CO := Lib.hid (fun w' (hf : Fr (fun _ => False) v w') => off_any (H.out.dsk.fr0 (HV.out.trans hf (fun _ _ h => h))))
  have CP := Lib.hid (fun w' (hf : Fr (fun _ => False) v w') => pending_any (H.out.dsk.fr0 (HV.out.trans hf (fun _ _ h => h))))
  have CW := Lib.hid (fun w' (hf : Fr (fun _ => False) v w') => writes_any (H.out.dsk.fr0 (HV.out.trans hf (fun _ _ h => h))))
  have CB := Lib.hid (fun w' (hf : Fr (fun _ => False) v w') => (H.out.on0 (HV.out.trans hf (fun _ _ h => h))).bytes)
  obtain ⟨LA, Lc, hLV, _⟩ := HM.out.row.form
  have CR0 := Lib.hid (fun w' (hf : Fr (fun _ => False) v w') => (HM.out.fr (HV.out.trans hf (fun _ _ h => h)) (fun _ _ h => h)).four)
  rw [hLV] at CR0
  have CR := CR0
  rw [HM.out.ql] at CP
  have HKL := Lib.hid (show s.kept.length = s.N * s.sz from HM.out.ok.klen)
  have FK := Lib.hid (fun w' (hf : Fr (fun _ => False) v w') => run_str8 Try.t8d Try.underlying5 Try.underlying9 (s.N * s.sz) (Loc.rd (HM.out.kept.fr (HV.out.trans hf (fun _ _ h => h)) (fun h => h))) HKL.out)
  have b2 : ((strOf s.kept).toList == (strOf s.kept).toList) = true := by simp
  have b3 : (s.off == s.off) = true := by simp
  have b4 : ((m.ps.length : Int) == (m.ps.length : Int)) = true := by simp
  have b5 : ((s.writes : Int) == (s.writes : Int)) = true := by simp
  clear hLV CR0
  generalize s.N * s.sz = M at *
  generalize s.kept = KB at *
  generalize s.off = off at *
  generalize m.ps.length = pl at *
  generalize s.writes = wr at *
  clear hv
  go_wp2_with fail
  refine wp_region_held_drew (S := fun w' => Fr (fun _ => False) v w') (by kernel_rfl) ((Fr.refl _ _).drew) (fun hHeld => ?_)
  refine wpAnyH_takeD (i := 0) (v := ?_) (some 23) rfl rfl (by kernel_rfl) (by kernel_rfl) (by kernel_rfl) (fun _ _ _ h => h) (Or.inl ⟨by rfl, ?_⟩) (by assumption) ?_
  rotate_left
  · intro w' hSw
    go_simp
    first | done | with_reducible rfl
  try simp only [Go.Act.put, List.setIfInBounds_toArray, List.set_cons_zero, List.set_cons_succ]
  refine wpAnyH_takeD (i := 1) (v := ?_) (some 24) rfl rfl (by kernel_rfl) (by kernel_rfl) (by kernel_rfl) (fun _ _ _ h => h) (Or.inl ⟨by rfl, ?_⟩) (by assumption) ?_
  rotate_left
  · intro w' hSw
    have s1 := FA.out w' hSw
    go_simp
    first | done | with_reducible rfl
  try simp only [Go.Act.put, List.setIfInBounds_toArray, List.set_cons_zero, List.set_cons_succ]
  refine wpAnyH_takeD (i := 2) (v := ?_) (some 25) rfl rfl (by kernel_rfl) (by kernel_rfl) (by kernel_rfl) (fun _ _ _ h => h) (Or.inl ⟨by rfl, ?_⟩) (by assumption) ?_
  rotate_left
  · intro w' hSw
    go_simp
    first | done | with_reducible rfl
  try simp only [Go.Act.put, List.setIfInBounds_toArray, List.set_cons_zero, List.set_cons_succ]
  refine wpAnyH_takeD (i := 3) (v := ?_) (some 26) rfl rfl (by kernel_rfl) (by kernel_rfl) (by kernel_rfl) (fun _ _ _ h => h) (Or.inl ⟨by rfl, ?_⟩) (by assumption) ?_
  rotate_left
  · intro w' hSw
    have s1 := FB.out w' hSw
    go_simp
    first | done | with_reducible rfl
  try simp only [Go.Act.put, List.setIfInBounds_toArray, List.set_cons_zero, List.set_cons_succ]
  refine wpAnyH_takeD (i := 4) (v := ?_) (some 27) rfl rfl (by kernel_rfl) (by kernel_rfl) (by kernel_rfl) (fun _ _ _ h => h) (Or.inl ⟨by rfl, ?_⟩) (by assumption) ?_
  rotate_left
  · intro w' hSw
    go_simp
    first | done | with_reducible rfl
  try simp only [Go.Act.put, List.setIfInBounds_toArray, List.set_cons_zero, List.set_cons_succ]
  refine wpAnyH_takeD (i := 5) (v := ?_) (some 28) rfl rfl (by kernel_rfl) (by kernel_rfl) (by kernel_rfl) (fun _ _ _ h => h) (Or.inl ⟨by rfl, ?_⟩) (by assumption) ?_
  rotate_left
  · intro w' hSw
    go_simp
    first | done | with_reducible rfl
  try simp only [Go.Act.put, List.setIfInBounds_toArray, List.set_cons_zero, List.set_cons_succ]
  refine wpAnyH_takeD (i := 6) (v := ?_) (some 29) rfl rfl (by kernel_rfl) (by kernel_rfl) (by kernel_rfl) (fun _ _ _ h => h) (Or.inl ⟨by rfl, ?_⟩) (by assumption) ?_
  rotate_left
  · intro w' hSw
    go_simp
    first | done | with_reducible rfl
  try simp only [Go.Act.put, List.setIfInBounds_toArray, List.set_cons_zero, List.set_cons_succ]
  refine wpAnyH_takeD (i := 7) (v := ?_) (some 30) rfl rfl (by kernel_rfl) (by kernel_rfl) (by kernel_rfl) (fun _ _ _ h => h) (Or.inl ⟨by rfl, ?_⟩) (by assumption) ?_
  rotate_left
  · intro w' hSw
    go_simp
    first | done | with_reducible rfl
  try simp only [Go.Act.put, List.setIfInBounds_toArray, List.set_cons_zero, List.set_cons_succ]
  refine wpAnyH_takeD (i := 8) (v := ?_) (some 31) rfl rfl (by kernel_rfl) (by kernel_rfl) (by kernel_rfl) (fun _ _ _ h => h) (Or.inl ⟨by rfl, ?_⟩) (by assumption) ?_
  rotate_left
  · intro w' hSw
    go_simp
    first | done | with_reducible rfl
  try simp only [Go.Act.put, List.setIfInBounds_toArray, List.set_cons_zero, List.set_cons_succ]
  refine wpAnyH_takeD (i := 9) (v := ?_) (some 32) rfl rfl (by kernel_rfl) (by kernel_rfl) (by kernel_rfl) (fun _ _ _ h => h) (Or.inl ⟨by rfl, ?_⟩) (by assumption) ?_
  rotate_left
  · intro w' hSw
    go_simp
    first | done | with_reducible rfl
  try simp only [Go.Act.put, List.setIfInBounds_toArray, List.set_cons_zero, List.set_cons_succ]
  refine wpAnyH_takeD (i := 10) (v := ?_) (some 33) rfl rfl (by kernel_rfl) (by kernel_rfl) (by kernel_rfl) (fun _ _ _ h => h) (Or.inl ⟨by rfl, ?_⟩) (by assumption) ?_
  rotate_left
  · intro w' hSw
    go_simp
    first | done | with_reducible rfl
  try simp only [Go.Act.put, List.setIfInBounds_toArray, List.set_cons_zero, List.set_cons_succ]
  refine wpAnyH_takeD (i := 11) (v := ?_) (some 34) rfl rfl (by kernel_rfl) (by kernel_rfl) (by kernel_rfl) (fun _ _ _ h => h) (Or.inl ⟨by rfl, ?_⟩) (by assumption) ?_
  rotate_left
  · intro w' hSw
    go_simp
    first | done | with_reducible rfl
  try simp only [Go.Act.put, List.setIfInBounds_toArray, List.set_cons_zero, List.set_cons_succ]
  refine wpAnyH_takeD (i := 13) (v := ?_) (some 36) rfl rfl (by kernel_rfl) (by kernel_rfl) (by kernel_rfl) (fun _ _ _ h => h) (Or.inl ⟨by rfl, ?_⟩) (by assumption) ?_
  rotate_left
  · intro w' hSw
    go_simp
    first | done | with_reducible rfl
  try simp only [Go.Act.put, List.setIfInBounds_toArray, List.set_cons_zero, List.set_cons_succ]
  refine wpAnyH_takeD (i := 14) (v := ?_) (some 37) rfl rfl (by kernel_rfl) (by kernel_rfl) (by kernel_rfl) (fun _ _ _ h => h) (Or.inl ⟨by rfl, ?_⟩) (by assumption) ?_
  rotate_left
  · intro w' hSw
    go_simp
    first | done | with_reducible rfl
  try simp only [Go.Act.put, List.setIfInBounds_toArray, List.set_cons_zero, List.set_cons_succ]
  refine wpAnyH_takeD (i := 15) (v := ?_) (some 38) rfl rfl (by kernel_rfl) (by kernel_rfl) (by kernel_rfl) (fun _ _ _ h => h) (Or.inl ⟨by rfl, ?_⟩) (by assumption) ?_
  rotate_left
  · intro w' hSw
    go_simp
    first | done | with_reducible rfl
  try simp only [Go.Act.put, List.setIfInBounds_toArray, List.set_cons_zero, List.set_cons_succ]
  refine wpAnyH_takeD (i := 16) (v := ?_) (some 39) rfl rfl (by kernel_rfl) (by kernel_rfl) (by kernel_rfl) (fun _ _ _ h => h) (Or.inl ⟨by rfl, ?_⟩) (by assumption) ?_
  rotate_left
  · intro w' hSw
    obtain ⟨r4, r3, r7, r2⟩ := CR.out w' hSw
    go_simp
    first | done | with_reducible rfl
  try simp only [Go.Act.put, List.setIfInBounds_toArray, List.set_cons_zero, List.set_cons_succ]
  refine wpAnyH_ready (rs := [12]) (by kernel_rfl) (by simp) ?_
  refine AllReadyH.cons rfl (fun K hK => ?_) AllReadyH.nil
  go_simp
  refine (CO.out _ hHeld).mono ?_; rintro e _ ⟨rfl, rfl⟩
  try go_simp
  refine hK.out _ _ (hHeld) (fun hHeld => ?_)
  clear hK K
  try change wpAnyH _ _ _ _ _ _ _ (Go.Act.put _ (some 35) _) _
  try simp only [Go.Act.put, List.setIfInBounds_toArray, List.set_cons_zero, List.set_cons_succ]
  refine wpAnyH_takeD (i := 17) (v := ?_) (some 40) rfl rfl (by kernel_rfl) (by kernel_rfl) (by kernel_rfl) (fun _ _ _ h => h) (Or.inl ⟨by rfl, ?_⟩) (by assumption) ?_
  rotate_left
  · intro w' hSw
    go_simp
    first | done | with_reducible rfl
  try simp only [Go.Act.put, List.setIfInBounds_toArray, List.set_cons_zero, List.set_cons_succ]
  refine wpAnyH_takeD (i := 18) (v := ?_) (some 41) rfl rfl (by kernel_rfl) (by kernel_rfl) (by kernel_rfl) (fun _ _ _ h => h) (Or.inl ⟨by rfl, ?_⟩) (by assumption) ?_
  rotate_left
  · intro w' hSw
    go_simp
    first | done | with_reducible rfl
  try simp only [Go.Act.put, List.setIfInBounds_toArray, List.set_cons_zero, List.set_cons_succ]
  refine wpAnyH_takeD (i := 19) (v := ?_) (some 42) rfl rfl (by kernel_rfl) (by kernel_rfl) (by kernel_rfl) (fun _ _ _ h => h) (Or.inl ⟨by rfl, ?_⟩) (by assumption) ?_
  rotate_left
  · intro w' hSw
    go_simp
    first | done | with_reducible rfl
  try simp only [Go.Act.put, List.setIfInBounds_toArray, List.set_cons_zero, List.set_cons_succ]
  refine wpAnyH_takeD (i := 20) (v := ?_) (some 43) rfl rfl (by kernel_rfl) (by kernel_rfl) (by kernel_rfl) (fun _ _ _ h => h) (Or.inl ⟨by rfl, ?_⟩) (by assumption) ?_
  rotate_left
  · intro w' hSw
    go_simp
    first | done | with_reducible rfl
  try simp only [Go.Act.put, List.setIfInBounds_toArray, List.set_cons_zero, List.set_cons_succ]
  refine wpAnyH_takeD (i := 22) (v := ?_) (some 45) rfl rfl (by kernel_rfl) (by kernel_rfl) (by kernel_rfl) (fun _ _ _ h => h) (Or.inl ⟨by rfl, ?_⟩) (by assumption) ?_
  rotate_left
  · intro w' hSw
    go_simp
    first | done | with_reducible rfl
  try simp only [Go.Act.put, List.setIfInBounds_toArray, List.set_cons_zero, List.set_cons_succ]
  refine wpAnyH_takeD (i := 23) (v := ?_) (some 46) rfl rfl (by kernel_rfl) (by kernel_rfl) (by kernel_rfl) (fun _ _ _ h => h) (Or.inl ⟨by rfl, ?_⟩) (by assumption) ?_
  rotate_left
  · intro w' hSw
    go_simp
    first | done | with_reducible rfl
  try simp only [Go.Act.put, List.setIfInBounds_toArray, List.set_cons_zero, List.set_cons_succ]
  refine wpAnyH_takeD (i := 24) (v := ?_) (some 47) rfl rfl (by kernel_rfl) (by kernel_rfl) (by kernel_rfl) (fun _ _ _ h => h) (Or.inl ⟨by rfl, ?_⟩) (by assumption) ?_
  rotate_left
  · intro w' hSw
    go_simp
    first | done | with_reducible rfl
  try simp only [Go.Act.put, List.setIfInBounds_toArray, List.set_cons_zero, List.set_cons_succ]
  refine wpAnyH_takeD (i := 25) (v := ?_) (some 48) rfl rfl (by kernel_rfl) (by kernel_rfl) (by kernel_rfl) (fun _ _ _ h => h) (Or.inl ⟨by rfl, ?_⟩) (by assumption) ?_
  rotate_left
  · intro w' hSw
    obtain ⟨r4, r3, r7, r2⟩ := CR.out w' hSw
    go_simp
    first | done | with_reducible rfl
  try simp only [Go.Act.put, List.setIfInBounds_toArray, List.set_cons_zero, List.set_cons_succ]
  refine wpAnyH_takeD (i := 26) (v := ?_) (some 49) rfl rfl (by kernel_rfl) (by kernel_rfl) (by kernel_rfl) (fun _ _ _ h => h) (Or.inl ⟨by rfl, ?_⟩) (by assumption) ?_
  rotate_left
  · intro w' hSw
    go_simp
    first | done | with_reducible rfl
  try simp only [Go.Act.put, List.setIfInBounds_toArray, List.set_cons_zero, List.set_cons_succ]
  refine wpAnyH_ready (rs := [21]) (by kernel_rfl) (by simp) ?_
  refine AllReadyH.cons rfl (fun K hK => ?_) AllReadyH.nil
  go_simp
  refine (CP.out _ hHeld).mono ?_; rintro e _ ⟨rfl, rfl⟩
  try go_simp
  refine hK.out _ _ (hHeld) (fun hHeld => ?_)
  clear hK K
  try change wpAnyH _ _ _ _ _ _ _ (Go.Act.put _ (some 44) _) _
  try simp only [Go.Act.put, List.setIfInBounds_toArray, List.set_cons_zero, List.set_cons_succ]
  refine wpAnyH_takeD (i := 27) (v := ?_) (some 50) rfl rfl (by kernel_rfl) (by kernel_rfl) (by kernel_rfl) (fun _ _ _ h => h) (Or.inl ⟨by rfl, ?_⟩) (by assumption) ?_
  rotate_left
  · intro w' hSw
    go_simp
    first | done | with_reducible rfl
  try simp only [Go.Act.put, List.setIfInBounds_toArray, List.set_cons_zero, List.set_cons_succ]
  refine wpAnyH_takeD (i := 28) (v := ?_) (some 51) rfl rfl (by kernel_rfl) (by kernel_rfl) (by kernel_rfl) (fun _ _ _ h => h) (Or.inl ⟨by rfl, ?_⟩) (by assumption) ?_
  rotate_left
  · intro w' hSw
    go_simp
    first | done | with_reducible rfl
  try simp only [Go.Act.put, List.setIfInBounds_toArray, List.set_cons_zero, List.set_cons_succ]
  refine wpAnyH_takeD (i := 29) (v := ?_) (some 52) rfl rfl (by kernel_rfl) (by kernel_rfl) (by kernel_rfl) (fun _ _ _ h => h) (Or.inl ⟨by rfl, ?_⟩) (by assumption) ?_
  rotate_left
  · intro w' hSw
    go_simp
    first | done | with_reducible rfl
  try simp only [Go.Act.put, List.setIfInBounds_toArray, List.set_cons_zero, List.set_cons_succ]
  refine wpAnyH_takeD (i := 30) (v := ?_) (some 53) rfl rfl (by kernel_rfl) (by kernel_rfl) (by kernel_rfl) (fun _ _ _ h => h) (Or.inl ⟨by rfl, ?_⟩) (by assumption) ?_
  rotate_left
  · intro w' hSw
    go_simp
    first | done | with_reducible rfl
  try simp only [Go.Act.put, List.setIfInBounds_toArray, List.set_cons_zero, List.set_cons_succ]
  refine wpAnyH_takeD (i := 32) (v := ?_) (some 55) rfl rfl (by kernel_rfl) (by kernel_rfl) (by kernel_rfl) (fun _ _ _ h => h) (Or.inl ⟨by rfl, ?_⟩) (by assumption) ?_
  rotate_left
  · intro w' hSw
    go_simp
    first | done | with_reducible rfl
  try simp only [Go.Act.put, List.setIfInBounds_toArray, List.set_cons_zero, List.set_cons_succ]
  refine wpAnyH_takeD (i := 33) (v := ?_) (some 56) rfl rfl (by kernel_rfl) (by kernel_rfl) (by kernel_rfl) (fun _ _ _ h => h) (Or.inl ⟨by rfl, ?_⟩) (by assumption) ?_
  rotate_left
  · intro w' hSw
    go_simp
    first | done | with_reducible rfl
  try simp only [Go.Act.put, List.setIfInBounds_toArray, List.set_cons_zero, List.set_cons_succ]
  refine wpAnyH_takeD (i := 34) (v := ?_) (some 57) rfl rfl (by kernel_rfl) (by kernel_rfl) (by kernel_rfl) (fun _ _ _ h => h) (Or.inl ⟨by rfl, ?_⟩) (by assumption) ?_
  rotate_left
  · intro w' hSw
    go_simp
    first | done | with_reducible rfl
  try simp only [Go.Act.put, List.setIfInBounds_toArray, List.set_cons_zero, List.set_cons_succ]
  refine wpAnyH_takeD (i := 35) (v := ?_) (some 58) rfl rfl (by kernel_rfl) (by kernel_rfl) (by kernel_rfl) (fun _ _ _ h => h) (Or.inl ⟨by rfl, ?_⟩) (by assumption) ?_
  rotate_left
  · intro w' hSw
    obtain ⟨r4, r3, r7, r2⟩ := CR.out w' hSw
    go_simp
    first | done | with_reducible rfl
  try simp only [Go.Act.put, List.setIfInBounds_toArray, List.set_cons_zero, List.set_cons_succ]
  refine wpAnyH_ready (rs := [31]) (by kernel_rfl) (by simp) ?_
  refine AllReadyH.cons rfl (fun K hK => ?_) AllReadyH.nil
  go_simp
  refine (CW.out _ hHeld).mono ?_; rintro e _ ⟨rfl, rfl⟩
  try go_simp
  refine hK.out _ _ (hHeld) (fun hHeld => ?_)
  clear hK K
  try change wpAnyH _ _ _ _ _ _ _ (Go.Act.put _ (some 54) _) _
  try simp only [Go.Act.put, List.setIfInBounds_toArray, List.set_cons_zero, List.set_cons_succ]
  refine wpAnyH_takeD (i := 36) (v := ?_) (some 59) rfl rfl (by kernel_rfl) (by kernel_rfl) (by kernel_rfl) (fun _ _ _ h => h) (Or.inl ⟨by rfl, ?_⟩) (by assumption) ?_
  rotate_left
  · intro w' hSw
    go_simp
    first | done | with_reducible rfl
  try simp only [Go.Act.put, List.setIfInBounds_toArray, List.set_cons_zero, List.set_cons_succ]
  refine wpAnyH_takeD (i := 37) (v := ?_) (some 60) rfl rfl (by kernel_rfl) (by kernel_rfl) (by kernel_rfl) (fun _ _ _ h => h) (Or.inl ⟨by rfl, ?_⟩) (by assumption) ?_
  rotate_left
  · intro w' hSw
    go_simp
    first | done | with_reducible rfl
  try simp only [Go.Act.put, List.setIfInBounds_toArray, List.set_cons_zero, List.set_cons_succ]
  refine wpAnyH_takeD (i := 38) (v := ?_) (some 61) rfl rfl (by kernel_rfl) (by kernel_rfl) (by kernel_rfl) (fun _ _ _ h => h) (Or.inl ⟨by rfl, ?_⟩) (by assumption) ?_
  rotate_left
  · intro w' hSw
    go_simp
    first | done | with_reducible rfl
  try simp only [Go.Act.put, List.setIfInBounds_toArray, List.set_cons_zero, List.set_cons_succ]
  refine wpAnyH_takeD (i := 39) (v := ?_) (some 62) rfl rfl (by kernel_rfl) (by kernel_rfl) (by kernel_rfl) (fun _ _ _ h => h) (Or.inl ⟨by rfl, ?_⟩) (by assumption) ?_
  rotate_left
  · intro w' hSw
    go_simp
    first | done | with_reducible rfl
  try simp only [Go.Act.put, List.setIfInBounds_toArray, List.set_cons_zero, List.set_cons_succ]
  refine wpAnyH_takeD (i := 42) (v := ?_) (some 65) rfl rfl (by kernel_rfl) (by kernel_rfl) (by kernel_rfl) (fun _ _ _ h => h) (Or.inl ⟨by rfl, ?_⟩) (by assumption) ?_
  rotate_left
  · intro w' hSw
    go_simp
    first | done | with_reducible rfl
  try simp only [Go.Act.put, List.setIfInBounds_toArray, List.set_cons_zero, List.set_cons_succ]
  refine wpAnyH_takeD (i := 43) (v := ?_) (some 66) rfl rfl (by kernel_rfl) (by kernel_rfl) (by kernel_rfl) (fun _ _ _ h => h) (Or.inl ⟨by rfl, ?_⟩) (by assumption) ?_
  rotate_left
  · intro w' hSw
    go_simp
    first | done | with_reducible rfl
  try simp only [Go.Act.put, List.setIfInBounds_toArray, List.set_cons_zero, List.set_cons_succ]
  refine wpAnyH_takeD (i := 44) (v := ?_) (some 67) rfl rfl (by kernel_rfl) (by kernel_rfl) (by kernel_rfl) (fun _ _ _ h => h) (Or.inl ⟨by rfl, ?_⟩) (by assumption) ?_
  rotate_left
  · intro w' hSw
    go_simp
    first | done | with_reducible rfl
  try simp only [Go.Act.put, List.setIfInBounds_toArray, List.set_cons_zero, List.set_cons_succ]
  refine wpAnyH_takeD (i := 45) (v := ?_) (some 68) rfl rfl (by kernel_rfl) (by kernel_rfl) (by kernel_rfl) (fun _ _ _ h => h) (Or.inl ⟨by rfl, ?_⟩) (by assumption) ?_
  rotate_left
  · intro w' hSw
    obtain ⟨r4, r3, r7, r2⟩ := CR.out w' hSw
    go_simp
    first | done | with_reducible rfl
  try simp only [Go.Act.put, List.setIfInBounds_toArray, List.set_cons_zero, List.set_cons_succ]
  refine wpAnyH_takeD (i := 46) (v := ?_) (some 69) rfl rfl (by kernel_rfl) (by kernel_rfl) (by kernel_rfl) (fun _ _ _ h => h) (Or.inl ⟨by rfl, ?_⟩) (by assumption) ?_
  rotate_left
  · intro w' hSw
    have s1 := FK.out w' hSw
    go_simp
    first | done | with_reducible rfl
  try simp only [Go.Act.put, List.setIfInBounds_toArray, List.set_cons_zero, List.set_cons_succ]
  refine wpAnyH_ready (rs := [40]) (by kernel_rfl) (by simp) ?_
  refine AllReadyH.cons rfl (fun K hK => ?_) AllReadyH.nil
  go_simp
  refine (CB.out _ hHeld).mono ?_; rintro e w9 ⟨k9, c9, rfl, ho9, _, hf9, _⟩
  have s9 := run_str8 Try.t8d Try.underlying5 Try.underlying9 c9 ho9.rd HKL.out
  try go_simp
  refine hK.out _ _ (hHeld.trans hf9 (fun _ _ h => h)) (fun hHeld => ?_)
  clear hK K
  try change wpAnyH _ _ _ _ _ _ _ (Go.Act.put _ (some 63) _) _
  try simp only [Go.Act.put, List.setIfInBounds_toArray, List.set_cons_zero, List.set_cons_succ]
  refine wpAnyH_ready (rs := [41]) (by kernel_rfl) (by simp) ?_
  refine AllReadyH.cons rfl (fun K hK => ?_) AllReadyH.nil
  go_simp
  refine hK.out _ _ (hHeld) (fun hHeld => ?_)
  clear hK K
  try change wpAnyH _ _ _ _ _ _ _ (Go.Act.put _ (some 64) _) _
  try simp only [Go.Act.put, List.setIfInBounds_toArray, List.set_cons_zero, List.set_cons_succ]
  clear s9 ho9 hf9
  refine wpAnyH_takeD (i := 47) (v := ?_) (some 70) rfl rfl (by kernel_rfl) (by kernel_rfl) (by kernel_rfl) (fun _ _ _ h => h) (Or.inl ⟨by rfl, ?_⟩) (by assumption) ?_
  rotate_left
  · intro w' hSw
    go_simp
    first | done | with_reducible rfl
  try simp only [Go.Act.put, List.setIfInBounds_toArray, List.set_cons_zero, List.set_cons_succ]
  refine wpAnyH_takeD (i := 48) (v := ?_) (some 71) rfl rfl (by kernel_rfl) (by kernel_rfl) (by kernel_rfl) (fun _ _ _ h => h) (Or.inl ⟨by rfl, ?_⟩) (by assumption) ?_
  rotate_left
  · intro w' hSw
    go_simp
    first | done | with_reducible rfl
  try simp only [Go.Act.put, List.setIfInBounds_toArray, List.set_cons_zero, List.set_cons_succ]
  refine wpAnyH_takeD (i := 49) (v := ?_) (some 6) rfl rfl (by kernel_rfl) (by kernel_rfl) (by kernel_rfl) (fun _ _ _ h => h) (Or.inl ⟨by rfl, ?_⟩) (by assumption) ?_
  rotate_left
  · intro w' hSw
    go_simp
    first | done | with_reducible rfl
  try simp only [Go.Act.put, List.setIfInBounds_toArray, List.set_cons_zero, List.set_cons_succ]
  refine wpAnyH_done (by kernel_rfl) ?_ _
  go_wp2
  go_ret
  exact ⟨rfl, HV.out.trans hHeld (fun _ _ h => h)⟩

set_option maxRecDepth 100000 in
set_option maxHeartbeats 4000000 in
theorem same_ok {w wi : World} {g gr : Nat} {s : DS} {F G : Nat → Prop} (h : RunF w wi g s F) (hr : RefD wi gr s G) (hq : s.q.length ≤ 1048576) (x : Nat) (he : s.err (x : Int) = 0) :
    Calls Try.prog 22 #[.pointer (some ⟨g, 0, none⟩), .pointer (some ⟨gr, 0, none⟩), .int .i64 (x : Int)] wi fun e w' => e = .returned (.bool true) ∧ Fr (fun _ => False) wi w' := by
  obtain ⟨m, hm, hG, hlt⟩ := hr
  have C1 := Lib.hid (h.read hq x he)
  have C2 := Lib.hid (fun w' (hf : Fr (fun _ => False) wi w') => refRead_any (hm.fr hf (fun _ _ h => h)) hq x he)
  have H := Lib.hid h
  have HM := Lib.hid hm
  have HXL := Lib.hid (s.read_len h.dsk.ok (x := x) (by have := (DS.err_in he).2.2; omega))
  clear h hm hG hlt he hq
  go_enter Try.func22, Try.ntmps22
  go_wp2_with fail
  refine C1.out.mono ?_; rintro e w1 ⟨k1, c1, rfl, o1, _, f1, _⟩
  have C2 := Lib.hid (C2.out w1 f1)
  have O1 := Lib.hid o1
  have F1 := Lib.hid f1
  clear C1 o1 f1
  go_wp2_with fail
  refine C2.out.mono ?_; rintro e v ⟨A2, c2, rfl, r2, f2⟩
  clear C2
  generalize s.read x = X at *
  have HV := Lib.hid (F1.out.trans f2 (fun _ _ h => h))
  have FA := Lib.hid (fun w' (hf : Fr (fun _ => False) v w') => run_str8 Try.t8d Try.underlying5 Try.underlying9 c1 (O1.out.rd.fr (f2.trans hf (fun _ _ h => h)) (fun _ _ _ h => h)) HXL.out)
  have FB := Lib.hid (fun w' (hf : Fr (fun _ => False) v w') => run_str8 Try.t8d Try.underlying5 Try.underlying9 c2 (r2.fr hf (fun _ _ _ h => h)) HXL.out)
  clear r2 f2 O1 F1
  have b1 : ((strOf X).toList == (strOf X).toList) = true := by simp
  have CO := Lib.hid (fun w' (hf : Fr (fun _ => False) v w') => off_any (H.out.dsk.fr0 (HV.out.trans hf (fun _ _ h => h))))
  have CP := Lib.hid (fun w' (hf : Fr (fun _ => False) v w') => pending_any (H.out.dsk.fr0 (HV.out.trans hf (fun _ _ h => h))))
  have CW := Lib.hid (fun w' (hf : Fr (fun _ => False) v w') => writes_any (H.out.dsk.fr0 (HV.out.trans hf (fun _ _ h => h))))
  have CB := Lib.hid (fun w' (hf : Fr (fun _ => False) v w') => (H.out.on0 (HV.out.trans hf (fun _ _ h => h))).bytes)
  obtain ⟨LA, Lc, hLV, _⟩ := HM.out.row.form
  have CR0 := Lib.hid (fun w' (hf : Fr (fun _ => False) v w') => (HM.out.fr (HV.out.trans hf (fun _ _ h => h)) (fun _ _ h => h)).four)
  rw [hLV] at CR0
  have CR := CR0
  rw [HM.out.ql] at CP
  have HKL := Lib.hid (show s.kept.length = s.N * s.sz from HM.out.ok.klen)
  have FK := Lib.hid (fun w' (hf : Fr (fun _ => False) v w') => run_str8 Try.t8d Try.underlying5 Try.underlying9 (s.N * s.sz) (Loc.rd (HM.out.kept.fr (HV.out.trans hf (fun _ _ h => h)) (fun h => h))) HKL.out)
  have b2 : ((strOf s.kept).toList == (strOf s.kept).toList) = true := by simp
  have b3 : (s.off == s.off) = true := by simp
  have b4 : ((m.ps.length : Int) == (m.ps.length : Int)) = true := by simp
  have b5 : ((s.writes : Int) == (s.writes : Int)) = true := by simp
  clear hLV CR0
  generalize s.N * s.sz = M at *
  generalize s.kept = KB at *
  generalize s.off = off at *
  generalize m.ps.length = pl at *
  generalize s.writes = wr at *
  go_wp2_with fail
  refine wp_region_held_drew (S := fun w' => Fr (fun _ => False) v w') (by kernel_rfl) ((Fr.refl _ _).drew) (fun hHeld => ?_)
  refine wpAnyH_takeD (i := 0) (v := ?_) (some 23) rfl rfl (by kernel_rfl) (by kernel_rfl) (by kernel_rfl) (fun _ _ _ h => h) (Or.inl ⟨by rfl, ?_⟩) (by assumption) ?_
  rotate_left
  · intro w' hSw
    go_simp
    first | done | with_reducible rfl
  try simp only [Go.Act.put, List.setIfInBounds_toArray, List.set_cons_zero, List.set_cons_succ]
  refine wpAnyH_takeD (i := 1) (v := ?_) (some 24) rfl rfl (by kernel_rfl) (by kernel_rfl) (by kernel_rfl) (fun _ _ _ h => h) (Or.inl ⟨by rfl, ?_⟩) (by assumption) ?_
  rotate_left
  · intro w' hSw
    have s1 := FA.out w' hSw
    go_simp
    first | done | with_reducible rfl
  try simp only [Go.Act.put, List.setIfInBounds_toArray, List.set_cons_zero, List.set_cons_succ]
  refine wpAnyH_takeD (i := 2) (v := ?_) (some 25) rfl rfl (by kernel_rfl) (by kernel_rfl) (by kernel_rfl) (fun _ _ _ h => h) (Or.inl ⟨by rfl, ?_⟩) (by assumption) ?_
  rotate_left
  · intro w' hSw
    go_simp
    first | done | with_reducible rfl
  try simp only [Go.Act.put, List.setIfInBounds_toArray, List.set_cons_zero, List.set_cons_succ]
  refine wpAnyH_takeD (i := 3) (v := ?_) (some 26) rfl rfl (by kernel_rfl) (by kernel_rfl) (by kernel_rfl) (fun _ _ _ h => h) (Or.inl ⟨by rfl, ?_⟩) (by assumption) ?_
  rotate_left
  · intro w' hSw
    have s1 := FB.out w' hSw
    go_simp
    first | done | with_reducible rfl
  try simp only [Go.Act.put, List.setIfInBounds_toArray, List.set_cons_zero, List.set_cons_succ]
  refine wpAnyH_takeD (i := 4) (v := ?_) (some 27) rfl rfl (by kernel_rfl) (by kernel_rfl) (by kernel_rfl) (fun _ _ _ h => h) (Or.inl ⟨by rfl, ?_⟩) (by assumption) ?_
  rotate_left
  · intro w' hSw
    go_simp
    first | done | with_reducible rfl
  try simp only [Go.Act.put, List.setIfInBounds_toArray, List.set_cons_zero, List.set_cons_succ]
  refine wpAnyH_takeD (i := 5) (v := ?_) (some 28) rfl rfl (by kernel_rfl) (by kernel_rfl) (by kernel_rfl) (fun _ _ _ h => h) (Or.inl ⟨by rfl, ?_⟩) (by assumption) ?_
  rotate_left
  · intro w' hSw
    go_simp
    first | done | with_reducible rfl
  try simp only [Go.Act.put, List.setIfInBounds_toArray, List.set_cons_zero, List.set_cons_succ]
  refine wpAnyH_takeD (i := 6) (v := ?_) (some 29) rfl rfl (by kernel_rfl) (by kernel_rfl) (by kernel_rfl) (fun _ _ _ h => h) (Or.inl ⟨by rfl, ?_⟩) (by assumption) ?_
  rotate_left
  · intro w' hSw
    go_simp
    first | done | with_reducible rfl
  try simp only [Go.Act.put, List.setIfInBounds_toArray, List.set_cons_zero, List.set_cons_succ]
  refine wpAnyH_takeD (i := 7) (v := ?_) (some 30) rfl rfl (by kernel_rfl) (by kernel_rfl) (by kernel_rfl) (fun _ _ _ h => h) (Or.inl ⟨by rfl, ?_⟩) (by assumption) ?_
  rotate_left
  · intro w' hSw
    go_simp
    first | done | with_reducible rfl
  try simp only [Go.Act.put, List.setIfInBounds_toArray, List.set_cons_zero, List.set_cons_succ]
  refine wpAnyH_takeD (i := 8) (v := ?_) (some 31) rfl rfl (by kernel_rfl) (by kernel_rfl) (by kernel_rfl) (fun _ _ _ h => h) (Or.inl ⟨by rfl, ?_⟩) (by assumption) ?_
  rotate_left
  · intro w' hSw
    go_simp
    first | done | with_reducible rfl
  try simp only [Go.Act.put, List.setIfInBounds_toArray, List.set_cons_zero, List.set_cons_succ]
  refine wpAnyH_takeD (i := 9) (v := ?_) (some 32) rfl rfl (by kernel_rfl) (by kernel_rfl) (by kernel_rfl) (fun _ _ _ h => h) (Or.inl ⟨by rfl, ?_⟩) (by assumption) ?_
  rotate_left
  · intro w' hSw
    go_simp
    first | done | with_reducible rfl
  try simp only [Go.Act.put, List.setIfInBounds_toArray, List.set_cons_zero, List.set_cons_succ]
  refine wpAnyH_takeD (i := 10) (v := ?_) (some 33) rfl rfl (by kernel_rfl) (by kernel_rfl) (by kernel_rfl) (fun _ _ _ h => h) (Or.inl ⟨by rfl, ?_⟩) (by assumption) ?_
  rotate_left
  · intro w' hSw
    go_simp
    first | done | with_reducible rfl
  try simp only [Go.Act.put, List.setIfInBounds_toArray, List.set_cons_zero, List.set_cons_succ]
  refine wpAnyH_takeD (i := 11) (v := ?_) (some 34) rfl rfl (by kernel_rfl) (by kernel_rfl) (by kernel_rfl) (fun _ _ _ h => h) (Or.inl ⟨by rfl, ?_⟩) (by assumption) ?_
  rotate_left
  · intro w' hSw
    go_simp
    first | done | with_reducible rfl
  try simp only [Go.Act.put, List.setIfInBounds_toArray, List.set_cons_zero, List.set_cons_succ]
  refine wpAnyH_takeD (i := 13) (v := ?_) (some 36) rfl rfl (by kernel_rfl) (by kernel_rfl) (by kernel_rfl) (fun _ _ _ h => h) (Or.inl ⟨by rfl, ?_⟩) (by assumption) ?_
  rotate_left
  · intro w' hSw
    go_simp
    first | done | with_reducible rfl
  try simp only [Go.Act.put, List.setIfInBounds_toArray, List.set_cons_zero, List.set_cons_succ]
  refine wpAnyH_takeD (i := 14) (v := ?_) (some 37) rfl rfl (by kernel_rfl) (by kernel_rfl) (by kernel_rfl) (fun _ _ _ h => h) (Or.inl ⟨by rfl, ?_⟩) (by assumption) ?_
  rotate_left
  · intro w' hSw
    go_simp
    first | done | with_reducible rfl
  try simp only [Go.Act.put, List.setIfInBounds_toArray, List.set_cons_zero, List.set_cons_succ]
  refine wpAnyH_takeD (i := 15) (v := ?_) (some 38) rfl rfl (by kernel_rfl) (by kernel_rfl) (by kernel_rfl) (fun _ _ _ h => h) (Or.inl ⟨by rfl, ?_⟩) (by assumption) ?_
  rotate_left
  · intro w' hSw
    go_simp
    first | done | with_reducible rfl
  try simp only [Go.Act.put, List.setIfInBounds_toArray, List.set_cons_zero, List.set_cons_succ]
  refine wpAnyH_takeD (i := 16) (v := ?_) (some 39) rfl rfl (by kernel_rfl) (by kernel_rfl) (by kernel_rfl) (fun _ _ _ h => h) (Or.inl ⟨by rfl, ?_⟩) (by assumption) ?_
  rotate_left
  · intro w' hSw
    obtain ⟨r4, r3, r7, r2⟩ := CR.out w' hSw
    go_simp
    first | done | with_reducible rfl
  try simp only [Go.Act.put, List.setIfInBounds_toArray, List.set_cons_zero, List.set_cons_succ]
  refine wpAnyH_ready (rs := [12]) (by kernel_rfl) (by simp) ?_
  refine AllReadyH.cons rfl (fun K hK => ?_) AllReadyH.nil
  go_simp
  refine (CO.out _ hHeld).mono ?_; rintro e _ ⟨rfl, rfl⟩
  try go_simp
  refine hK.out _ _ (hHeld) (fun hHeld => ?_)
  clear hK K
  try change wpAnyH _ _ _ _ _ _ _ (Go.Act.put _ (some 35) _) _
  try simp only [Go.Act.put, List.setIfInBounds_toArray, List.set_cons_zero, List.set_cons_succ]
  refine wpAnyH_takeD (i := 17) (v := ?_) (some 40) rfl rfl (by kernel_rfl) (by kernel_rfl) (by kernel_rfl) (fun _ _ _ h => h) (Or.inl ⟨by rfl, ?_⟩) (by assumption) ?_
  rotate_left
  · intro w' hSw
    go_simp
    first | done | with_reducible rfl
  try simp only [Go.Act.put, List.setIfInBounds_toArray, List.set_cons_zero, List.set_cons_succ]
  refine wpAnyH_takeD (i := 18) (v := ?_) (some 41) rfl rfl (by kernel_rfl) (by kernel_rfl) (by kernel_rfl) (fun _ _ _ h => h) (Or.inl ⟨by rfl, ?_⟩) (by assumption) ?_
  rotate_left
  · intro w' hSw
    go_simp
    first | done | with_reducible rfl
  try simp only [Go.Act.put, List.setIfInBounds_toArray, List.set_cons_zero, List.set_cons_succ]
  refine wpAnyH_takeD (i := 19) (v := ?_) (some 42) rfl rfl (by kernel_rfl) (by kernel_rfl) (by kernel_rfl) (fun _ _ _ h => h) (Or.inl ⟨by rfl, ?_⟩) (by assumption) ?_
  rotate_left
  · intro w' hSw
    go_simp
    first | done | with_reducible rfl
  try simp only [Go.Act.put, List.setIfInBounds_toArray, List.set_cons_zero, List.set_cons_succ]
  refine wpAnyH_takeD (i := 20) (v := ?_) (some 43) rfl rfl (by kernel_rfl) (by kernel_rfl) (by kernel_rfl) (fun _ _ _ h => h) (Or.inl ⟨by rfl, ?_⟩) (by assumption) ?_
  rotate_left
  · intro w' hSw
    go_simp
    first | done | with_reducible rfl
  try simp only [Go.Act.put, List.setIfInBounds_toArray, List.set_cons_zero, List.set_cons_succ]
  refine wpAnyH_takeD (i := 22) (v := ?_) (some 45) rfl rfl (by kernel_rfl) (by kernel_rfl) (by kernel_rfl) (fun _ _ _ h => h) (Or.inl ⟨by rfl, ?_⟩) (by assumption) ?_
  rotate_left
  · intro w' hSw
    go_simp
    first | done | with_reducible rfl
  try simp only [Go.Act.put, List.setIfInBounds_toArray, List.set_cons_zero, List.set_cons_succ]
  refine wpAnyH_takeD (i := 23) (v := ?_) (some 46) rfl rfl (by kernel_rfl) (by kernel_rfl) (by kernel_rfl) (fun _ _ _ h => h) (Or.inl ⟨by rfl, ?_⟩) (by assumption) ?_
  rotate_left
  · intro w' hSw
    go_simp
    first | done | with_reducible rfl
  try simp only [Go.Act.put, List.setIfInBounds_toArray, List.set_cons_zero, List.set_cons_succ]
  refine wpAnyH_takeD (i := 24) (v := ?_) (some 47) rfl rfl (by kernel_rfl) (by kernel_rfl) (by kernel_rfl) (fun _ _ _ h => h) (Or.inl ⟨by rfl, ?_⟩) (by assumption) ?_
  rotate_left
  · intro w' hSw
    go_simp
    first | done | with_reducible rfl
  try simp only [Go.Act.put, List.setIfInBounds_toArray, List.set_cons_zero, List.set_cons_succ]
  refine wpAnyH_takeD (i := 25) (v := ?_) (some 48) rfl rfl (by kernel_rfl) (by kernel_rfl) (by kernel_rfl) (fun _ _ _ h => h) (Or.inl ⟨by rfl, ?_⟩) (by assumption) ?_
  rotate_left
  · intro w' hSw
    obtain ⟨r4, r3, r7, r2⟩ := CR.out w' hSw
    go_simp
    first | done | with_reducible rfl
  try simp only [Go.Act.put, List.setIfInBounds_toArray, List.set_cons_zero, List.set_cons_succ]
  refine wpAnyH_takeD (i := 26) (v := ?_) (some 49) rfl rfl (by kernel_rfl) (by kernel_rfl) (by kernel_rfl) (fun _ _ _ h => h) (Or.inl ⟨by rfl, ?_⟩) (by assumption) ?_
  rotate_left
  · intro w' hSw
    go_simp
    first | done | with_reducible rfl
  try simp only [Go.Act.put, List.setIfInBounds_toArray, List.set_cons_zero, List.set_cons_succ]
  refine wpAnyH_ready (rs := [21]) (by kernel_rfl) (by simp) ?_
  refine AllReadyH.cons rfl (fun K hK => ?_) AllReadyH.nil
  go_simp
  refine (CP.out _ hHeld).mono ?_; rintro e _ ⟨rfl, rfl⟩
  try go_simp
  refine hK.out _ _ (hHeld) (fun hHeld => ?_)
  clear hK K
  try change wpAnyH _ _ _ _ _ _ _ (Go.Act.put _ (some 44) _) _
  try simp only [Go.Act.put, List.setIfInBounds_toArray, List.set_cons_zero, List.set_cons_succ]
  refine wpAnyH_takeD (i := 27) (v := ?_) (some 50) rfl rfl (by kernel_rfl) (by kernel_rfl) (by kernel_rfl) (fun _ _ _ h => h) (Or.inl ⟨by rfl, ?_⟩) (by assumption) ?_
  rotate_left
  · intro w' hSw
    go_simp
    first | done | with_reducible rfl
  try simp only [Go.Act.put, List.setIfInBounds_toArray, List.set_cons_zero, List.set_cons_succ]
  refine wpAnyH_takeD (i := 28) (v := ?_) (some 51) rfl rfl (by kernel_rfl) (by kernel_rfl) (by kernel_rfl) (fun _ _ _ h => h) (Or.inl ⟨by rfl, ?_⟩) (by assumption) ?_
  rotate_left
  · intro w' hSw
    go_simp
    first | done | with_reducible rfl
  try simp only [Go.Act.put, List.setIfInBounds_toArray, List.set_cons_zero, List.set_cons_succ]
  refine wpAnyH_takeD (i := 29) (v := ?_) (some 52) rfl rfl (by kernel_rfl) (by kernel_rfl) (by kernel_rfl) (fun _ _ _ h => h) (Or.inl ⟨by rfl, ?_⟩) (by assumption) ?_
  rotate_left
  · intro w' hSw
    go_simp
    first | done | with_reducible rfl
  try simp only [Go.Act.put, List.setIfInBounds_toArray, List.set_cons_zero, List.set_cons_succ]
  refine wpAnyH_takeD (i := 30) (v := ?_) (some 53) rfl rfl (by kernel_rfl) (by kernel_rfl) (by kernel_rfl) (fun _ _ _ h => h) (Or.inl ⟨by rfl, ?_⟩) (by assumption) ?_
  rotate_left
  · intro w' hSw
    go_simp
    first | done | with_reducible rfl
  try simp only [Go.Act.put, List.setIfInBounds_toArray, List.set_cons_zero, List.set_cons_succ]
  refine wpAnyH_takeD (i := 32) (v := ?_) (some 55) rfl rfl (by kernel_rfl) (by kernel_rfl) (by kernel_rfl) (fun _ _ _ h => h) (Or.inl ⟨by rfl, ?_⟩) (by assumption) ?_
  rotate_left
  · intro w' hSw
    go_simp
    first | done | with_reducible rfl
  try simp only [Go.Act.put, List.setIfInBounds_toArray, List.set_cons_zero, List.set_cons_succ]
  refine wpAnyH_takeD (i := 33) (v := ?_) (some 56) rfl rfl (by kernel_rfl) (by kernel_rfl) (by kernel_rfl) (fun _ _ _ h => h) (Or.inl ⟨by rfl, ?_⟩) (by assumption) ?_
  rotate_left
  · intro w' hSw
    go_simp
    first | done | with_reducible rfl
  try simp only [Go.Act.put, List.setIfInBounds_toArray, List.set_cons_zero, List.set_cons_succ]
  refine wpAnyH_takeD (i := 34) (v := ?_) (some 57) rfl rfl (by kernel_rfl) (by kernel_rfl) (by kernel_rfl) (fun _ _ _ h => h) (Or.inl ⟨by rfl, ?_⟩) (by assumption) ?_
  rotate_left
  · intro w' hSw
    go_simp
    first | done | with_reducible rfl
  try simp only [Go.Act.put, List.setIfInBounds_toArray, List.set_cons_zero, List.set_cons_succ]
  refine wpAnyH_takeD (i := 35) (v := ?_) (some 58) rfl rfl (by kernel_rfl) (by kernel_rfl) (by kernel_rfl) (fun _ _ _ h => h) (Or.inl ⟨by rfl, ?_⟩) (by assumption) ?_
  rotate_left
  · intro w' hSw
    obtain ⟨r4, r3, r7, r2⟩ := CR.out w' hSw
    go_simp
    first | done | with_reducible rfl
  try simp only [Go.Act.put, List.setIfInBounds_toArray, List.set_cons_zero, List.set_cons_succ]
  refine wpAnyH_ready (rs := [31]) (by kernel_rfl) (by simp) ?_
  refine AllReadyH.cons rfl (fun K hK => ?_) AllReadyH.nil
  go_simp
  refine (CW.out _ hHeld).mono ?_; rintro e _ ⟨rfl, rfl⟩
  try go_simp
  refine hK.out _ _ (hHeld) (fun hHeld => ?_)
  clear hK K
  try change wpAnyH _ _ _ _ _ _ _ (Go.Act.put _ (some 54) _) _
  try simp only [Go.Act.put, List.setIfInBounds_toArray, List.set_cons_zero, List.set_cons_succ]
  refine wpAnyH_takeD (i := 36) (v := ?_) (some 59) rfl rfl (by kernel_rfl) (by kernel_rfl) (by kernel_rfl) (fun _ _ _ h => h) (Or.inl ⟨by rfl, ?_⟩) (by assumption) ?_
  rotate_left
  · intro w' hSw
    go_simp
    first | done | with_reducible rfl
  try simp only [Go.Act.put, List.setIfInBounds_toArray, List.set_cons_zero, List.set_cons_succ]
  refine wpAnyH_takeD (i := 37) (v := ?_) (some 60) rfl rfl (by kernel_rfl) (by kernel_rfl) (by kernel_rfl) (fun _ _ _ h => h) (Or.inl ⟨by rfl, ?_⟩) (by assumption) ?_
  rotate_left
  · intro w' hSw
    go_simp
    first | done | with_reducible rfl
  try simp only [Go.Act.put, List.setIfInBounds_toArray, List.set_cons_zero, List.set_cons_succ]
  refine wpAnyH_takeD (i := 38) (v := ?_) (some 61) rfl rfl (by kernel_rfl) (by kernel_rfl) (by kernel_rfl) (fun _ _ _ h => h) (Or.inl ⟨by rfl, ?_⟩) (by assumption) ?_
  rotate_left
  · intro w' hSw
    go_simp
    first | done | with_reducible rfl
  try simp only [Go.Act.put, List.setIfInBounds_toArray, List.set_cons_zero, List.set_cons_succ]
  refine wpAnyH_takeD (i := 39) (v := ?_) (some 62) rfl rfl (by kernel_rfl) (by kernel_rfl) (by kernel_rfl) (fun _ _ _ h => h) (Or.inl ⟨by rfl, ?_⟩) (by assumption) ?_
  rotate_left
  · intro w' hSw
    go_simp
    first | done | with_reducible rfl
  try simp only [Go.Act.put, List.setIfInBounds_toArray, List.set_cons_zero, List.set_cons_succ]
  refine wpAnyH_takeD (i := 42) (v := ?_) (some 65) rfl rfl (by kernel_rfl) (by kernel_rfl) (by kernel_rfl) (fun _ _ _ h => h) (Or.inl ⟨by rfl, ?_⟩) (by assumption) ?_
  rotate_left
  · intro w' hSw
    go_simp
    first | done | with_reducible rfl
  try simp only [Go.Act.put, List.setIfInBounds_toArray, List.set_cons_zero, List.set_cons_succ]
  refine wpAnyH_takeD (i := 43) (v := ?_) (some 66) rfl rfl (by kernel_rfl) (by kernel_rfl) (by kernel_rfl) (fun _ _ _ h => h) (Or.inl ⟨by rfl, ?_⟩) (by assumption) ?_
  rotate_left
  · intro w' hSw
    go_simp
    first | done | with_reducible rfl
  try simp only [Go.Act.put, List.setIfInBounds_toArray, List.set_cons_zero, List.set_cons_succ]
  refine wpAnyH_takeD (i := 44) (v := ?_) (some 67) rfl rfl (by kernel_rfl) (by kernel_rfl) (by kernel_rfl) (fun _ _ _ h => h) (Or.inl ⟨by rfl, ?_⟩) (by assumption) ?_
  rotate_left
  · intro w' hSw
    go_simp
    first | done | with_reducible rfl
  try simp only [Go.Act.put, List.setIfInBounds_toArray, List.set_cons_zero, List.set_cons_succ]
  refine wpAnyH_takeD (i := 45) (v := ?_) (some 68) rfl rfl (by kernel_rfl) (by kernel_rfl) (by kernel_rfl) (fun _ _ _ h => h) (Or.inl ⟨by rfl, ?_⟩) (by assumption) ?_
  rotate_left
  · intro w' hSw
    obtain ⟨r4, r3, r7, r2⟩ := CR.out w' hSw
    go_simp
    first | done | with_reducible rfl
  try simp only [Go.Act.put, List.setIfInBounds_toArray, List.set_cons_zero, List.set_cons_succ]
  refine wpAnyH_takeD (i := 46) (v := ?_) (some 69) rfl rfl (by kernel_rfl) (by kernel_rfl) (by kernel_rfl) (fun _ _ _ h => h) (Or.inl ⟨by rfl, ?_⟩) (by assumption) ?_
  rotate_left
  · intro w' hSw
    have s1 := FK.out w' hSw
    go_simp
    first | done | with_reducible rfl
  try simp only [Go.Act.put, List.setIfInBounds_toArray, List.set_cons_zero, List.set_cons_succ]
  refine wpAnyH_ready (rs := [40]) (by kernel_rfl) (by simp) ?_
  refine AllReadyH.cons rfl (fun K hK => ?_) AllReadyH.nil
  go_simp
  refine (CB.out _ hHeld).mono ?_; rintro e w9 ⟨k9, c9, rfl, ho9, _, hf9, _⟩
  have s9 := run_str8 Try.t8d Try.underlying5 Try.underlying9 c9 ho9.rd HKL.out
  try go_simp
  refine hK.out _ _ (hHeld.trans hf9 (fun _ _ h => h)) (fun hHeld => ?_)
  clear hK K
  try change wpAnyH _ _ _ _ _ _ _ (Go.Act.put _ (some 63) _) _
  try simp only [Go.Act.put, List.setIfInBounds_toArray, List.set_cons_zero, List.set_cons_succ]
  refine wpAnyH_ready (rs := [41]) (by kernel_rfl) (by simp) ?_
  refine AllReadyH.cons rfl (fun K hK => ?_) AllReadyH.nil
  go_simp
  refine hK.out _ _ (hHeld) (fun hHeld => ?_)
  clear hK K
  try change wpAnyH _ _ _ _ _ _ _ (Go.Act.put _ (some 64) _) _
  try simp only [Go.Act.put, List.setIfInBounds_toArray, List.set_cons_zero, List.set_cons_succ]
  clear s9 ho9 hf9
  refine wpAnyH_takeD (i := 47) (v := ?_) (some 70) rfl rfl (by kernel_rfl) (by kernel_rfl) (by kernel_rfl) (fun _ _ _ h => h) (Or.inl ⟨by rfl, ?_⟩) (by assumption) ?_
  rotate_left
  · intro w' hSw
    go_simp
    first | done | with_reducible rfl
  try simp only [Go.Act.put, List.setIfInBounds_toArray, List.set_cons_zero, List.set_cons_succ]
  refine wpAnyH_takeD (i := 48) (v := ?_) (some 71) rfl rfl (by kernel_rfl) (by kernel_rfl) (by kernel_rfl) (fun _ _ _ h => h) (Or.inl ⟨by rfl, ?_⟩) (by assumption) ?_
  rotate_left
  · intro w' hSw
    go_simp
    first | done | with_reducible rfl
  try simp only [Go.Act.put, List.setIfInBounds_toArray, List.set_cons_zero, List.set_cons_succ]
  refine wpAnyH_takeD (i := 49) (v := ?_) (some 6) rfl rfl (by kernel_rfl) (by kernel_rfl) (by kernel_rfl) (fun _ _ _ h => h) (Or.inl ⟨by rfl, ?_⟩) (by assumption) ?_
  rotate_left
  · intro w' hSw
    go_simp
    first | done | with_reducible rfl
  try simp only [Go.Act.put, List.setIfInBounds_toArray, List.set_cons_zero, List.set_cons_succ]
  refine wpAnyH_done (by kernel_rfl) ?_ _
  go_wp2
  go_ret
  exact ⟨rfl, HV.out.trans hHeld (fun _ _ h => h)⟩

theorem same_any {w wi : World} {g gr : Nat} {s : DS} {F G : Nat → Prop} (h : RunF w wi g s F) (hr : RefD wi gr s G) (hq : s.q.length ≤ 1048576) (x : Int) :
    Calls Try.prog 22 #[.pointer (some ⟨g, 0, none⟩), .pointer (some ⟨gr, 0, none⟩), .int .i64 x] wi fun e w' => e = .returned (.bool true) ∧ Fr (fun _ => False) wi w' := by
  by_cases he : s.err x = 0
  · obtain ⟨X, rfl⟩ : ∃ X : Nat, x = X := ⟨x.toNat, by have := (DS.err_in he).2.1; omega⟩
    exact same_ok h hr hq X he
  · exact same_err h hr hq x he
end Go.Proofs.Ytnkkdpmmnenncaa
