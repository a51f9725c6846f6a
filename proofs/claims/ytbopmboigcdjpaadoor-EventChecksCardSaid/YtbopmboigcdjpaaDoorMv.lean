/- The reference's kind, works, last, named. -/
import Derived.Test.YtbopmboigcdjpaaDoorMt
namespace Go.Proofs.YtbopmboigcdjpaaDoor
open Go.RowKit Go.Maps

theorem evs_at {ps : List VL} {k : Nat} (h : k < ps.length) : (evs ps)[k]? = some (ps.getD k default).e := by
  simp only [evs, List.getElem?_map]; simp [List.getD, h]
theorem evs_len {w : World} {A : Option Addr} {n : Nat} {ps : List VL} {F : Nat → Prop} (h : Vs w A n ps F) : (evs ps).length = n := by unfold evs; simpa using h.len
theorem evs_drop {ps : List VL} {k : Nat} (h : k < ps.length) : (evs ps).drop k = (ps.getD k default).e :: (evs ps).drop (k + 1) := by
  have hl : k < (evs ps).length := by unfold evs; simpa using h
  rw [List.drop_eq_getElem_cons hl]
  have := evs_at h
  rw [List.getElem?_eq_getElem hl] at this
  rw [Option.some.inj this]
theorem evs_take {ps : List VL} {k : Nat} (h : k < ps.length) : (evs ps).take (k + 1) = (evs ps).take k ++ [(ps.getD k default).e] := by
  rw [List.take_add_one, evs_at h]; rfl

theorem works_hit {e : Ev} {l : List Ev} {p : Int} (k : Nat) (h : e.k = 8 ∧ e.r = p) : (if worksR (e :: l) p = 0 then 0 else worksR (e :: l) p + (k : Int)) = (k : Int) + 1 := by
  have : worksR (e :: l) p = 1 := by rw [worksR, if_pos h]
  rw [this]; simp; omega
theorem works_miss {e : Ev} {l : List Ev} {p : Int} (k : Nat) (h : ¬ (e.k = 8 ∧ e.r = p)) : (if worksR (e :: l) p = 0 then 0 else worksR (e :: l) p + (k : Int)) = if worksR l p = 0 then 0 else worksR l p + ((k + 1 : Nat) : Int) := by
  have hle := worksR_le l p
  have : worksR (e :: l) p = if worksR l p = 0 then 0 else worksR l p + 1 := by rw [worksR, if_neg h]
  rw [this]
  by_cases h0 : worksR l p = 0
  · simp [h0]
  · rw [if_neg h0, if_neg h0, if_neg (by omega)]; omega
set_option maxRecDepth 100000 in
set_option maxHeartbeats 4000000 in
theorem rkind_any (A : Option Addr) (n c : Nat) (ps : List VL) (F : Nat → Prop) (w : World) (h : Vs w A n ps F) (hn : n ≤ 5000000000000) (p : Int) (hp : N64 p) :
    Calls Tryd.prog 52 #[.slice A n c, .int .i64 p] w fun e w' => e = .returned (.int .i64 (kindR (evs ps) p)) ∧ w = w' := by
  have hl := evs_len h
  have hp1 := hp.1
  have hp2 := hp.2
  unfold kindR
  rw [hl]
  by_cases h1 : 1 ≤ p
  · have d1 : decide (p < 1) = false := decide_eq_false (by omega)
    by_cases h2 : p ≤ (n : Int)
    · have d2 : decide ((n : Int) < p) = false := decide_eq_false (by omega)
      rw [if_pos ⟨h1, h2⟩]
      obtain ⟨j, hj⟩ : ∃ j, (p - 1).toNat = j := ⟨_, rfl⟩
      have hjn : j < n := by omega
      obtain ⟨b, off, rfl, -, hcs, -⟩ := h.at hjn
      have q0 : w.cell? ⟨b, off + j * 7, none⟩ = some (.int .i64 (ps.getD j default).e.k) := hcs 0 _ rfl
      rw [hj, getD_evs (by rw [h.len]; exact hjn)]
      generalize (ps.getD j default).e.k = K at *
      have w1 : IntKind.i64.wrap (p - 1) = (j : Int) := by rw [IntWalk.i64_in _ (by omega)]; omega
      have hj0 : (0 : Int) ≤ (j : Int) := by omega
      have hjn' : (j : Int) < (n : Int) := by omega
      clear h hl hcs hj h1 h2 hp hp1 hp2
      go_enter Tryd.func52, Tryd.ntmps52
      go_wp2
      go_ret
      exact ⟨rfl, rfl⟩
    · have d2 : decide ((n : Int) < p) = true := decide_eq_true (by omega)
      rw [if_neg (fun h => h2 h.2)]
      clear h hl h1 h2 hp hp1 hp2
      go_enter Tryd.func52, Tryd.ntmps52
      go_wp2
      go_ret
      exact ⟨rfl, rfl⟩
  · have d1 : decide (p < 1) = true := decide_eq_true (by omega)
    rw [if_neg (fun h => h1 h.1)]
    clear h hl h1 hp hp1 hp2
    go_enter Tryd.func52, Tryd.ntmps52
    go_wp2
    go_ret
    exact ⟨rfl, rfl⟩

set_option maxRecDepth 100000 in
set_option maxHeartbeats 4000000 in
theorem rworks_any (A : Option Addr) (n c : Nat) (ps : List VL) (F : Nat → Prop) (w : World) (h : Vs w A n ps F) (hn : n ≤ 5000000000000) (p : Int) :
    Calls Tryd.prog 53 #[.slice A n c, .int .i64 p] w fun e w' => e = .returned (.int .i64 (worksR (evs ps) p)) ∧ w = w' := by
  have HV := Lib.hid h
  have hnI : (n : Int) ≤ 5000000000000 := by omega
  clear h hn
  go_enter Tryd.func53, Tryd.ntmps53
  go_wp2_with fail
  go_loopw [5] (fun i wr => ∃ (k : Nat), i = .int .i64 (k : Int) ∧ k ≤ n ∧ Hid (worksR (evs ps) p = if worksR ((evs ps).drop k) p = 0 then 0 else worksR ((evs ps).drop k) p + k) ∧ w = wr) (fun i _ => n - (intOf i).toNat)
  case atStart => exact ⟨0, rfl, Nat.zero_le _, Lib.hid (by rw [List.drop_zero]; split <;> simp_all), rfl⟩
  case round =>
    obtain ⟨k, rfl, hk, HK, rfl⟩ := hrel
    have hk0 : (0 : Int) ≤ (k : Int) := by omega
    by_cases hlt : k < n
    · have hlt' : (k : Int) < n := by omega
      have w1 : IntKind.i64.wrap ((k : Int) + 1) = (k : Int) + 1 := IntWalk.i64_in _ (by omega)
      obtain ⟨b, off, rfl, -, hcs, -⟩ := HV.out.at hlt
      have hdr := evs_drop (ps := ps) (k := k) (by rw [HV.out.len]; exact hlt)
      have q0 : w.cell? ⟨b, off + k * 7, none⟩ = some (.int .i64 (ps.getD k default).e.k) := hcs 0 _ rfl
      have q2 : w.cell? ⟨b, off + k * 7 + 2, none⟩ = some (.int .i64 (ps.getD k default).e.r) := hcs 2 _ rfl
      have hst := HK.out
      rw [hdr] at hst
      generalize (ps.getD k default).e = e at *
      have HST := Lib.hid hst
      clear hdr hst hcs HK
      by_cases h8 : e.k = 8
      · have d8 : (e.k == 8) = true := by simpa using h8
        by_cases hr : e.r = p
        · have dr : (e.r == p) = true := by simpa using hr
          have HRES : Hid (worksR (evs ps) p = (k : Int) + 1) := Lib.hid (by rw [HST.out, works_hit k ⟨h8, hr⟩])
          generalize e.k = ek at *
          generalize e.r = er at *
          clear h8 hr HST
          go_wp2
          go_ret
          exact ⟨by rw [HRES.out]; rfl, rfl⟩
        · have dr : (e.r == p) = false := by simpa using hr
          have hnx : worksR (evs ps) p = if worksR ((evs ps).drop (k + 1)) p = 0 then 0 else worksR ((evs ps).drop (k + 1)) p + ((k + 1 : Nat) : Int) := by
            rw [HST.out, works_miss k (fun h => hr h.2)]
          have HNX := Lib.hid hnx
          generalize e.k = ek at *
          generalize e.r = er at *
          clear h8 hr hnx HST
          go_wp2
          go_roundw
          case rel => exact ⟨k + 1, by first | rfl | (go_num; done) | (congr 1; omega), by omega, HNX, by first | trivial | rfl⟩
          case measure => (simp [intOf]) <;> omega
      · have d8 : (e.k == 8) = false := by simpa using h8
        have hnx : worksR (evs ps) p = if worksR ((evs ps).drop (k + 1)) p = 0 then 0 else worksR ((evs ps).drop (k + 1)) p + ((k + 1 : Nat) : Int) := by
          rw [HST.out, works_miss k (fun h => h8 h.1)]
        have HNX := Lib.hid hnx
        generalize e.k = ek at *
        generalize e.r = er at *
        clear h8 hnx HST
        go_wp2
        go_roundw
        case rel => exact ⟨k + 1, by first | rfl | (go_num; done) | (congr 1; omega), by omega, HNX, by first | trivial | rfl⟩
        case measure => (simp [intOf]) <;> omega
    · obtain rfl : k = n := by omega
      have HRES : Hid (worksR (evs ps) p = 0) := Lib.hid (by
        rw [HK.out, List.drop_of_length_le (by rw [evs_len HV.out]; exact Nat.le_refl _)]; rfl)
      clear hlt HK
      go_wp2
      go_ret
      exact ⟨by rw [HRES.out]; rfl, rfl⟩

set_option maxRecDepth 100000 in
set_option maxHeartbeats 4000000 in
theorem rlast_any (A : Option Addr) (n c : Nat) (ps : List VL) (F : Nat → Prop) (w : World) (h : Vs w A n ps F) (hn : n ≤ 5000000000000) (p : Int) :
    Calls Tryd.prog 58 #[.slice A n c, .int .i64 p] w fun e w' => e = .returned (.int .i64 (lastR (evs ps) p)) ∧ w = w' := by
  have HV := Lib.hid h
  have hnI : (n : Int) ≤ 5000000000000 := by omega
  clear h hn
  go_enter Tryd.func58, Tryd.ntmps58
  go_wp2_with fail
  go_loopw [5] (fun i wr => ∃ (k : Nat), i = .int .i64 (k : Int) ∧ k ≤ n ∧ Hid (lastR (evs ps) p = lastR ((evs ps).take k) p) ∧ w = wr) (fun i _ => (intOf i).toNat)
  case atStart => exact ⟨n, rfl, Nat.le_refl _, Lib.hid (by rw [List.take_of_length_le (by rw [evs_len HV.out]; exact Nat.le_refl _)]), rfl⟩
  case round =>
    obtain ⟨k, rfl, hk, HK, rfl⟩ := hrel
    cases k with
    | zero =>
      have HRES : Hid (lastR (evs ps) p = 0) := Lib.hid (by rw [HK.out]; rfl)
      clear HK
      go_wp2
      go_ret
      exact ⟨by rw [HRES.out]; rfl, rfl⟩
    | succ j =>
      obtain ⟨x, hx⟩ : ∃ x : Int, ((j + 1 : Nat) : Int) = x := ⟨_, rfl⟩
      have hj0 : (0 : Int) ≤ (j : Int) := by omega
      have hjn : (j : Int) < (n : Int) := by omega
      obtain ⟨b, off, rfl, -, hcs, -⟩ := HV.out.at (i := j) (by omega)
      have htk := evs_take (ps := ps) (k := j) (by rw [HV.out.len]; omega)
      have q0 : w.cell? ⟨b, off + j * 7, none⟩ = some (.int .i64 (ps.getD j default).e.k) := hcs 0 _ rfl
      have hst := HK.out
      rw [htk, lastR_snoc, List.length_take, evs_len HV.out, Nat.min_eq_left (by omega)] at hst
      generalize (ps.getD j default).e.k = K at *
      rw [hx]
      have hxp : 0 < x := by omega
      have d0 : decide (0 < x) = true := decide_eq_true hxp
      have w1 : IntKind.i64.wrap (x - 1) = (j : Int) := by rw [IntWalk.i64_in _ (by omega)]; omega
      have HST := Lib.hid hst
      have HX := Lib.hid hx
      clear hcs htk hst HK hx hxp
      by_cases hK : K = p
      · have d1 : (K == p) = true := by simpa using hK
        have HRES : Hid (lastR (evs ps) p = x) := Lib.hid (by rw [HST.out, if_pos hK, ← HX.out]; omega)
        clear hK HST
        go_wp2
        go_ret
        exact ⟨by rw [HRES.out]; rfl, rfl⟩
      · have d1 : (K == p) = false := by simpa using hK
        have HNX : Hid (lastR (evs ps) p = lastR ((evs ps).take j) p) := Lib.hid (by rw [HST.out, if_neg hK])
        clear hK HST
        go_wp2
        go_roundw
        case rel => exact ⟨j, rfl, by omega, HNX, by first | trivial | rfl⟩
        case measure => (simp [intOf, ← HX.out]) <;> omega

/-- A row of ints in one block. -/
def KR (w : World) (v : Value) (ks : List Int) : Prop := ∃ d cap, v = .slice (some ⟨d, 0, none⟩) ks.length cap ∧ ∀ j (hj : j < ks.length), w.cell? ⟨d, j, none⟩ = some (.int .i64 ks[j])
set_option maxRecDepth 100000 in
set_option maxHeartbeats 8000000 in
theorem rnamed_any (A : Option Addr) (n c : Nat) (ps : List VL) (F : Nat → Prop) (w : World) (h : Vs w A n ps F) (hn : n ≤ 5000000000000) (p : Int) (v : Value) (ks : List Int) (hk : KR w v ks) (hkl : ks.length ≤ 10) :
    Calls Tryd.prog 54 #[.slice A n c, .int .i64 p, v] w fun e w' => e = .returned (.bool (namedR (evs ps) p ks)) ∧ Fr (fun _ => False) w w' := by
  obtain ⟨d, cap, rfl, hkc⟩ := hk
  have HV := Lib.hid h
  have HKC := Lib.hid hkc
  obtain ⟨L, hL⟩ : ∃ L, ks.length = L := ⟨_, rfl⟩
  have HKL := Lib.hid hL
  rw [hL] at hkl ⊢
  have hLI : (L : Int) ≤ 10 := by omega
  have hnI : (n : Int) ≤ 5000000000000 := by omega
  clear h hn hkc hL
  go_enter Tryd.func54, Tryd.ntmps54
  go_wp2_with fail
  go_loopw [7] (fun i wr => ∃ (k : Nat), i = .int .i64 (k : Int) ∧ k ≤ n ∧ Hid (namedR (evs ps) p ks = namedR ((evs ps).drop k) p ks ∧ Fr (fun _ => False) w wr)) (fun i _ => n - (intOf i).toNat)
  case atStart => exact ⟨0, rfl, Nat.zero_le _, ⟨by rw [List.drop_zero], Fr.refl _ _⟩⟩
  case round =>
    obtain ⟨k, rfl, hk, HK⟩ := hrel
    have hk0 : (0 : Int) ≤ (k : Int) := by omega
    by_cases hlt : k < n
    · have hlt' : (k : Int) < n := by omega
      have w1 : IntKind.i64.wrap ((k : Int) + 1) = (k : Int) + 1 := IntWalk.i64_in _ (by omega)
      obtain ⟨b, off, rfl, -, hcs, -⟩ := HV.out.at hlt
      have hdr := evs_drop (ps := ps) (k := k) (by rw [HV.out.len]; exact hlt)
      have HQ : Hid (∀ w', Fr (fun _ => False) w w' → w'.cell? ⟨b, off + k * 7, none⟩ = some (.int .i64 (ps.getD k default).e.k) ∧ w'.cell? ⟨b, off + k * 7 + 2, none⟩ = some (.int .i64 (ps.getD k default).e.r)) := Lib.hid (fun w' hf => by
        have c0 := hcs 0 _ rfl
        have c2 := hcs 2 _ rfl
        exact ⟨(hf.cell (World.block_lt_of_cell? w _ c0) (fun h => h)).trans c0, (hf.cell (World.block_lt_of_cell? w _ c2) (fun h => h)).trans c2⟩)
      have hst := HK.out.1
      rw [hdr] at hst
      have HFW := Lib.hid HK.out.2
      generalize (ps.getD k default).e = e at *
      have HST : Hid (namedR (evs ps) p ks = ((e.r == p && ks.contains e.k) || namedR ((evs ps).drop (k + 1)) p ks)) := Lib.hid (by rw [hst]; rfl)
      clear hdr hst hcs HK
      go_wp2_with fail
      obtain ⟨wo, rfl⟩ : ∃ wo, wo = wr := ⟨_, rfl⟩
      go_loopw [8] (fun i wz => ∃ (j : Nat), i = .int .i64 (j : Int) ∧ j ≤ L ∧ Hid (namedR (evs ps) p ks = ((e.r == p && (ks.drop j).contains e.k) || namedR ((evs ps).drop (k + 1)) p ks) ∧ Fr (fun _ => False) w wz)) (fun i _ => L - (intOf i).toNat)
      case atStart => exact ⟨0, rfl, Nat.zero_le _, ⟨by rw [List.drop_zero]; exact HST.out, HFW.out⟩⟩
      case round =>
        obtain ⟨j, rfl, hj, HJ⟩ := hrel
        have hj0 : (0 : Int) ≤ (j : Int) := by omega
        by_cases hjl : j < L
        · have hjl' : (j : Int) < L := by omega
          have w2 : IntKind.i64.wrap ((j : Int) + 1) = (j : Int) + 1 := IntWalk.i64_in _ (by omega)
          have hjk : j < ks.length := by rw [HKL.out]; exact hjl
          have hdk : ks.drop j = ks[j] :: ks.drop (j + 1) := List.drop_eq_getElem_cons hjk
          have hst := HJ.out.1
          rw [hdk] at hst
          have q0 : ∀ m, (wr.drewN m).cell? ⟨b, off + k * 7, none⟩ = some (.int .i64 e.k) := fun m => (HQ.out _ (HJ.out.2.drewN m)).1
          have q2 : ∀ m, (wr.drewN m).cell? ⟨b, off + k * 7 + 2, none⟩ = some (.int .i64 e.r) := fun m => (HQ.out _ (HJ.out.2.drewN m)).2
          have qk : ∀ m, (wr.drewN m).cell? ⟨d, j, none⟩ = some (.int .i64 ks[j]) := fun m => by
            have c0 := HKC.out j hjk
            exact ((HJ.out.2.drewN m).cell (World.block_lt_of_cell? w _ c0) (fun h => h)).trans c0
          have HFJ := Lib.hid HJ.out.2
          obtain ⟨x, hx⟩ : ∃ x, ks[j] = x := ⟨_, rfl⟩
          rw [hx] at hst qk
          have HS2 := Lib.hid hst
          clear hst hx hdk HJ
          by_cases hr : e.r = p
          · have dr : (e.r == p) = true := by simpa using hr
            by_cases hkx : e.k = x
            · have dk : (e.k == x) = true := by simpa using hkx
              have HRES : Hid (namedR (evs ps) p ks = true) := Lib.hid (by rw [HS2.out, dr, List.contains_cons, dk]; simp)
              generalize e.k = ek at *
              generalize e.r = er at *
              clear hr hkx HS2 HST
              go_wp2_with fail
              go_quiet (fail)
              go_wp2
              go_ret
              exact ⟨by rw [HRES.out]; rfl, HFJ.out.drewN _⟩
            · have dk : (e.k == x) = false := by simpa using hkx
              have HNX : Hid (namedR (evs ps) p ks = ((e.r == p && (ks.drop (j + 1)).contains e.k) || namedR ((evs ps).drop (k + 1)) p ks)) := Lib.hid (by rw [HS2.out, List.contains_cons, dk]; simp)
              clear hr hkx HS2
              go_wp2_with fail
              go_quiet (fail)
              go_wp2
              go_roundw
              case rel => exact ⟨j + 1, by first | rfl | (go_num; done) | (congr 1; omega), by omega, ⟨HNX.out, HFJ.out.drewN _⟩⟩
              case measure => (simp [intOf]) <;> omega
          · have dr : (e.r == p) = false := by simpa using hr
            have HNX : Hid (namedR (evs ps) p ks = ((e.r == p && (ks.drop (j + 1)).contains e.k) || namedR ((evs ps).drop (k + 1)) p ks)) := Lib.hid (by rw [HS2.out, dr]; simp)
            clear hr HS2
            go_wp2_with fail
            go_quiet (fail)
            go_wp2
            go_roundw
            case rel => exact ⟨j + 1, by first | rfl | (go_num; done) | (congr 1; omega), by omega, ⟨HNX.out, HFJ.out.drewN _⟩⟩
            case measure => (simp [intOf]) <;> omega
        · obtain rfl : j = L := by omega
          have HNX : Hid (namedR (evs ps) p ks = namedR ((evs ps).drop (k + 1)) p ks ∧ Fr (fun _ => False) w wr) := Lib.hid ⟨by
            have := HJ.out.1
            rw [List.drop_of_length_le (by rw [HKL.out]; exact Nat.le_refl _)] at this
            rw [this]; simp, HJ.out.2⟩
          clear HJ HST hjl
          go_wp2
          go_roundw
          case rel => exact ⟨k + 1, by first | rfl | (go_num; done) | (congr 1; omega), by omega, HNX⟩
          case measure => (simp [intOf]) <;> omega
    · obtain rfl : k = n := by omega
      have HRES : Hid (namedR (evs ps) p ks = false) := Lib.hid (by
        rw [HK.out.1, List.drop_of_length_le (by rw [evs_len HV.out]; exact Nat.le_refl _)]; rfl)
      have HF := Lib.hid HK.out.2
      clear hlt HK
      go_wp2
      go_ret
      exact ⟨by rw [HRES.out]; rfl, HF.out⟩
end Go.Proofs.YtbopmboigcdjpaaDoor
