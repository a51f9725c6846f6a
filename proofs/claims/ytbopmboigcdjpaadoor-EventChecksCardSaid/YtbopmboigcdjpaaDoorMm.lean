/- event's law: known, Few. -/
import Derived.Test.YtbopmboigcdjpaaDoorMl
namespace Go.Proofs.YtbopmboigcdjpaaDoor
open Go.RowKit Go.Maps Go.Extern.Stop Go.Stop Go.Extern

/-- New events without bytes. -/
theorem vs_new (w : World) (ps : List VL) (h : ∀ p ∈ ps, p.e.d = [] ∧ p.ok) : Vs (w.alloc (.cells (vlc ps).toArray 47)) (some ⟨w.heap.size, 0, none⟩) ps.length ps (fun k => k = w.heap.size) := by
  have hb := Bk.new w 47 (vlc ps).toArray
  refine ⟨rfl, fun _ => ⟨_, 0, rfl, rfl, fun j x hx => ?_⟩, fun p hp => ?_⟩
  · rw [Nat.zero_add, hb.cell]
    simpa using hx
  · obtain ⟨h1, h2⟩ := h p hp
    exact ⟨by rw [h1]; exact Rd8.nil _ _, h2, fun ad _ h0 => by rw [h1] at h0; simp at h0⟩
def V0 (k r : Int) : VL := ⟨⟨k, 0, r, 0, 0, 0, []⟩, none, 0⟩
def kev : List VL := [V0 1 0, V0 2 0, V0 3 2, V0 4 3, V0 4 3]
theorem V0_ok {k r : Int} (hk : 0 ≤ k ∧ k ≤ 30) (hr : 0 ≤ r ∧ r ≤ 30) : (V0 k r).ok :=
  have z : N64 0 := ⟨by decide, by decide⟩
  { k := ⟨by show _ ≤ k; omega, by show k ≤ _; omega⟩, a := z, r := ⟨by show _ ≤ r; omega, by show r ≤ _; omega⟩, i := z, l := z, n := z, d := by show 0 ≤ _; omega }
theorem kev_ok : ∀ p ∈ kev, p.e.d = [] ∧ p.ok := by
  intro p hp
  simp only [kev, List.mem_cons, List.not_mem_nil, or_false] at hp
  rcases hp with rfl | rfl | rfl | rfl | rfl <;> exact ⟨rfl, V0_ok (by omega) (by omega)⟩
theorem kev_check : Bo.new.check (evs kev) = some (5, 5) := by kernel_rfl
theorem kev_check4 : Bo.new.check (evs (kev.take 4)) = none := by kernel_rfl
theorem kev_status : statusL (evs (kev.take 4)) = 1 := by kernel_rfl
theorem kev_text : brkText 5 (wordW 5) = ⟨#[101, 118, 101, 110, 116, 32, 53, 58, 32, 114, 101, 102]⟩ := by kernel_rfl

set_option maxRecDepth 100000 in
set_option maxHeartbeats 8000000 in
theorem known_any (w : World) (hE : ErrT w) (hT : NamT w) :
    Calls Tryd.prog 8 #[] w fun e w' => e = .returned (.bool true) ∧ Fr (fun _ => False) w w' := by
  obtain ⟨g0, hg0⟩ : ∃ g0, w.heap.size = g0 := ⟨_, rfl⟩
  obtain ⟨W, hW⟩ : ∃ W, w.alloc (.cells #[.int .i64 1, .int .i64 0, .int .i64 0, .int .i64 0, .int .i64 0, .int .i64 0, .slice none 0 0,
    .int .i64 2, .int .i64 0, .int .i64 0, .int .i64 0, .int .i64 0, .int .i64 0, .slice none 0 0,
    .int .i64 3, .int .i64 0, .int .i64 2, .int .i64 0, .int .i64 0, .int .i64 0, .slice none 0 0,
    .int .i64 4, .int .i64 0, .int .i64 3, .int .i64 0, .int .i64 0, .int .i64 0, .slice none 0 0,
    .int .i64 4, .int .i64 0, .int .i64 3, .int .i64 0, .int .i64 0, .int .i64 0, .slice none 0 0] 47) = W := ⟨_, rfl⟩
  have hV : Vs W (some ⟨g0, 0, none⟩) 5 kev (fun k => k = g0) := by
    have := vs_new w kev kev_ok
    rw [hg0] at this
    rw [← hW]; exact this
  have HFW : Hid (Fr (fun _ => False) w W) := Lib.hid (by rw [← hW]; exact (Fr.refl _ _).alloc _)
  have C1 := Lib.hid (check_any (some ⟨g0, 0, none⟩) 5 5 kev _ W hV (by omega))
  rw [kev_check] at C1
  have HV4 := Lib.hid (hV.take 4 (by omega))
  have HE := Lib.hid (hE.fr HFW.out (fun h => h))
  have HT := Lib.hid (hT.fr HFW.out (fun h => h))
  clear hV hE hT
  go_enter Tryd.func8, Tryd.ntmps8
  go_wp2_with fail
  clear hW hg0
  refine C1.out.mono ?_; rintro e w1 ⟨v, rfl, hbk, hf1⟩
  unfold BrkE at hbk
  obtain ⟨gB, rfl, hbB, hlB⟩ := hbk
  have HB := Lib.hid hbB
  have HLB := Lib.hid hlB
  have HF1 := Lib.hid hf1
  clear hbB hlB hf1 C1
  obtain ⟨gt, hgt⟩ : ∃ gt, w1.heap.size = gt := ⟨_, rfl⟩
  obtain ⟨W2, hW2⟩ : ∃ W2, w1.alloc (.cells #[.pointer none] 30) = W2 := ⟨_, rfl⟩
  have KT : Hid (Bk W2 gt 30 #[.pointer none]) := Lib.hid (by rw [← hW2, ← hgt]; exact Bk.new _ _ _)
  have F2 : Hid (Fr (fun _ => False) w1 W2) := Lib.hid (by rw [← hW2]; exact (Fr.refl _ _).alloc _)
  have HGT : Hid (gB < gt ∧ g0 < gt ∧ 0 < gt ∧ 1 < gt ∧ W.heap.size ≤ gt) := Lib.hid (by
    have h1 := HB.out.lt
    have h2 := HV4.out.row (by omega)
    obtain ⟨b, off, e, hb0, hc⟩ := h2
    have h3 := World.block_lt_of_cell? W _ (hc 0 _ rfl)
    injection e with e; injection e with e1 _; subst e1
    have h4 := HF1.out.size
    have h5 := World.block_lt_of_cell? W _ (show W.cell? ⟨0, 0, none⟩ = some _ from HE.out)
    have h6 := World.block_lt_of_cell? W _ (HT.out 0 (by omega))
    simp only at h3 h5 h6
    exact ⟨by omega, by omega, by omega, by omega, by omega⟩)
  have C2 := Lib.hid (check_any (some ⟨g0, 0, none⟩) 4 5 (kev.take 4) _ W2 ((HV4.out.fr0 HF1.out).fr0 F2.out) (by omega))
  rw [kev_check4] at C2
  go_wp2_with fail
  clear hW2 hgt
  refine C2.out.mono ?_; rintro e w3 ⟨v, rfl, hbk, hf3⟩
  unfold BrkE at hbk
  simp only at hbk
  subst hbk
  have HF3 := Lib.hid hf3
  have F13 := Lib.hid (F2.out.trans hf3 (fun _ _ h => h))
  clear hf3 C2
  have KT3 := Lib.hid (KT.out.fr HF3.out (fun h => h))
  have HB3 := Lib.hid (HB.out.fr F13.out (fun h => h))
  have CA := Lib.hid (as_broken ⟨gt, 0, none⟩ ⟨gB, 0, none⟩ (.pointer none) w3 (((HE.out.fr HF1.out (fun h => h)).fr F13.out (fun h => h))) (KT3.out.cell 0) (KT3.out.frozen 0))
  go_wp2_with fail
  refine CA.out.mono ?_; rintro e w4 ⟨rfl, hf4, hc4⟩
  have HF4 := Lib.hid hf4
  have HB4 := Lib.hid (HB3.out.fr HF4.out (fun e => by have := HGT.out.1; have e' : gB = gt := e; omega))
  clear hf4 CA KT KT3
  have b0 : w4.cell? ⟨gB, 0, none⟩ = some (.int .i64 5) := HB4.out.cell 0
  have b1 : w4.cell? ⟨gB, 1, none⟩ = some (.string ⟨#[114, 101, 102]⟩) := HB4.out.cell 1
  have CI := Lib.hid (is_brk_any gB 8 8 w4 (HB4.out.cell 2))
  rw [show ((8 : Int) == 8) = true by decide] at CI
  have CE := Lib.hid (brkError_any gB 5 (wordW 5) w4 (by omega) (by show 3 ≤ 100; omega) (HB4.out.cell 0) (HB4.out.cell 1))
  rw [kev_text] at CE
  go_wp2_with fail
  refine CI.out.mono ?_; rintro e w5 ⟨rfl, rfl⟩
  clear CI
  go_wp2_with fail
  refine CE.out.mono ?_; rintro e w5 ⟨rfl, hf5⟩
  have HF5 := Lib.hid hf5
  clear hf5 CE b0 b1 hc4
  have HF35 : Hid (Fr (fun x => x = gt) w1 w5) := Lib.hid (((F13.out.mono (T := fun x => x = gt) (fun _ _ h => h.elim)).trans HF4.out (fun _ _ h => h)).trans HF5.out (fun _ _ h => h.elim))
  have HT5 : Hid (NamT w5) := Lib.hid ((HT.out.fr HF1.out (fun h => h)).fr HF35.out (fun e => by have := HGT.out.2.2.2.1; have e' : 1 = gt := e; omega))
  have CN := Lib.hid (name_any 18 w5 HT5.out)
  rw [show nameOf 18 = ⟨#[99, 104, 105, 108, 100, 101, 110, 100, 115]⟩ by kernel_rfl] at CN
  have CS := Lib.hid (status_any (some ⟨g0, 0, none⟩) 4 5 (kev.take 4) _ w5 ((HV4.out.fr0 HF1.out).fr HF35.out (fun k hk e => by have := HGT.out.2.1; have hk' : k = g0 := hk; have e' : k = gt := e; omega)) (by omega))
  rw [kev_status] at CS
  go_wp2_with fail
  refine CN.out.mono ?_; rintro e w6 ⟨rfl, rfl⟩
  clear CN
  go_wp2_with fail
  refine CS.out.mono ?_; rintro e w6 ⟨rfl, rfl⟩
  clear CS
  go_wp2
  go_ret
  exact ⟨rfl, (HFW.out.trans HF1.out (fun _ _ h => h)).trans HF35.out (fun x hx e => by have h1 := HGT.out.2.2.2.2; have h2 := HFW.out.size; have e' : x = gt := e; omega)⟩
end Go.Proofs.YtbopmboigcdjpaaDoor
