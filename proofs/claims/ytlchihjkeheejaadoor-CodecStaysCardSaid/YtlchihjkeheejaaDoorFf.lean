/- The walk of CodecStays. -/
import Derived.Test.YtlchihjkeheejaaDoorFe
namespace Go.Proofs.YtlchihjkeheejaaDoor
open Go.RowKit

theorem RdAt.fr {S : Nat → Prop} {w w' : World} {g : Nat} {A : Option Addr} {n c : Nat} {xs : List UInt8} {s : St} (h : RdAt w g A n c xs s) (hf : Fr S w w') (hg : ¬ S g) (hA : ∀ ad, A = some ad → 0 < n → ¬ S ad.block) : RdAt w' g A n c xs s := by
  cases s with
  | at_ k => exact ⟨h.1, h.2.imp fun _ h => h.imp fun _ h => h.fr hf hg hA⟩
  | bad er a wh => exact ⟨h.1, h.2.imp fun _ h => h.fr hf hg hA⟩
theorem RRAt.fr {S : Nat → Prop} {w w' : World} {g : Nat} {A : Option Addr} {n c : Nat} {xs : List UInt8} {s : St} (h : RRAt w g A n c xs s) (hf : Fr S w w') (hg : ¬ S g) (hA : ∀ ad, A = some ad → 0 < n → ¬ S ad.block) : RRAt w' g A n c xs s := by
  cases s with
  | at_ k => exact ⟨h.1, h.2.imp fun _ h => h.imp fun _ h => h.fr hf hg hA⟩
  | bad er a wh => exact ⟨h.1, h.2.imp fun _ h => h.fr hf hg hA⟩
/-- A reader's bytes lie in a block that there is. -/
theorem RdAt.src {w : World} {g : Nat} {A : Option Addr} {n c : Nat} {xs : List UInt8} {s : St} (h : RdAt w g A n c xs s) : ∀ ad, A = some ad → 0 < n → ad.block < w.heap.size := by
  have go : Rd8 w A xs → xs.length = n → ∀ ad, A = some ad → 0 < n → ad.block < w.heap.size := fun hr hn ad ha h0 => by
    obtain ⟨ad', e, _, hc⟩ := hr (by omega)
    rw [ha] at e
    injection e with e
    subst e
    exact World.block_lt_of_cell? w ⟨ad.block, ad.off + 0, none⟩ (hc 0 (by omega))
  cases s with
  | at_ k => obtain ⟨_, _, _, h⟩ := h; exact go h.rd h.len
  | bad er a wh => obtain ⟨_, _, h⟩ := h; exact go h.rd h.len

set_option maxRecDepth 100000 in
set_option maxHeartbeats 4000000 in
theorem stays_any (A : Option Addr) (n c : Nat) (xs : List UInt8) (most : Int) (w : World) (ht : Tab w) (hE : ErrT w) (hP : PowT w) (hr : Rd8 w A xs) (hn : xs.length = n) (hnc : n ≤ c) (hlt : ∀ ad, A = some ad → 0 < n → ad.block < w.heap.size) :
    Calls Tryd.prog 8 #[.slice A n c, .int .i64 most] w fun e w' => e = .returned (.bool true) ∧ Fr (fun _ => False) w w' := by
  have hEl := hE.lt
  have hPl := hP.lt
  generalize hB : w.heap.size = B at *
  have HB := Lib.hid hB
  clear hB
  have fin : ∀ {w'}, Nb B w w' → Fr (fun _ => False) w w' := fun hF => hF.mono (fun x hx h => by have h1 : B ≤ x := h; have h2 := HB.out; omega)
  have FIN := @Lib.hid _ @fin
  clear fin
  by_cases hm : (8192 : Int) < n
  · go_enter Tryd.func8, Tryd.ntmps8
    go_wp2_with fail
    refine (known_any _ ht hE).mono ?_; rintro e w1 ⟨rfl, hf1⟩
    go_wp2
    go_ret
    exact ⟨rfl, hf1⟩
  have hm' : (n : Int) ≤ 8192 := by omega
  have hb : (n : Int) ≤ 140737488355328 := by omega
  clear hm
  go_enter Tryd.func8, Tryd.ntmps8
  go_wp2_with fail
  refine (known_any _ ht hE).mono ?_; rintro e w1 ⟨rfl, hf1⟩
  have hF1 : Nb B w w1 := hf1.nb0 B
  have hs1 : B ≤ w1.heap.size := by have := hf1.size; have := HB.out; omega
  go_wp2_with fail
  refine (newReader_any A n c xs w1 (hr.fr hf1 (fun _ _ _ h => h)) hn (by omega)).mono ?_
  rintro e w2 ⟨g, A', c', rfl, hrd, hf2, hg1⟩
  have hF2 : Nb B w w2 := hF1.add (hf2.nb0 B)
  have hs2 : B ≤ w2.heap.size := Nat.le_trans hs1 hf2.size
  have hgB : B ≤ g := by omega
  have hglt : g < w2.heap.size := by obtain ⟨_, fat, what, h⟩ := hrd; exact h.bk.lt
  clear hf1 hf2 hF1 hg1 hs1
  have hq3 : Fr (fun _ => False) w2 (w2.alloc (.cells #[.slice A n c, .int .i64 0, .int .i64 0, .int .i64 0, .string ⟨#[]⟩] 73)) := (Fr.refl _ _).alloc _
  have hF3 : Nb B w (w2.alloc (.cells #[.slice A n c, .int .i64 0, .int .i64 0, .int .i64 0, .string ⟨#[]⟩] 73)) := hF2.add (hq3.nb0 B)
  have hrd3 := hrd.quiet hq3
  have hrr3 : RRAt (w2.alloc (.cells #[.slice A n c, .int .i64 0, .int .i64 0, .int .i64 0, .string ⟨#[]⟩] 73)) w2.heap.size A n c xs (.at_ 0) :=
    ⟨Nat.zero_le _, 0, ⟨#[]⟩, { bk := Bk.new _ _ _, rd := hr.fr hF3 (fun ad ha h0 h => by have h' : B ≤ ad.block := h; have := hlt ad ha (hn ▸ h0); omega), len := hn, cap := hnc, big := hb, apart := fun ad ha h0 h => by have := hlt ad ha h0; omega }⟩
  have hne : g ≠ w2.heap.size := by omega
  have hg2B : B ≤ w2.heap.size := hs2
  have hgE : g ≠ 1 := by omega
  have HA := Lib.hid hlt
  have HS := Lib.hid (fun ad (ha : A' = some ad) (h0 : 0 < n) => Nat.ne_of_lt (hrd.src ad ha h0))
  clear hr hrd hF2 hq3 hglt hlt hs2 hnc
  go_wp2_with fail
  generalize w2.alloc (.cells #[.slice A n c, .int .i64 0, .int .i64 0, .int .i64 0, .string ⟨#[]⟩] 73) = w3 at *
  generalize w2.heap.size = g2 at *
  have HE := Lib.hid (fun w' (hf : Nb B w w') => hE.fr hf (fun h => by have h' : B ≤ 1 := h; omega))
  have HP := Lib.hid (fun w' (hf : Nb B w w') => hP.fr hf (fun h => by have h' : B ≤ 2 := h; omega))
  have HGE := Lib.hid hgE
  have HNE := Lib.hid hne
  have HN := Lib.hid hn
  clear hE hP ht hgE hne hn
  go_loopw [7] (fun i wr => ∃ (k : Nat) (s : St), k ≤ n + 1 ∧ i = .int .i64 k ∧ Along n k s ∧ RdAt wr g A' n c' xs s ∧ RRAt wr g2 A n c xs s ∧ Nb B w wr) (fun i _ => n + 1 - (intOf i).toNat)
  case atStart => exact ⟨0, .at_ 0, by omega, rfl, ⟨by omega, by omega⟩, hrd3, hrr3, hF3⟩
  case round =>
    clear hrd3 hrr3 hF3
    obtain ⟨k, s, hk, rfl, hal, hrd, hrr, hF⟩ := hrel
    by_cases hkn : k ≤ n
    · have hkn' : (k : Int) ≤ n := by omega
      have hstep := Lib.hid (along_step HN.out hal)
      clear hal
      go_wp2_with fail
      refine (rInt_any hrd (HE.out _ hF) ⟨#[105]⟩ HGE.out).mono ?_; rintro e v1 ⟨rfl, hrd1, hf1⟩
      have hrr1 : RRAt v1 g2 A n c xs s := hrr.fr hf1 (fun h => HNE.out h.symm) (fun ad ha h0 h => by have := HA.out ad ha h0; have h' : ad.block = g := h; omega)
      have hF1 : Nb B w v1 := hF.add (hf1.mono (fun x _ h => by have h' : x = g := h; omega))
      go_wp2_with fail
      refine (refInt_any hrr1 ⟨#[105]⟩).mono ?_; rintro e v2 ⟨rfl, hrr2, hf2⟩
      have hrd2 : RdAt v2 g A' n c' xs (stInt xs ⟨#[105]⟩ s).2 := hrd1.fr hf2 (fun h => HNE.out h) (fun ad ha h0 h => HS.out ad ha h0 h)
      have hF2 : Nb B w v2 := hF1.add (hf2.mono (fun x _ h => by have h' : x = g2 := h; omega))
      generalize stInt xs ⟨#[105]⟩ s = q at *
      clear hrd hrr hF hrd1 hf1 hrr1 hF1 hf2
      go_wp2
      go_roundw
      case rel => exact ⟨k + 1, q.2, by omega, by go_num, hstep.out, hrd2, hrr2, hF2⟩
      case measure => simp [intOf]; omega
    · have hkn' : (n : Int) < k := by omega
      cases s with
      | at_ j => obtain ⟨h1, h2⟩ := hal; omega
      | bad er a wh =>
        obtain ⟨her, ⟨p, rfl, hp⟩, rfl⟩ := hal
        obtain ⟨er, rfl⟩ := Int.eq_ofNat_of_zero_le (show 0 ≤ er by omega)
        obtain ⟨he0, pos, hR⟩ := hrd
        obtain ⟨_, pos2, hQ⟩ := hrr
        have he1 : ((er : Int) == 0) = false := by rw [beq_eq_false_iff_ne]; exact he0
        have he2 : ((er : Int) != 0) = true := by rw [bne, he1]; rfl
        have he3 : (er == 0) = false := by rw [beq_eq_false_iff_ne]; omega
        have he4 : (er != 0) = true := by rw [bne, he3]; rfl
        have hbad4 : Bad4 er := her.elim .inl (fun h => .inr (.inl h))
        have hpl : p ≤ 9223372036854775807 := by omega
        go_wp2_with fail
        refine (refEnd_bad hQ he1).mono ?_; rintro e v1 ⟨rfl, hf1⟩
        have hF1 : Nb B w v1 := hF.add (hf1.nb0 B)
        have hR1 := hR.quiet hf1
        clear hQ hR hf1 hF
        have hBk := Bk.new v1 44 #[.int .i64 er, .int .i64 p, .string ⟨#[105]⟩]
        have hfa : Fr (fun _ => False) v1 (v1.alloc (.cells #[.int .i64 er, .int .i64 p, .string ⟨#[105]⟩] 44)) := (Fr.refl _ _).alloc _
        have hR2 := hR1.quiet hfa
        have hF2 := hF1.add (hfa.nb0 B)
        go_wp2_with fail
        generalize v1.alloc (.cells #[.int .i64 er, .int .i64 p, .string ⟨#[105]⟩] 44) = v2 at *
        generalize v1.heap.size = gf at *
        have MK := Lib.hid (fun w' (hf : Fr (fun _ => False) v2 w') => show Rdr w' g A' n c' xs pos er p ⟨#[105]⟩ ∧ (w'.cell? ⟨gf, 0, none⟩ = some (.int .i64 er) ∧ w'.cell? ⟨gf, 1, none⟩ = some (.int .i64 p) ∧ w'.cell? ⟨gf, 2, none⟩ = some (.string ⟨#[105]⟩)) ∧ ErrT w' ∧ PowT w' from
          ⟨hR2.quiet hf, ⟨(hBk.fr hf (fun h => h)).cell 0, (hBk.fr hf (fun h => h)).cell 1, (hBk.fr hf (fun h => h)).cell 2⟩, HE.out _ (hF2.add (hf.nb0 B)), HP.out _ (hF2.add (hf.nb0 B))⟩)
        have hm0 : v2.cell? ⟨gf, 0, none⟩ = some (.int .i64 er) := hBk.cell 0
        have hm1 : v2.cell? ⟨gf, 1, none⟩ = some (.int .i64 p) := hBk.cell 1
        have hm2 : v2.cell? ⟨gf, 2, none⟩ = some (.string ⟨#[105]⟩) := hBk.cell 2
        have HF2 := Lib.hid hF2
        clear hR1 hR2 hF1 hF2 hfa hBk
        have b1 : ((⟨#[105]⟩ : ByteArray).toList == (⟨#[105]⟩ : ByteArray).toList) = true := by simp
        have CS := Lib.hid (fun (fb : Nat) (w' : World) (hP : PowT w') (hE : ErrT w') (hf : Bk w' fb 91 #[.int .i64 er, .int .i64 p, .string ⟨#[105]⟩]) =>
          show Calls Tryd.prog 24 #[.iface 88 (.pointer (some ⟨fb, 0, none⟩)), .agg #[.int .i64 er, .int .i64 p, .string ⟨#[105]⟩]] w' fun e w'' => e = .returned (.bool true) ∧ Fr (fun _ => False) w' w'' from
          same_fault fb er p ⟨#[105]⟩ w' hbad4 hpl (by decide) hP hE hf)
        have CE := Lib.hid (fun w' (hR : Rdr w' g A' n c' xs pos er p ⟨#[105]⟩) => (rEnd_any (s := .bad er p ⟨#[105]⟩) ⟨he0, pos, hR⟩))
        clear hbad4 hpl her
        go_region_with (first
          | (go_at_call 32; refine (rInt_bad (MK.out _ (Fr.refl _ _).drew).1 he1 _).mono ?_; rintro e x1 ⟨rfl, hf1⟩; have hg1 : Fr (fun _ => False) v2 x1 := (Fr.refl (fun _ => False) v2).drew.trans hf1 (fun _ _ h => h))
          | (go_at_call 35; refine (rBetween_bad (MK.out _ hg1).1 he1 _ _ _).mono ?_; rintro e x2 ⟨rfl, hf2⟩; have hg2 : Fr (fun _ => False) v2 x2 := hg1.trans hf2 (fun _ _ h => h))
          | (go_at_call 36; refine (rBytes_bad (MK.out _ hg2).1 he1 _ _).mono ?_; rintro e x3 ⟨rfl, hf3⟩; have hg3 : Fr (fun _ => False) v2 x3 := hg2.trans hf3 (fun _ _ h => h); obtain ⟨y0, y1, y2⟩ := (MK.out _ hg3).2.1)
          | (go_at_call 37; refine (CE.out _ (MK.out _ hg5).1).mono ?_; rintro e x6 ⟨v, rfl, ⟨fb2, rfl, hb2, _⟩, hf6⟩; have hg6 : Fr (fun _ => False) v2 x6 := hg5.trans hf6 (fun _ _ h => h); obtain ⟨y0, y1, y2⟩ := (MK.out _ hg6).2.1)
          | (go_at_call 37; refine (CE.out _ (MK.out _ hg3).1).mono ?_; rintro e x4 ⟨v, rfl, ⟨fb1, rfl, hb1, _⟩, hf4⟩; have hg4 : Fr (fun _ => False) v2 x4 := hg3.trans hf4 (fun _ _ h => h); obtain ⟨y0, y1, y2⟩ := (MK.out _ hg4).2.1)
          | (go_at_call 24; refine (CS.out fb2 _ (MK.out _ hg6).2.2.2 (MK.out _ hg6).2.2.1 hb2).mono ?_; rintro e x7 ⟨rfl, hf7⟩; have hg7 : Fr (fun _ => False) v2 x7 := hg6.trans hf7 (fun _ _ h => h); obtain ⟨y0, y1, y2⟩ := (MK.out _ hg7).2.1)
          | (go_at_call 24; refine (CS.out fb1 _ (MK.out _ hg4).2.2.2 (MK.out _ hg4).2.2.1 hb1).mono ?_; rintro e x5 ⟨rfl, hf5⟩; have hg5 : Fr (fun _ => False) v2 x5 := hg4.trans hf5 (fun _ _ h => h); obtain ⟨y0, y1, y2⟩ := (MK.out _ hg5).2.1))
        all_goals
          go_wp2
          go_ret
          exact ⟨rfl, FIN.out (HF2.out.add (hg7.nb0 B))⟩
end Go.Proofs.YtlchihjkeheejaaDoor
