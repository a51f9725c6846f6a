/- The reference reads a frame. -/
import Derived.Test.YtlchihjkeheejaaDoorGb
import Derived.Test.YtlchihjkeheejaaDoorFd
import Derived.Deep.RegionWith
import Derived.IntWalk
import Derived.Deep.DeepCutAuto
namespace Go.Proofs.YtlchihjkeheejaaDoor
open Go.RowKit

/-- What the reference answers: the body in a new block, or nothing and the fault. -/
def RefRF (w : World) (r : RF) (e : Ending) (w' : World) : Prop :=
  match r with
  | .bad er at_ what => e = .returned (.tuple #[.slice none 0 0, .int .i64 0, .agg #[.int .i64 er, .int .i64 at_, .string what]]) ∧ Fr (fun _ => False) w w'
  | .good body n => ∃ A' c', e = .returned (.tuple #[.slice A' body.length c', .int .i64 n, .agg #[.int .i64 0, .int .i64 0, .string ⟨#[]⟩]]) ∧ Own8 w' 5 (.slice A' body.length c') body ∧ Fresh w w' (.slice A' body.length c')

theorem rrf_short (A : Option Addr) (n c : Nat) (xs : List UInt8) (w : World) (hn : xs.length = n) (hlt : (n : Int) < 8) :
    Calls Tryd.prog 20 #[.slice A n c] w (RefRF w (rdFrame xs)) := by
  have hE : rdFrame xs = .bad 7 0 sHead := by unfold rdFrame; rw [if_pos (by omega)]
  rw [hE]
  clear hE
  go_enter Tryd.func20, Tryd.ntmps20
  go_wp2
  refine bodyPost_ret (v := .tuple #[.slice none 0 0, .int .i64 0, .agg #[.int .i64 7, .int .i64 0, .string sHead]]) (by simp [results, Tryd.results20, go_sem, sHead]) rfl ⟨rfl, ?_⟩
  exact (Fr.refl _ _).alloc _

theorem rfour_le (a b c d : UInt8) : four (le4 a.toNat b.toNat c.toNat d.toNat) = [a, b, c, d] := by
  have h0 := a.toNat_lt
  have h1 := b.toNat_lt
  have h2 := c.toNat_lt
  have h3 := d.toNat_lt
  unfold four le4
  congr 1
  · apply UInt8.toNat_inj.1; rw [UInt8.toNat_ofNat', Nat.mod_mod_of_dvd]; omega; decide
  congr 1
  · apply UInt8.toNat_inj.1; rw [UInt8.toNat_ofNat', Nat.mod_mod_of_dvd]; omega; decide
  congr 1
  · apply UInt8.toNat_inj.1; rw [UInt8.toNat_ofNat', Nat.mod_mod_of_dvd]; omega; decide
  congr 1
  · apply UInt8.toNat_inj.1; rw [UInt8.toNat_ofNat', Nat.mod_mod_of_dvd]; omega; decide
theorem four_le32 {l : List UInt8} (h : 4 ≤ l.length) : four (le32 l) = l.take 4 := by
  match l, h with
  | a :: b :: c :: d :: r, _ => exact rfour_le a b c d
theorem rle32_four {x : Nat} (h : x < 4294967296) : le32 (four x) = x := by
  unfold le32 four le4
  simp only [List.getD, List.getElem?_cons_zero, List.getElem?_cons_succ, Option.getD_some, UInt8.toNat_ofNat']
  omega
/-- The sum's four bytes against those that stand there: as the numbers. -/
theorem four_eq {S : Nat} {l : List UInt8} (hS : S < 4294967296) (h : 4 ≤ l.length) : four S = l.take 4 ↔ S = le32 l := by
  constructor
  · intro e
    have := congrArg le32 e
    rw [rle32_four hS] at this
    rw [this]
    match l, h with
    | a :: b :: c :: d :: r, _ => rfl
  · intro e
    rw [e, four_le32 h]

theorem toL' (xs : List UInt8) : (strOf xs).toList = xs := by rw [ByteArray.toList_eq]; rfl

theorem le4_int (a b c d : Nat) : (a : Int) + (b : Int) * 256 + (c : Int) * 65536 + (d : Int) * 16777216 = ((le4 a b c d : Nat) : Int) := by unfold le4; omega

set_option maxRecDepth 100000 in
set_option maxHeartbeats 16000000 in
theorem rrf_long (b o n c : Nat) (xs : List UInt8) (w : World) (hr : Rd8 w (some ⟨b, o, none⟩) xs) (hn : xs.length = n) (hnc : (n : Int) ≤ c) (hb : n ≤ 17592186044416) (hlt : 8 ≤ (n : Int)) :
    Calls Tryd.prog 20 #[.slice (some ⟨b, o, none⟩) n c] w (RefRF w (rdFrame xs)) := by
  have E0 := Lib.hid (show ∀ q, ((strOf (four (crcOf (xs.take 4)))).toList == (strOf ((xs.drop 4).take 4)).toList) = q → (q = true ↔ crcOf (xs.take 4) = le32 (xs.drop 4)) from fun q hq => by
    rw [toL', toL'] at hq
    rw [← hq, beq_iff_eq]
    exact four_eq (by have := crcOf_le (xs.take 4); omega) (by simp; omega))
  have EF := Lib.hid (show rdFrame xs = if xs.length < 8 then .bad 7 0 sHead else if crcOf (xs.take 4) ≠ le32 (xs.drop 4) then .bad 9 0 sHead else if 1048576 < le32 xs then .bad 10 0 sLength
    else if xs.length < 12 + le32 xs then .bad 7 8 sBody else if crcOf ((xs.drop 8).take (le32 xs)) ≠ le32 (xs.drop (8 + le32 xs)) then .bad 9 8 sBody else .good ((xs.drop 8).take (le32 xs)) (12 + le32 xs) from rfl)
  have hle32 : le32 xs = le4 (xs[0]'(by omega)).toNat (xs[1]'(by omega)).toNat (xs[2]'(by omega)).toNat (xs[3]'(by omega)).toNat := by
    unfold le32
    simp [List.getD, show 0 < xs.length by omega, show 1 < xs.length by omega, show 2 < xs.length by omega, show 3 < xs.length by omega]
  have HL := Lib.hid hle32
  clear hle32
  have hW : Fr (fun _ => False) w (w.alloc (.cells #[.int .i64 0, .int .i64 0, .string ⟨#[]⟩] 44)) := (Fr.refl _ _).alloc _
  have hrW := hr.fr hW (fun _ _ _ h => h)
  have hBW : Bk (w.alloc (.cells #[.int .i64 0, .int .i64 0, .string ⟨#[]⟩] 44)) w.heap.size 44 #[.int .i64 0, .int .i64 0, .string ⟨#[]⟩] := Bk.new w _ _
  have hle := crcOf_le (xs.take 4)
  have hab : ∀ ad, some (⟨b, o, none⟩ : Addr) = some ad → 0 < xs.length → ad.block ≠ w.heap.size := fun ad ha h0 h => by
    injection ha with ha; subst ha
    obtain ⟨ad', e, _, hc⟩ := hr h0
    injection e with e; subst e
    have := World.block_lt_of_cell? w ⟨b, o + 0, none⟩ (hc 0 h0)
    have h' : b = w.heap.size := h
    have h2 : b < w.heap.size := this
    omega
  have HAB := Lib.hid hab
  have HR := Lib.hid (fun w' (hf : Fr (fun _ => False) (w.alloc (.cells #[.int .i64 0, .int .i64 0, .string ⟨#[]⟩] 44)) w') => hrW.fr hf (fun _ _ _ h => h))
  have l1 : (xs.take 4).length = 4 := by simp; omega
  have l2 : ((xs.drop 4).take 4).length = 4 := by simp; omega
  clear hrW hab
  obtain ⟨q, hq⟩ : ∃ q, ((strOf (four (crcOf (xs.take 4)))).toList == (strOf ((xs.drop 4).take 4)).toList) = q := ⟨_, rfl⟩
  have EQ := Lib.hid (E0.out q hq)
  clear E0
  go_enter Tryd.func20, Tryd.ntmps20
  go_upto_region 3 with (fail)
  generalize w.alloc (.cells #[.int .i64 0, .int .i64 0, .string ⟨#[]⟩] 44) = W at *
  generalize hg0 : w.heap.size = g0 at *
  have HG := Lib.hid hg0
  clear hg0
  have SB := Lib.hid (fun w' (hf : Fr (fun _ => False) W w') (cc : Nat) => run_str8 Tryd.t8 Tryd.underlying5 Tryd.underlying9 (n := 4) cc ((HR.out w' hf).part 4 4) l2)
  have FIN := Lib.hid (fun w' (hf : Fr (fun k => k = g0) W w') => show Fr (fun _ => False) w w' from ((hW.mono (fun _ _ h => h.elim)).trans hf (fun _ _ h => h)).mono (fun x hx h => by have h' : x = g0 := h; have := HG.out; omega))
  have i1 : (4 : Int) ≤ c := by omega
  have i2 : (8 : Int) ≤ c := by omega
  go_cut [19] (fun s19 wx => s19 = .bool (!q) ∧ Fr (fun _ => False) W wx)
  case first =>
    have sB := SB.out W.drew (Fr.refl _ _).drew
    have CS := Lib.hid (refSum_any (some ⟨b, o, none⟩) 4 c _ W.drew ((HR.out _ (Fr.refl _ _).drew).front 4) l1 (by omega))
    go_region_with (first
      | (go_at_call 22; refine CS.out.mono ?_; rintro e _ ⟨rfl, rfl⟩)
      | (go_at_call 45; refine (refFour_any (crcOf (xs.take 4)) _ hle).mono ?_; rintro e w2 ⟨g2, rfl, hr2, hf2, _⟩; have hg2 : Fr (fun _ => False) W w2 := (Fr.refl (fun _ => False) W).drew.trans hf2 (fun _ _ h => h); have s4 := run_str8 Tryd.t8 Tryd.underlying5 Tryd.underlying9 (n := 4) 4 hr2 rfl; have sB2 := SB.out w2 hg2))
    all_goals
      go_wp2_with fail
      go_meet
      exact ⟨rfl, hg2⟩
  case rest =>
    obtain ⟨rfl, hf⟩ := hcut
    clear SB hq l1 l2 hle
    have hBx := hBW.fr hf (fun h => h)
    have hrx := HR.out _ hf
    have HF := Lib.hid hf
    clear hf hBW HR
    have m0 : wc.cell? ⟨g0, 0, none⟩ = some (.int .i64 0) := hBx.cell 0
    have m1 : wc.cell? ⟨g0, 1, none⟩ = some (.int .i64 0) := hBx.cell 1
    have m2 : wc.cell? ⟨g0, 2, none⟩ = some (.string ⟨#[]⟩) := hBx.cell 2
    have n0 := hBx.frozen 0
    have n1 := hBx.frozen 1
    have n2 := hBx.frozen 2
    cases q with
    | false =>
      have hE := EF.out.trans (by rw [if_neg (show ¬ xs.length < 8 by omega), if_pos (fun h => by have := EQ.out.2 h; cases this)])
      have HE := Lib.hid hE
      clear hE
      go_wp2
      refine bodyPost_ret (v := .tuple #[.slice none 0 0, .int .i64 0, .agg #[.int .i64 9, .int .i64 0, .string sHead]]) (by simp [results, Tryd.results20, go_sem, sHead, m0, m1, m2]) rfl ?_
      rw [HE.out]
      exact ⟨rfl, FIN.out _ ((((HF.out.mono (fun _ _ h => h.elim) : Fr (fun k => k = g0) W wc).setCell (fun _ => rfl) _).setCell (fun _ => rfl) _).setCell (fun _ => rfl) _)⟩
    | true =>
      have hE := EF.out.trans (by rw [if_neg (show ¬ xs.length < 8 by omega), if_neg (fun h => h (EQ.out.1 rfl))])
      have HE := Lib.hid hE
      clear hE EF EQ
      have b0 := (xs[0]'(by omega)).toNat_lt
      have b1 := (xs[1]'(by omega)).toNat_lt
      have b2 := (xs[2]'(by omega)).toNat_lt
      have b3 := (xs[3]'(by omega)).toNat_lt
      obtain ⟨ad, e, _, hc⟩ := hrx (by omega)
      injection e with e; subst e
      have c0 : wc.cell? ⟨b, o, none⟩ = some (.int .u8 (xs[0]'(by omega)).toNat) := hc 0 (by omega)
      have c1 : wc.cell? ⟨b, o + 1, none⟩ = some (.int .u8 (xs[1]'(by omega)).toNat) := hc 1 (by omega)
      have c2 : wc.cell? ⟨b, o + 2, none⟩ = some (.int .u8 (xs[2]'(by omega)).toNat) := hc 2 (by omega)
      have c3 : wc.cell? ⟨b, o + 3, none⟩ = some (.int .u8 (xs[3]'(by omega)).toNat) := hc 3 (by omega)
      have HLE := Lib.hid (le4_int (xs[0]'(by omega)).toNat (xs[1]'(by omega)).toNat (xs[2]'(by omega)).toNat (xs[3]'(by omega)).toNat)
      rw [← HL.out] at HLE
      have hlim := le32_lt xs
      generalize (xs[0]'(by omega)).toNat = x0 at *
      generalize (xs[1]'(by omega)).toNat = x1 at *
      generalize (xs[2]'(by omega)).toNat = x2 at *
      generalize (xs[3]'(by omega)).toNat = x3 at *
      clear hc
      have j0 : (0 : Int) < n := by omega
      have j1 : (1 : Int) < n := by omega
      have j2 : (2 : Int) < n := by omega
      have j3 : (3 : Int) < n := by omega
      go_wp2_with fail
      go_quiet (fail)
      rw [HLE.out]
      clear c0 c1 c2 c3 b0 b1 b2 b3 j0 j1 j2 j3 HLE HL i1
      generalize hL : le32 xs = L at *
      have HL := Lib.hid hL
      clear hL
      have hF2 : Fr (fun k => k = g0) W (wc.drewN nq) := (HF.out.mono (fun _ _ h => h.elim) : Fr (fun k => k = g0) W wc).drewN nq
      have HF2 := Lib.hid hF2
      clear hF2
      have d0 : (wc.drewN nq).cell? ⟨g0, 0, none⟩ = some (.int .i64 0) := m0
      have d1 : (wc.drewN nq).cell? ⟨g0, 1, none⟩ = some (.int .i64 0) := m1
      have d2 : (wc.drewN nq).cell? ⟨g0, 2, none⟩ = some (.string ⟨#[]⟩) := m2
      have e0 : (wc.drewN nq).frozen? ⟨g0, 0, none⟩ = false := n0
      have e1 : (wc.drewN nq).frozen? ⟨g0, 1, none⟩ = false := n1
      have e2 : (wc.drewN nq).frozen? ⟨g0, 2, none⟩ = false := n2
      have hry : Rd8 (wc.drewN nq) (some ⟨b, o, none⟩) xs := hrx
      have hBy : Bk (wc.drewN nq) g0 44 #[.int .i64 0, .int .i64 0, .string ⟨#[]⟩] := hBx
      have hF0 : Fr (fun _ => False) W (wc.drewN nq) := HF.out.drewN nq
      have HF0 := Lib.hid hF0
      clear m0 m1 m2 n0 n1 n2 hrx hBx HF hF0
      generalize wc.drewN nq = wd at *
      by_cases h1 : 1048576 < L
      · have h1' : (1048576 : Int) < L := by omega
        go_wp2
        refine bodyPost_ret (v := .tuple #[.slice none 0 0, .int .i64 0, .agg #[.int .i64 10, .int .i64 0, .string sLength]]) (by simp [results, Tryd.results20, go_sem, sLength, d0, d1, d2]) rfl ?_
        rw [HE.out, if_pos h1]
        exact ⟨rfl, FIN.out _ (((HF2.out.setCell (fun _ => rfl) _).setCell (fun _ => rfl) _).setCell (fun _ => rfl) _)⟩
      have h1' : (L : Int) ≤ 1048576 := by omega
      by_cases h2 : xs.length < 12 + L
      · have h2' : (n : Int) < 12 + L := by omega
        go_wp2
        refine bodyPost_ret (v := .tuple #[.slice none 0 0, .int .i64 0, .agg #[.int .i64 7, .int .i64 8, .string sBody]]) (by simp [results, Tryd.results20, go_sem, sBody, d0, d1, d2]) rfl ?_
        rw [HE.out, if_neg h1, if_pos h2]
        exact ⟨rfl, FIN.out _ (((HF2.out.setCell (fun _ => rfl) _).setCell (fun _ => rfl) _).setCell (fun _ => rfl) _)⟩
      have h2' : (12 : Int) + L ≤ n := by omega
      have k1 : (8 : Int) ≤ 8 + L := by omega
      have k2 : (8 : Int) + L ≤ c := by omega
      have k3 : (8 : Int) + L ≤ 12 + L := by omega
      have k4 : (12 : Int) + L ≤ c := by omega
      go_upto_region 11 with (fail)
      rw [show 8 + L - 8 = L by omega]
      have lb : ((xs.drop 8).take L).length = L := by simp; omega
      have lt : ((xs.drop (8 + L)).take 4).length = 12 + L - (8 + L) := by simp; omega
      have hle := crcOf_le ((xs.drop 8).take L)
      obtain ⟨q, hq⟩ : ∃ q, ((strOf (four (crcOf ((xs.drop 8).take L)))).toList == (strOf ((xs.drop (8 + L)).take 4)).toList) = q := ⟨_, rfl⟩
      have EQ := Lib.hid (show q = true ↔ crcOf ((xs.drop 8).take L) = le32 (xs.drop (8 + L)) from by
        rw [toL', toL'] at hq
        rw [← hq, beq_iff_eq]
        exact four_eq (by omega) (by simp; omega))
      have SB := Lib.hid (fun w' (hf : Fr (fun _ => False) wd w') (cc : Nat) => run_str8 Tryd.t8 Tryd.underlying5 Tryd.underlying9 (n := 12 + L - (8 + L)) cc ((hry.fr hf (fun _ _ _ h => h)).part (8 + L) 4) lt)
      have LB := Lib.hid lb
      have CS := Lib.hid (refSum_any (some ⟨b, o + 8, none⟩) L (c - 8) _ wd.drew ((hry.fr (Fr.refl (fun _ => False) wd).drew (fun _ _ _ h => h)).part 8 L) lb (by omega))
      clear lb lt
      go_cut [67] (fun s67 wx => s67 = .bool (!q) ∧ Fr (fun _ => False) wd wx)
      case first =>
        have sB := SB.out wd.drew (Fr.refl _ _).drew
        have r1 : IntKind.i64.wrap (8 + (L : Int)) = 8 + L := IntWalk.i64_in _ (by omega)
        have r2 : IntKind.i64.wrap (12 + (L : Int)) = 12 + L := IntWalk.i64_in _ (by omega)
        have r3 : (0 : Int) ≤ 8 + L := by omega
        have r4 : (8 + (L : Int)).toNat = 8 + L := by omega
        have r5 : (12 + (L : Int)).toNat = 12 + L := by omega
        go_region_with (first
          | (go_at_call 22; refine CS.out.mono ?_; rintro e _ ⟨rfl, rfl⟩)
          | (go_at_call 45; refine (refFour_any (crcOf ((xs.drop 8).take L)) _ hle).mono ?_; rintro e w2 ⟨g2, rfl, hr2, hf2, _⟩; have hg2 : Fr (fun _ => False) wd w2 := (Fr.refl (fun _ => False) wd).drew.trans hf2 (fun _ _ h => h); have s4 := run_str8 Tryd.t8 Tryd.underlying5 Tryd.underlying9 (n := 4) 4 hr2 rfl; have sB2 := SB.out w2 hg2))
        all_goals
          go_wp2_with fail
          go_meet
          exact ⟨rfl, hg2⟩
      case rest =>
        obtain ⟨rfl, hf⟩ := hcut
        have hBz := hBy.fr hf (fun h => h)
        have hrz := hry.fr hf (fun _ _ _ h => h)
        have hFz := (HF0.out.trans hf (fun _ _ h => h))
        have hFz2 : Fr (fun k => k = g0) W _ := hFz.mono (fun _ _ h => h.elim)
        have z0 : _ = some (Value.int .i64 0) := hBz.cell 0
        have z1 : _ = some (Value.int .i64 0) := hBz.cell 1
        have z2 : _ = some (Value.string ⟨#[]⟩) := hBz.cell 2
        have y0 := hBz.frozen 0
        have y1 := hBz.frozen 1
        have y2 := hBz.frozen 2
        have HZ := Lib.hid hFz2
        clear d0 d1 d2 e0 e1 e2 hq hle CS SB hry hBy hFz2 hFz
        cases q with
        | false =>
          have hE2 := Lib.hid (HE.out.trans (by rw [if_neg h1, if_neg h2, if_pos (fun h => by have := EQ.out.2 h; cases this)]))
          go_wp2
          refine bodyPost_ret (v := .tuple #[.slice none 0 0, .int .i64 0, .agg #[.int .i64 9, .int .i64 8, .string sBody]]) (by simp [results, Tryd.results20, go_sem, sBody, z0, z1, z2]) rfl ?_
          rw [hE2.out]
          exact ⟨rfl, FIN.out _ (((HZ.out.setCell (fun _ => rfl) _).setCell (fun _ => rfl) _).setCell (fun _ => rfl) _)⟩
        | true =>
          have hE2 := Lib.hid (HE.out.trans (by rw [if_neg h1, if_neg h2, if_neg (fun h => h (EQ.out.1 rfl))]))
          clear HE EQ
          have ho : Own8 (wc.alloc (.cells #[] 5)) 5 (.slice (some ⟨wc.heap.size, 0, none⟩) 0 0) [] := Own8.fresh wc _ #[] 0 rfl (by unfold maxLen; omega)
          have hrq : Rd8 (wc.alloc (.cells #[] 5)) (some ⟨b, o + 8, none⟩) ((xs.drop 8).take L) := (hrz.fr ((Fr.refl (fun _ => False) wc).alloc _) (fun _ _ _ h => h)).part 8 L
          have hgz : g0 < wc.heap.size := hBz.lt
          have own1 : ∀ k, (Value.slice (some ⟨wc.heap.size, 0, none⟩) 0 0).ownBlock = some k → k = wc.heap.size := fun k hk => by
            have : wc.heap.size = k := by injection hk
            exact this.symm
          have after : ∀ A2 c2 w2, Fr (fun k => (Value.slice (some ⟨wc.heap.size, 0, none⟩) 0 0).ownBlock = some k) (wc.alloc (.cells #[] 5)) w2 → Moved (wc.alloc (.cells #[] 5)) (.slice (some ⟨wc.heap.size, 0, none⟩) 0 0) (.slice A2 L c2) →
              (w2.cell? ⟨g0, 0, none⟩ = some (.int .i64 0) ∧ w2.cell? ⟨g0, 1, none⟩ = some (.int .i64 0) ∧ w2.cell? ⟨g0, 2, none⟩ = some (.string ⟨#[]⟩)) ∧ (w2.frozen? ⟨g0, 0, none⟩ = false ∧ w2.frozen? ⟨g0, 1, none⟩ = false ∧ w2.frozen? ⟨g0, 2, none⟩ = false) ∧
              Fr (fun k => k = g0) W w2 ∧ (∀ k, (Value.slice A2 L c2).ownBlock = some k → g0 < k) := fun A2 c2 w2 h1 h2 => by
            have hq : Fr (fun k => k = wc.heap.size) wc w2 := ((Fr.refl (fun k => k = wc.heap.size) wc).alloc _).trans h1 (fun x _ e => own1 x e)
            have hb2 := hBz.fr hq (fun h => by have h' : g0 = wc.heap.size := h; omega)
            refine ⟨⟨hb2.cell 0, hb2.cell 1, hb2.cell 2⟩, ⟨hb2.frozen 0, hb2.frozen 1, hb2.frozen 2⟩, HZ.out.trans (hq.mono (T := fun _ => False) (fun x hx h => by have h' : x = wc.heap.size := h; omega)) (fun _ _ h => h.elim), fun k hk => ?_⟩
            rcases h2 with e | ⟨x, e, hx⟩
            · rw [own1 k (e.symm.trans hk)]; exact hgz
            · rw [e] at hk; injection hk with hk; simp at hx; omega
          have AF := Lib.hid after
          clear after own1 z0 z1 z2 y0 y1 y2
          generalize (xs.drop 8).take L = body at *
          have LL := Lib.hid (show ([] : List UInt8).length + body.length = L by simp [LB.out])
          go_wp2_with (at_builtin; (refine wpList_append8s _ rfl (.tmp 69) (.tmp 70) Tryd.t8 rfl (.slice (some ⟨wc.heap.size, 0, none⟩) 0 0) [] rfl ho (some ⟨b, o + 8, none⟩) L (c - 8) body rfl LB.out hrq (by rw [LL.out]; omega) ?_; intro A2 c2 w2 ho2 hf2 hm2; rw [LL.out] at ho2 hm2 ⊢; obtain ⟨⟨z0, z1, z2⟩, ⟨y0, y1, y2⟩, hFw, hgk⟩ := AF.out _ _ _ hf2 hm2; clear hf2 hm2))
          refine bodyPost_ret (v := .tuple #[.slice A2 L c2, .int .i64 (12 + L), .agg #[.int .i64 0, .int .i64 0, .string ⟨#[]⟩]]) (by simp [results, Tryd.results20, go_sem, z0, z1, z2]) rfl ?_
          rw [hE2.out]
          have hset := ((((Fr.refl (fun k => k = g0) w2).setCell (p := ⟨g0, 0, none⟩) (fun _ => rfl) (.int .i64 0)).setCell (p := ⟨g0, 1, none⟩) (fun _ => rfl) (.int .i64 0)).setCell (p := ⟨g0, 2, none⟩) (fun _ => rfl) (.string ⟨#[]⟩))
          refine ⟨A2, c2, ?_, ?_, ?_, ?_⟩
          · rw [LB.out, show ((12 + L : Nat) : Int) = 12 + (L : Int) by omega]
          · rw [LB.out]
            exact ho2.fr hset (fun k hk h => by have := hgk k hk; have h' : k = g0 := h; omega)
          · exact FIN.out _ (hFw.trans hset (fun _ _ h => h))
          · intro k hk
            have := hgk k (by rw [LB.out] at hk; exact hk)
            have := HG.out
            omega
theorem refReadFrame_any (A : Option Addr) (n c : Nat) (xs : List UInt8) (w : World) (hr : Rd8 w A xs) (hs : ∀ ad, A = some ad → 0 < n → ad.spot = none) (hn : xs.length = n) (hnc : (n : Int) ≤ c) (hb : n ≤ 17592186044416) :
    Calls Tryd.prog 20 #[.slice A n c] w (RefRF w (rdFrame xs)) := by
  by_cases hlt : (n : Int) < 8
  · exact rrf_short A n c xs w hn hlt
  · obtain ⟨ad, rfl, hsp, _⟩ := hr (by omega)
    obtain ⟨b, o, sp⟩ := ad
    cases hsp
    exact rrf_long b o n c xs w hr hn hnc hb (by omega)

/-- A frame, and whatever behind it, is read as its body. -/
theorem rdFrame_frameOf (xs ys : List UInt8) (h : xs.length ≤ 8192) : rdFrame (frameOf xs ++ ys) = .good xs (12 + xs.length) := by
  have hm : xs.length % 4294967296 = xs.length := Nat.mod_eq_of_lt (by omega)
  have hf : ∀ x l, le32 (four x ++ l) = le32 (four x) := fun x l => rfl
  have e : frameOf xs ++ ys = four xs.length ++ (four (crcOf (four xs.length)) ++ (xs ++ (four (crcOf xs) ++ ys))) := by
    unfold frameOf; rw [hm]; simp [List.append_assoc]
  have l4 : ∀ x, (four x).length = 4 := fun _ => rfl
  have hS1 : crcOf (four xs.length) < 4294967296 := by have := crcOf_le (four xs.length); omega
  have hS2 : crcOf xs < 4294967296 := by have := crcOf_le xs; omega
  have d4 : (frameOf xs ++ ys).drop 4 = four (crcOf (four xs.length)) ++ (xs ++ (four (crcOf xs) ++ ys)) := by rw [e]; rfl
  have d8 : (frameOf xs ++ ys).drop 8 = xs ++ (four (crcOf xs) ++ ys) := by rw [e]; rfl
  have t4 : (frameOf xs ++ ys).take 4 = four xs.length := by rw [e]; rfl
  have hL : le32 (frameOf xs ++ ys) = xs.length := by rw [e, hf, rle32_four (by omega)]
  have dn : (frameOf xs ++ ys).drop (8 + xs.length) = four (crcOf xs) ++ ys := by
    rw [← List.drop_drop, d8, List.drop_left]
  have tn : ((frameOf xs ++ ys).drop 8).take xs.length = xs := by rw [d8, List.take_left]
  have hlen : (frameOf xs ++ ys).length = 12 + xs.length + ys.length := by rw [e]; simp [l4]; omega
  unfold rdFrame
  rw [hL, tn, t4, d4, hf, rle32_four hS1, dn, hf, rle32_four hS2, if_neg (by omega), if_neg (by simp), if_neg (by omega), if_neg (by omega), if_neg (by simp)]
end Go.Proofs.YtlchihjkeheejaaDoor
