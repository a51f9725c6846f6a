/- whole: what a reader makes of bytes, item by item. -/
import Derived.Test.YtbcnmofmjabcoaaDoorDa
import Derived.Deep.RegionWith
namespace Go.Proofs.YtbcnmofmjabcoaaDoor
open Go.RowKit

def sB : ByteArray := ⟨#[98]⟩
def sN : ByteArray := ⟨#[110]⟩
def stepI (xs : List UInt8) (r : Bool × St) (x : It) : Bool × St :=
  if x.isB then (((stBytes xs sB 8192 r.2).1 == x.bs) && r.1, (stBytes xs sB 8192 r.2).2)
  else (((stInt xs sN r.2).1 == x.num) && r.1, (stInt xs sN r.2).2)
def goI (xs : List UInt8) (l : List It) : Bool × St := l.foldl (stepI xs) (true, .at_ 0)
def wholeOf (xs : List UInt8) (l : List It) : Bool := (stEnd xs (goI xs l).2).isNone && (goI xs l).1
theorem goI_take (xs : List UInt8) (l : List It) (k : Nat) (h : k < l.length) : goI xs (l.take (k + 1)) = stepI xs (goI xs (l.take k)) l[k] := by
  unfold goI
  rw [List.take_succ_eq_append_getElem h, List.foldl_append]
  rfl

theorem toL (xs : List UInt8) : (strOf xs).toList = xs := by rw [ByteArray.toList_eq]; rfl

set_option maxRecDepth 100000 in
set_option maxHeartbeats 4000000 in
theorem whole_any (A A2 : Option Addr) (n c m c2 : Nat) (xs : List UInt8) (l : List It) (w : World) (hE : ErrT w) (hr : Rd8 w A xs) (hn : xs.length = n) (hb : (n : Int) ≤ 17592186044416) (h : Its w A2 l) (hm : l.length = m) (hmb : (m : Int) ≤ 140737488355328) :
    Calls Tryd.prog 30 #[.slice A n c, .slice A2 m c2] w fun e w' => e = .returned (.bool (wholeOf xs l)) ∧ Fr (fun _ => False) w w' := by
  have hEl := hE.lt
  generalize hB : w.heap.size = B at *
  have HB := Lib.hid hB
  clear hB
  generalize hW : wholeOf xs l = W
  have HW := Lib.hid hW
  clear hW
  go_enter Tryd.func30, Tryd.ntmps30
  go_wp2_with fail
  refine (newReader_any A n c xs w hr hn (by omega)).mono ?_; rintro e w1 ⟨g, A1, c1, rfl, hrd, hf1, hg⟩
  rw [HB.out] at hg
  have hF1 : Nb B w w1 := hf1.nb0 B
  clear hf1
  go_wp2_with fail
  go_loopw [6, 7] (fun ok i wr => ∃ (k : Nat) (r : Bool × St), (k : Int) ≤ m ∧ i = .int .i64 k ∧ ok = .bool r.1 ∧ r = goI xs (l.take k) ∧ RdAt wr g A1 n c1 xs r.2 ∧ Nb B w wr) (fun _ i _ => m - (intOf i).toNat)
  case atStart => exact ⟨0, (true, .at_ 0), by omega, rfl, rfl, rfl, hrd, hF1⟩
  case round =>
    obtain ⟨k, r, hk, rfl, rfl, hr2, hrk, hFk⟩ := hrel
    have HR := Lib.hid hr2
    clear hr2
    have hEk := hE.fr hFk (fun h => by have h' : B ≤ 1 := h; omega)
    have hgk : g ≠ 1 := by omega
    by_cases hlt : (k : Int) < m
    · obtain ⟨g2, o2, rfl, hx⟩ := h (by omega)
      have hdl0 := (hx k (by omega)).lt
      have hi := (hx k (by omega)).fr hFk (fun x hx' e => by have := HB.out; omega)
      have hgi := Lib.hid (goI_take xs l k (by omega))
      generalize (l[k]'(by omega)) = it at *
      obtain ⟨isB, num, ad, cp, bs⟩ := it
      have d0 := hi.c0
      have d1 := hi.c1
      have d2 := hi.c2
      have dr := hi.rd
      have dl := hi.len
      simp only at d0 d1 d2 dr dl hdl0
      have hg2 : g2 < B := by have h1 := World.block_lt_of_cell? w _ (hx 0 (by omega)).c0; have h2 := HB.out; have h3 : g2 < w.heap.size := h1; omega
      have hdl : ∀ ad', ad = some ad' → 0 < bs.length → ad'.block < wr.heap.size ∧ ad'.block < B := fun ad' e h0 => ⟨hi.lt ad' e h0, by have := hdl0 ad' e h0; have h2 := HB.out; omega⟩
      have mk : ∀ {w' : World}, Nb B wr w' → w'.cell? ⟨g2, o2 + k * 3 + 1, none⟩ = some (.int .i64 num) ∧ Nb B wr w' := fun {w'} hF =>
        ⟨(hF.cell (World.block_lt_of_cell? wr _ d1) (fun e => by have e' : B ≤ g2 := e; omega)).trans d1, hF⟩
      have mkB : ∀ {w' : World}, Nb B wr w' → w'.cell? ⟨g2, o2 + k * 3 + 2, none⟩ = some (.slice ad bs.length cp) ∧ (convert 23 9 (.slice ad bs.length cp)).run Tryd.prog w' = .ok (.string (strOf bs)) w' ∧ Nb B wr w' := fun {w'} hF =>
        ⟨(hF.cell (World.block_lt_of_cell? wr _ d2) (fun e => by have e' : B ≤ g2 := e; omega)).trans d2, run_str8 Tryd.t8 Tryd.underlying5 Tryd.underlying9 cp (dr.fr hF (fun ad' e h0 e' => by have e2 : B ≤ ad'.block := e'; have := (hdl ad' e h0).2; omega)) rfl, hF⟩
      have MK := @Lib.hid _ @mk
      have MKB := @Lib.hid _ @mkB
      clear hx mk mkB hi hdl hdl0
      cases isB
      · generalize hV : (stInt xs sN r.2).1 = V at *
        have HV := Lib.hid hV
        clear hV
        by_cases he : (V == num) = true
        · go_wp2_with fail
          go_region_held3 (fun w' => w'.cell? ⟨g2, o2 + k * 3 + 1, none⟩ = some (.int .i64 num) ∧ Nb B wr w')
            (first | exact MK.out (Fr.refl _ _).drew | exact MK.out hN2)
            (first | (go_at_call 32; refine (rInt_any (hrk.quiet (Fr.refl _ _).drew) (hEk.fr (Fr.refl (fun _ => False) _).drew (fun h => h)) sN hgk).mono ?_; rintro e w2 ⟨rfl, hr2, hf2⟩; have hN2 : Nb B wr w2 := (Fr.refl (fun x => B ≤ x) wr).drew.trans hf2 (fun x _ e => by have e' : x = g := e; omega); rw [HV.out]))
          go_wp2
          go_roundw
          case rel =>
            have hgo := hgi.out
            rw [← HR.out] at hgo
            refine ⟨k + 1, _, by omega, by go_num, ?_, hgo.symm, ?_, hFk.add hN2⟩
            · simp [stepI, HV.out, he]
            · simpa [stepI] using hr2
          case measure => simp [intOf]; omega
        · have he' : (V == num) = false := by simpa using he
          clear he
          go_wp2_with fail
          first | go_region_with (go_at_call 32; refine (rInt_any (hrk.quiet (Fr.refl _ _).drew) (hEk.fr (Fr.refl (fun _ => False) _).drew (fun h => h)) sN hgk).mono ?_; rintro e w2 ⟨rfl, hr2, hf2⟩; have hN2 : Nb B wr w2 := (Fr.refl (fun x => B ≤ x) wr).drew.trans hf2 (fun x _ e => by have e' : x = g := e; omega); rw [HV.out]; have d1w := (MK.out hN2).1) | fail
          all_goals
            go_wp2
            go_roundw
            case rel =>
              have hgo := hgi.out
              rw [← HR.out] at hgo
              refine ⟨k + 1, _, by omega, by go_num, ?_, hgo.symm, ?_, hFk.add hN2⟩
              · simp [stepI, HV.out, he']
              · simpa [stepI] using hr2
            case measure => simp [intOf]; omega
      · generalize hV : (stBytes xs sB 8192 r.2).1 = V at *
        have HV := Lib.hid hV
        clear hV
        by_cases he : ((strOf V).toList == (strOf bs).toList) = true
        · skip
          have s1 := (MKB.out (Fr.refl _ _).drew).1
          have s2 := (MKB.out (Fr.refl _ _).drew).2.1
          go_wp2_with fail
          first | go_region_with (go_at_call 36; refine (rBytes_any (hrk.quiet (Fr.refl _ _).drew) (hEk.fr (Fr.refl (fun _ => False) _).drew (fun h => h)) sB hgk 8192).mono ?_; rw [HV.out]; rintro e w2 ⟨v, rfl, ⟨A4, c4, rfl, ho4, _⟩, hr2, hf2⟩; have hN2 : Nb B wr w2 := (Fr.refl (fun x => B ≤ x) wr).drew.trans hf2 (fun x _ e => by have e' : x = g := e; omega); have s4 := run_str8 Tryd.t8 Tryd.underlying5 Tryd.underlying9 c4 ho4.rd rfl; have s5 := (MKB.out hN2).1; have s6 := (MKB.out hN2).2.1) | fail
          all_goals
            go_wp2
            go_roundw
            case rel =>
              have hgo := hgi.out
              rw [← HR.out] at hgo
              rw [toL, toL] at he
              refine ⟨k + 1, _, by omega, by go_num, ?_, hgo.symm, ?_, hFk.add hN2⟩
              · simp only [stepI, HV.out, if_true]
                rw [he]
                rfl
              · simpa [stepI] using hr2
            case measure => simp [intOf]; omega
        · have he' : ((strOf V).toList == (strOf bs).toList) = false := by simpa using he
          clear he
          have s1 := (MKB.out (Fr.refl _ _).drew).1
          have s2 := (MKB.out (Fr.refl _ _).drew).2.1
          go_wp2_with fail
          first | go_region_with (go_at_call 36; refine (rBytes_any (hrk.quiet (Fr.refl _ _).drew) (hEk.fr (Fr.refl (fun _ => False) _).drew (fun h => h)) sB hgk 8192).mono ?_; rw [HV.out]; rintro e w2 ⟨v, rfl, ⟨A4, c4, rfl, ho4, _⟩, hr2, hf2⟩; have hN2 : Nb B wr w2 := (Fr.refl (fun x => B ≤ x) wr).drew.trans hf2 (fun x _ e => by have e' : x = g := e; omega); have s4 := run_str8 Tryd.t8 Tryd.underlying5 Tryd.underlying9 c4 ho4.rd rfl; have s5 := (MKB.out hN2).1; have s6 := (MKB.out hN2).2.1) | fail
          all_goals
            go_wp2
            go_roundw
            case rel =>
              have hgo := hgi.out
              rw [← HR.out] at hgo
              rw [toL, toL] at he'
              refine ⟨k + 1, _, by omega, by go_num, ?_, hgo.symm, ?_, hFk.add hN2⟩
              · simp only [stepI, HV.out, if_true]
                rw [he']
                rfl
              · simpa [stepI] using hr2
            case measure => simp [intOf]; omega
    · have hkm : k = m := by omega
      subst hkm
      rw [List.take_of_length_le (by omega)] at HR
      cases hq : stEnd xs r.2 with
      | none =>
        have HQ := Lib.hid hq
        go_wp2_with fail
        refine (rEnd_any hrk).mono ?_
        rw [HQ.out]
        rintro e w2 ⟨v, rfl, hv, hf2⟩
        have hv' : v = .nilIface := hv
        subst hv'
        clear hq hv
        go_wp2
        go_ret
        exact ⟨by rw [← HW.out]; unfold wholeOf; rw [← HR.out, HQ.out]; simp, (hFk.add (hf2.nb0 B)).mono (fun x hx h => by have h1 : B ≤ x := h; have h2 := HB.out; omega)⟩
      | some t =>
        have HQ := Lib.hid hq
        obtain ⟨er, at_, wh⟩ := t
        go_wp2_with fail
        refine (rEnd_any hrk).mono ?_
        rw [HQ.out]
        rintro e w2 ⟨v, rfl, hv, hf2⟩
        obtain ⟨fb, rfl, _⟩ := hv
        clear hq
        go_wp2
        go_ret
        exact ⟨by rw [← HW.out]; unfold wholeOf; rw [← HR.out, HQ.out]; simp, (hFk.add (hf2.nb0 B)).mono (fun x hx h => by have h1 : B ≤ x := h; have h2 := HB.out; omega)⟩
end Go.Proofs.YtbcnmofmjabcoaaDoor
