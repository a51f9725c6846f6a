/- dedup: the function that writes ints. -/
import Derived.Test.YtdfkoehcmgcoiaaJq
namespace Go.Proofs.Ytdfkoehcmgcoiaa
open Go.RowKit Go.Maps

/-- An int's bytes. -/
def eI (a : Int) : List UInt8 := enc (foldN a)
def eB (xs : List UInt8) : List UInt8 := enc (2 * xs.length) ++ xs
theorem eI_len {a : Int} (h : I64 a) : (eI a).length ≤ 10 := enc_length10 _ (foldN_lt a h.1 h.2)
theorem eB_len {xs : List UInt8} (h : xs.length ≤ 17592186044416) : (eB xs).length ≤ 10 + xs.length := by
  unfold eB
  have := enc_length10 (2 * xs.length) (by omega)
  simp; omega
theorem eIs_len : ∀ (l : List Int), (∀ a ∈ l, I64 a) → (l.flatMap eI).length ≤ 10 * l.length
  | [], _ => by simp
  | a :: l, h => by
    have h1 := eIs_len l (fun x hx => h x (by simp [hx]))
    have h2 := eI_len (h a (by simp))
    rw [List.flatMap_cons, List.length_append, List.length_cons]; omega
set_option maxRecDepth 100000 in
set_option maxHeartbeats 4000000 in
theorem ints_any {w : World} {gw wbx ib : Nat} {v : Value} {bs : List UInt8} {l : List Int} (hw : Wr w gw v bs) (hx : Bk w wbx 57 #[.pointer (some ⟨gw, 0, none⟩)]) (hi : Bk w ib 3 (l.map IV).toArray) (hI : ∀ a ∈ l, I64 a) (hl : l.length ≤ 1048576) (hb : bs.length ≤ 1099511627776) {n ic : Nat} (hn : l.length = n) :
    Calls Try.prog 23 #[.slice (some ⟨ib, 0, none⟩) n ic, .pointer (some ⟨wbx, 0, none⟩)] w fun e w' => e = .returned (.tuple #[]) ∧ ∃ v', WrTo w gw v w' v' (bs ++ l.flatMap eI) := by
  have W0 := Lib.hid (WrTo.refl hw)
  have HN := Lib.hid hn
  have HO := Lib.hid hI
  have HL2 := Lib.hid (fun k => eIs_len (l.take k) (fun a ha => hI a (List.mem_of_mem_take ha)))
  have HX := Lib.hid hx
  have HIB := Lib.hid hi
  have HNE : Hid (∀ k, (k = gw ∨ v.ownBlock = some k) → k ≠ wbx ∧ k ≠ ib) := Lib.hid (fun k hk => by
    rcases hk with rfl | hk
    · exact ⟨Bk.ne hw.1 hx (by decide), Bk.ne hw.1 hi (by decide)⟩
    · exact ⟨fun e => hw.2.ne hx (by decide) (e ▸ hk), fun e => hw.2.ne hi (by decide) (e ▸ hk)⟩)
  have hn1 : (n : Int) ≤ 1048576 := by omega
  clear hw hn hI hx hi hl
  go_enter Try.func23, Try.ntmps23
  go_wp2_with fail
  go_loopw [7] (fun i wr => ∃ k : Nat, k ≤ n ∧ i = .int .i64 k ∧ Hid (∃ v1, WrTo w gw v wr v1 (bs ++ (l.take k).flatMap eI))) (fun i _ => n - (intOf i).toNat)
  case atStart => exact ⟨0, by omega, rfl, ⟨v, by simpa using W0.out⟩⟩
  case round =>
    obtain ⟨k, hk, rfl, hq⟩ := hrel
    obtain ⟨v1, hv1⟩ := hq.out
    have HV := Lib.hid hv1
    clear hv1 W0
    by_cases hlt : k < n
    · have hkl : k < l.length := by rw [HN.out]; exact hlt
      obtain ⟨a, ha⟩ : ∃ a, l[k] = a := ⟨_, rfl⟩
      have hc : wr.cell? ⟨ib, k, none⟩ = some (.int .i64 a) := by
        have := (HIB.out.fr HV.out.2.1 (fun e => (HNE.out ib e).2 rfl)).cell k
        rw [this]; simp [hkl, ha, IV]
      have hx : wr.cell? ⟨wbx, 0, none⟩ = some (.pointer (some ⟨gw, 0, none⟩)) := (HX.out.fr HV.out.2.1 (fun e => (HNE.out wbx e).1 rfl)).cell 0
      have ho : I64 a := HO.out a (by rw [← ha]; exact List.getElem_mem _)
      have ST : Hid ((l.take (k + 1)).flatMap eI = (l.take k).flatMap eI ++ eI a) := Lib.hid (by
        rw [List.take_add_one, List.getElem?_eq_getElem hkl, ha]
        simp only [Option.toList_some, List.flatMap_append, List.flatMap_cons, List.flatMap_nil, List.append_nil])
      have hlk := HL2.out k
      have C := Lib.hid (wInt_any gw v1 a (bs ++ (l.take k).flatMap eI) wr ho.1 ho.2 HV.out.1 (by rw [List.length_append]; simp only [List.length_take] at hlk; omega))
      have hk0 : (0 : Int) ≤ (k : Int) := by omega
      have hk1 : (k : Int) < (n : Int) := by omega
      have w1' : IntKind.i64.wrap ((k : Int) + 1) = (k : Int) + 1 := IntWalk.i64_in _ (by omega)
      clear hkl ho hlk ha hq hb
      go_wp2_with fail
      refine C.out.mono ?_; rintro e w1 ⟨rfl, v2, h2⟩
      have H2 := Lib.hid (HV.out.trans h2)
      clear C h2 hc hx
      go_wp2
      go_roundw
      case rel => exact ⟨k + 1, by omega, by go_num, ⟨v2, by rw [ST.out, ← List.append_assoc]; exact H2.out⟩⟩
      case measure => simp [intOf]; omega
    · obtain rfl : k = n := by omega
      have FIN : Hid (∃ v1, WrTo w gw v wr v1 (bs ++ l.flatMap eI)) := Lib.hid ⟨v1, by have := HV.out; rw [← HN.out, List.take_length] at this; exact this⟩
      clear hq hlt hk
      go_wp2
      refine bodyPost_end (results_none rfl _ _ _) rfl ⟨rfl, FIN.out⟩
theorem callI (args : Array Value) (W : World) : (callFunc 23 args).run Try.prog W = .ok (.enter 23 args) W := by
  go_simp
end Go.Proofs.Ytdfkoehcmgcoiaa
