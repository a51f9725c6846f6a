/- Words of four bytes, frames. -/
import Derived.Test.YtblfnbmgijppmaaDoorCc
import Derived.Deep.QuietTactic
import Derived.BigQuiet
namespace Go.Proofs.YtblfnbmgijppmaaDoor
open Go.RowKit

/-- A number's four bytes, the lowest first. -/
def four (v : Nat) : List UInt8 := [UInt8.ofNat (v % 256), UInt8.ofNat (v / 256 % 256), UInt8.ofNat (v / 65536 % 256), UInt8.ofNat (v / 16777216 % 256)]
/-- The number of four bytes. -/
def le4 (a b c d : Nat) : Nat := a + 256 * b + 65536 * c + 16777216 * d
def le32 (l : List UInt8) : Nat := le4 (l.getD 0 0).toNat (l.getD 1 0).toNat (l.getD 2 0).toNat (l.getD 3 0).toNat
theorem le32_lt (l : List UInt8) : le32 l < 4294967296 := by
  unfold le32 le4
  have h0 := (l.getD 0 0).toNat_lt
  have h1 := (l.getD 1 0).toNat_lt
  have h2 := (l.getD 2 0).toNat_lt
  have h3 := (l.getD 3 0).toNat_lt
  omega

theorem four_rd (w : World) (x : Nat) (hx : (x : Int) ≤ 4294967295) :
    Rd8 (w.alloc (.cells #[.int .u8 ((x : Int) % 256), .int .u8 ((x : Int) / 256 % 256), .int .u8 ((x : Int) / 65536 % 256), .int .u8 ((x : Int) / 16777216)] 5)) (some ⟨w.heap.size, 0, none⟩) (four x) := fun _ => by
  refine ⟨_, rfl, rfl, fun j hj => ?_⟩
  have hj4 : j < 4 := hj
  rw [Nat.zero_add, (Bk.new w 5 _).cell j]
  match j, hj4 with
  | 0, _ => simp [four, UInt8.toNat_ofNat']
  | 1, _ => simp [four, UInt8.toNat_ofNat']
  | 2, _ => simp [four, UInt8.toNat_ofNat']
  | 3, _ => simp [four, UInt8.toNat_ofNat']; omega

set_option maxRecDepth 100000 in
set_option maxHeartbeats 1000000 in
theorem addWord_any (v : Value) (bs : List UInt8) (x : Int) (w : World) (h0 : 0 ≤ x) (hx : x ≤ 4294967295) (hown : Own8 w 5 v bs) (hb : bs.length ≤ 70368744177664) :
    Calls Tryd.prog 44 #[v, .int .u32 x] w fun e w' => ∃ A' c', e = .returned (.slice A' (bs.length + 4) c') ∧ Own8 w' 5 (.slice A' (bs.length + 4) c') (bs ++ four x.toNat) ∧ Fr (fun k => v.ownBlock = some k) w w' ∧ Moved w v (.slice A' (bs.length + 4) c') := by
  go_enter Tryd.func44, Tryd.ntmps44
  have hf0 : ∀ o, Fr (fun _ => False) w (w.alloc o) := fun o => (Fr.refl _ _).alloc _
  obtain ⟨x, rfl⟩ := Int.eq_ofNat_of_zero_le h0
  simp only [Int.toNat_natCast]
  have hfour := Lib.hid (four_rd w x hx)
  go_wp2_with (at_builtin; (refine wpList_append8s _ rfl (.tmp 5) (.tmp 17) Tryd.t8 rfl v bs rfl (hown.fr (hf0 _) (fun _ _ h => h)) _ 4 4 (four x) rfl rfl hfour.out (by show bs.length + 4 ≤ _; omega) ?_; intro A1 c1 w1 ho1 hf1 hm1))
  go_ret
  refine ⟨A1, c1, rfl, ho1, ((hf0 _).mono (fun _ _ h => h.elim)).trans hf1 (fun _ _ h => h), hm1.imp id (fun ⟨k, h, hk⟩ => ⟨k, h, by simp at hk; omega⟩)⟩

theorem le4_val (a b c d : Nat) (ha : a < 2 ^ 8) (hb : b < 2 ^ 8) (hc : c < 2 ^ 8) (hd : d < 2 ^ 8) :
    bits BinOp.or IntKind.u32 (bits BinOp.or IntKind.u32 (bits BinOp.or IntKind.u32 (a : Int) ((b : Int) * 256)) ((c : Int) * 65536)) ((d : Int) * 16777216) = (le4 a b c d : Int) := by
  have o1 : a ||| b * 256 = a + b * 256 := by rw [Nat.or_comm, nat_join 8 _ _ (by omega) (by omega)]; omega
  have o2 : (a + b * 256) ||| c * 65536 = a + b * 256 + c * 65536 := by rw [Nat.or_comm, nat_join 16 _ _ (by omega) (by omega)]; omega
  have o3 : (a + b * 256 + c * 65536) ||| d * 16777216 = a + b * 256 + c * 65536 + d * 16777216 := by rw [Nat.or_comm, nat_join 24 _ _ (by omega) (by omega)]; omega
  rw [show (b : Int) * 256 = ((b * 256 : Nat) : Int) by omega, u32_or_nat _ _ (by omega) (by omega), o1,
    show (c : Int) * 65536 = ((c * 65536 : Nat) : Int) by omega, u32_or_nat _ _ (by omega) (by omega), o2,
    show (d : Int) * 16777216 = ((d * 16777216 : Nat) : Int) by omega, u32_or_nat _ _ (by omega) (by omega), o3]
  unfold le4; omega

set_option maxRecDepth 100000 in
set_option maxHeartbeats 1000000 in
theorem word_any (b o n c : Nat) (xs : List UInt8) (w : World) (hr : Rd8 w (some ⟨b, o, none⟩) xs) (hn : xs.length = n) (h4 : 4 ≤ n) (hb : n ≤ 70368744177664) :
    Calls Tryd.prog 43 #[.slice (some ⟨b, o, none⟩) n c] w fun e w' => e = .returned (.int .u32 (le32 xs)) ∧ ∃ m, w.drewN m = w' := by
  have hle : le32 xs = le4 (xs[0]'(by omega)).toNat (xs[1]'(by omega)).toNat (xs[2]'(by omega)).toNat (xs[3]'(by omega)).toNat := by
    unfold le32
    simp [List.getD, show 0 < xs.length by omega, show 1 < xs.length by omega, show 2 < xs.length by omega, show 3 < xs.length by omega]
  rw [hle]
  clear hle
  obtain ⟨ad, e, _, hc⟩ := hr (by omega)
  injection e with e
  subst e
  have c0 := hc 0 (by omega)
  have c1 := hc 1 (by omega)
  have c2 := hc 2 (by omega)
  have c3 := hc 3 (by omega)
  simp only [Nat.add_zero] at c0 c1 c2 c3
  have b0 := (xs[0]'(by omega)).toNat_lt
  have b1 := (xs[1]'(by omega)).toNat_lt
  have b2 := (xs[2]'(by omega)).toNat_lt
  have b3 := (xs[3]'(by omega)).toNat_lt
  generalize (xs[0]'(by omega)).toNat = x0 at *
  generalize (xs[1]'(by omega)).toNat = x1 at *
  generalize (xs[2]'(by omega)).toNat = x2 at *
  generalize (xs[3]'(by omega)).toNat = x3 at *
  clear hc hr hn
  go_enter Tryd.func43, Tryd.ntmps43
  go_wp2_with fail
  go_quiet (fail)
  go_wp2
  go_ret
  exact ⟨by rw [le4_val x0 x1 x2 x3 b0 b1 b2 b3]; rfl, nq, rfl⟩

/-- P103's frame of bytes. -/
def frameOf (bs : List UInt8) : List UInt8 := four (bs.length % 4294967296) ++ four (crcOf (four (bs.length % 4294967296))) ++ bs ++ four (crcOf bs)

theorem crcOf_le (l : List UInt8) : (crcOf l : Int) ≤ 4294967295 := by unfold crcOf; omega

set_option maxRecDepth 100000 in
set_option maxHeartbeats 1000000 in
theorem frame_any (A : Option Addr) (n c : Nat) (xs : List UInt8) (w : World) (ht : Tab w) (hr : Rd8 w A xs) (hn : xs.length = n) (hb : n ≤ 17592186044416) :
    Calls Tryd.prog 20 #[.slice A n c] w fun e w' => ∃ A' c', e = .returned (.slice A' (n + 12) c') ∧ Own8 w' 5 (.slice A' (n + 12) c') (frameOf xs) ∧ Fresh w w' (.slice A' (n + 12) c') := by
  obtain ⟨cur, hcs, _, hmk⟩ := run_make8 Tryd.t8 .i64 .i64 0 (8 + (n : Int) + 4) (by omega) (by omega) (by omega) w
  have ho0 : Own8 (w.alloc (.cells cur 5)) 5 (.slice (some ⟨w.heap.size, 0, none⟩) 0 (8 + (n : Int) + 4).toNat) [] := Own8.fresh w _ cur _ hcs (by unfold maxLen; omega)
  have hfr0 := Fresh.new w (.cells cur 5) 0 (8 + (n : Int) + 4).toNat
  rw [show (8 + (n : Int) + 4).toNat = 8 + n + 4 by omega] at ho0 hfr0 hmk
  simp only [Int.toNat_zero] at hmk
  have hNS := Lib.hid hcs
  clear hcs
  generalize w.alloc (.cells cur 5) = w0 at *
  go_enter Tryd.func20, Tryd.ntmps20
  go_wp2_with fail
  refine (addWord_any _ [] _ w0 (by omega) (by omega) ho0 (by simp)).mono ?_; rintro e w1 ⟨A1, c1, rfl, ho1, hf1, hm1⟩
  have hfr1 := hfr0.step hf1 hm1
  clear ho0 hf1 hm1 hfr0 hmk
  have l1 : (four (n % 4294967296)).length = 4 := rfl
  have hF1 : four ((n : Int) % 4294967296).toNat = four (n % 4294967296) := rfl
  rw [hF1] at ho1
  clear hF1
  simp only [List.length_nil, Nat.zero_add, List.nil_append] at ho1 hfr1 ⊢
  generalize hF1 : four (n % 4294967296) = F1 at *
  have HF1 := Lib.hid hF1
  clear hF1
  go_wp2_with fail
  refine (sum_any A1 4 c1 _ w1 (ht.fr hfr1.1 (fun h => h)) ho1.rd l1 (by omega)).mono ?_; rintro e _ ⟨rfl, rfl⟩
  have hle := crcOf_le F1
  generalize hS1 : crcOf F1 = S1 at *
  have HS1 := Lib.hid hS1
  clear hS1
  go_wp2_with fail
  refine (addWord_any (.slice A1 4 c1) F1 _ w1 (by omega) (by omega) ho1 (by omega)).mono ?_; rintro e w2 ⟨A2, c2, rfl, ho2, hf2, hm2⟩
  have hfr2 := hfr1.step hf2 hm2
  have l2 : (F1 ++ four S1).length = 8 := by simp [l1, four]
  rw [Int.toNat_natCast] at ho2
  simp only [l1] at ho2 hfr2 ⊢
  generalize hF2 : F1 ++ four S1 = F2 at *
  have HF2 := Lib.hid hF2
  clear hF2 hf2 hm2 hfr1 ho1
  go_wp2_with (at_builtin; (refine wpList_append8s _ rfl (.tmp 18) (.tmp 19) Tryd.t8 rfl (.slice A2 8 c2) _ rfl ho2 A n c xs rfl hn (hr.fr hfr2.1 (fun _ _ _ h => h)) (by omega) ?_; intro A3 c3 w3 ho3 hf3 hm3))
  have hfr3 := hfr2.step hf3 hm3
  have hrd3 := hr.fr hfr3.1 (fun _ _ _ h => h)
  have l3 : (F2 ++ xs).length = n + 8 := by simp [l2, hn]; omega
  refine (sum_any A n c _ w3 (ht.fr hfr3.1 (fun h => h)) hrd3 hn (by omega)).mono ?_; rintro e _ ⟨rfl, rfl⟩
  have hle2 := crcOf_le xs
  go_wp2_with fail
  simp only [l2, hn] at ho3 hfr3
  refine (addWord_any _ (F2 ++ xs) _ w3 (by omega) (by omega) ho3 (by omega)).mono ?_; rintro e w4 ⟨A4, c4, rfl, ho4, hf4, hm4⟩
  have hfr4 := hfr3.step hf4 hm4
  go_wp2
  go_ret
  rw [Int.toNat_natCast] at ho4
  simp only [l3] at ho4 hfr4 ⊢
  refine ⟨A4, c4, rfl, ?_, hfr4⟩
  unfold frameOf
  rw [hn, HF1.out, HS1.out, HF2.out]
  exact ho4
end Go.Proofs.YtblfnbmgijppmaaDoor
