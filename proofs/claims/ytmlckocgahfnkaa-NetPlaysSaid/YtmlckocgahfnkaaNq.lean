/- What each law of net asks first. -/
import Derived.Test.YtmlckocgahfnkaaNp
import Derived.Test.YtmlckocgahfnkaaStr
namespace Go.Proofs.Ytmlckocgahfnkaa
open Go.RowKit

def kn0 : NS := NS.new 3
def kn1 : NS := kn0.send 0 1 [97]
def kn2 : NS := kn1.send 2 1 [98]
def kn3 : NS := kn2.againS 0
def kn4 : NS := kn3.dropS 1
def kn5 : NS := kn4.cutS 2 1
theorem kq0 : kn0.sent = 0 ∧ kn0.l.length = 0 := by decide +kernel
theorem kq1 : kn1.sent = 1 ∧ kn1.l.length = 1 := by decide +kernel
theorem kq2 : kn2.sent = 2 ∧ kn2.l.length = 2 := by decide +kernel
theorem kq3 : kn3.l.length = 3 ∧ kn3.wR 1 = 0 ∧ (kn3.takeK 1).n = 0 ∧ (kn3.takeK 1).bs = [97] := by decide +kernel
theorem kq4 : kn4.l.length = 2 := by decide +kernel
theorem kq5 : kn5.l.length = 1 ∧ (kn5.l.map Pk.bs) = [[97]] ∧ kn5.openB 1 2 = false ∧ kn5.openB 0 1 = true := by decide +kernel

theorem RunN.sendC {w w1 : World} {g : Nat} {s : NS} {F : Nat → Prop} (h : RunN w w1 g s F) (hs : (s.sent : Int) ≤ 4611686018427387904) (hq : s.l.length ≤ 1048576) (a b : Int) (A : Option Addr) (n c : Nat) (bs : List UInt8) (hr : Rd8 w1 A bs) (hn : bs.length = n) :
    Calls Try.prog 17 #[.pointer (some ⟨g, 0, none⟩), .int .i64 a, .int .i64 b, .slice A n c] w1 fun e w' => e = .returned (.int .i64 (s.err a b bs)) ∧ ∃ F', RunN w w' g (s.send a b bs) F' ∧ Fr F w1 w' ∧ ∀ x, x < w1.heap.size → ¬ F x → ¬ F' x :=
  (h.nt.send hs hq a b A n c bs hr hn).mono fun _ _ ⟨he, hd⟩ => ⟨he, h.step hd⟩
theorem RunN.againC {w w1 : World} {g : Nat} {s : NS} {F : Nat → Prop} (h : RunN w w1 g s F) (hq : s.l.length < 4096) (a : Int) :
    Calls Try.prog 19 #[.pointer (some ⟨g, 0, none⟩), .int .i64 a] w1 fun e w' => e = .returned (.int .i64 (s.wR a)) ∧ ∃ F', RunN w w' g (s.againS a) F' ∧ Fr F w1 w' ∧ ∀ x, x < w1.heap.size → ¬ F x → ¬ F' x :=
  (h.nt.again hq a).mono fun _ _ ⟨he, hd⟩ => ⟨he, h.step hd⟩
theorem RunN.cutC {w w1 : World} {g : Nat} {s : NS} {F : Nat → Prop} (h : RunN w w1 g s F) (hq : s.l.length ≤ 1048576) (a b : Int) :
    Calls Try.prog 16 #[.pointer (some ⟨g, 0, none⟩), .int .i64 a, .int .i64 b] w1 fun e w' => e = .returned (.int .i64 (s.cutR a b)) ∧ ∃ F', RunN w w' g (s.cutS a b) F' ∧ Fr F w1 w' ∧ ∀ x, x < w1.heap.size → ¬ F x → ¬ F' x :=
  (h.nt.cut hq a b).mono fun _ _ ⟨he, hd⟩ => ⟨he, h.step hd⟩
theorem RunN.clearC {w w1 : World} {g : Nat} {s : NS} {F : Nat → Prop} (h : RunN w w1 g s F) (hq : s.l.length ≤ 1048576) (a : Int) :
    Calls Try.prog 18 #[.pointer (some ⟨g, 0, none⟩), .int .i64 a] w1 fun e w' => e = .returned (.int .i64 ((s.l.length : Int) - ((s.clear a).l.length : Int))) ∧ ∃ F', RunN w w' g (s.clear a) F' ∧ Fr F w1 w' ∧ ∀ x, x < w1.heap.size → ¬ F x → ¬ F' x :=
  (h.nt.clear hq a).mono fun _ _ ⟨he, hd⟩ => ⟨he, h.step hd⟩
theorem RunN.takeC {w w1 : World} {g : Nat} {s : NS} {F : Nat → Prop} (h : RunN w w1 g s F) (hq : s.l.length ≤ 1048576) (a : Int) :
    Calls Try.prog 20 #[.pointer (some ⟨g, 0, none⟩), .int .i64 a] w1 fun e w' => ∃ k : KP, e = .returned (.tuple #[.agg #[.int .i64 k.pk.fr, .int .i64 k.pk.to, .int .i64 (k.pk.n : Int), .slice k.A k.pk.bs.length k.c], .int .i64 (s.wR a)]) ∧ k.pk = s.takeK a ∧
      Own8 w' 5 k.sl k.pk.bs ∧ (∀ x, k.sl.ownBlock = some x → w1.heap.size ≤ x) ∧ ∃ F', RunN w w' g (s.dropS a) F' ∧ Fr F w1 w' ∧ (∀ x, x < w1.heap.size → ¬ F x → ¬ F' x) ∧ ∀ x, k.sl.ownBlock = some x → ¬ F' x := by
  refine (h.nt.take hq a).mono ?_
  rintro e w' ⟨k, h1, h2, h3, h4, F', ⟨h5, h6, h7⟩, h8⟩
  refine ⟨k, h1, h2, h3, h4, F', ⟨h5, fun x hx => ?_, h.fr.trans h6 (fun x hx hF => by have := h.low x hF; omega)⟩, h6, fun x hx hF hF' => ?_, h8⟩
  · rcases h7 x hx with h9 | h9
    · exact h.low x h9
    · have := h.fr.size; omega
  · rcases h7 x hF' with h9 | h9
    · exact hF h9
    · omega
theorem RunN.made (N : Nat) (w : World) (h0 : 1 ≤ N) (h1 : N ≤ 9) :
    Calls Try.prog 9 #[.int .i64 (N : Int)] w fun e w' => ∃ g F, e = .returned (.tuple #[.pointer (some ⟨g, 0, none⟩), .int .i64 0]) ∧ RunN w w' g (NS.new N) F :=
  (new_any N w h0 h1).mono fun _ _ ⟨g, F, h1, h2, h3, h4⟩ => ⟨g, F, h1, h2, h3, h4⟩
theorem rd8_one (w : World) (b : UInt8) : Rd8 (w.alloc (.cells #[.int .u8 (b.toNat : Int)] 5)) (some ⟨w.heap.size, 0, none⟩) [b] := fun _ => by
  refine ⟨_, rfl, rfl, fun j hj => ?_⟩
  have : j = 0 := by simpa using hj
  subst this
  exact (Bk.new w 5 #[.int .u8 (b.toNat : Int)]).cell 0

theorem rd8_lit (w : World) (b : UInt8) : Rd8 (w.alloc (.cells #[.int .u8 (b.toNat : Int)] 5 (1, 2))) (some ⟨w.heap.size, 0, none⟩) [b] := fun _ => by
  refine ⟨_, rfl, rfl, fun j hj => ?_⟩
  have : j = 0 := by simpa using hj
  subst this
  exact cell_of_row _ w.heap.size 0 #[.int .u8 (b.toNat : Int)] 5 (1, 2) (heap_alloc_new w _)
theorem conv_lit (w : World) (x : Value) : (convert 33 33 (.slice (some ⟨w.heap.size, 0, none⟩) 1 1)).run Try.prog (w.alloc (.cells #[x] 5)) = .ok (.slice (some ⟨w.heap.size, 0, none⟩) 1 1) (w.alloc (.cells #[x] 5 (1, 2))) :=
  Lib.run_convert_bytes_const (P := Try.prog) w 33 5 #[x] 1 1 Try.underlying33 Try.underlying5

set_option maxRecDepth 100000 in
set_option maxHeartbeats 4000000 in
theorem known_any (w : World) :
    Calls Try.prog 7 #[] w fun e w' => e = .returned (.bool true) ∧ Fr (fun _ => False) w w' := by
  have kc := conv_lit
  go_enter Try.func7, Try.ntmps7
  go_wp2_with fail
  refine (RunN.made 3 w (by omega) (by omega)).mono ?_; rintro e w1 ⟨g, F, rfl, h1⟩
  have H1 := Lib.hid (show RunN w w1 g kn0 F from h1)
  clear h1
  go_wp2_with fail
  have R1 := H1.out.on0 ((Fr.refl _ _).alloc (.cells #[.int .u8 97] 5 (1, 2)))
  have C1 := Lib.hid (R1.sendC (by rw [kq0.1]; omega) (by rw [kq0.2]; omega) 0 1 (some ⟨w1.heap.size, 0, none⟩) 1 1 [97] (rd8_lit w1 97) rfl)
  clear R1 H1
  refine C1.out.mono ?_; rintro e w2 ⟨rfl, F2, R2, _, _⟩
  have H2 := Lib.hid (show RunN w w2 g kn1 F2 from R2)
  clear C1 R2
  generalize kn0.err 0 1 [97] = z1 at *
  go_wp2_with fail
  have R2 := H2.out.on0 ((Fr.refl _ _).alloc (.cells #[.int .u8 98] 5 (1, 2)))
  have C2 := Lib.hid (R2.sendC (by rw [kq1.1]; omega) (by rw [kq1.2]; omega) 2 1 (some ⟨w2.heap.size, 0, none⟩) 1 1 [98] (rd8_lit w2 98) rfl)
  clear R2 H2
  refine C2.out.mono ?_; rintro e w3 ⟨rfl, F3, R3, _, _⟩
  have H3 := Lib.hid (show RunN w w3 g kn2 F3 from R3)
  clear C2 R3
  generalize kn1.err 2 1 [98] = z2 at *
  go_wp2_with fail
  refine (H3.out.againC (by rw [kq2.2]; omega) 0).mono ?_; rintro e w4 ⟨rfl, F4, R4, _, _⟩
  have H4 := Lib.hid (show RunN w w4 g kn3 F4 from R4)
  clear H3 R4
  generalize kn2.wR 0 = z3 at *
  go_wp2_with fail
  refine (H4.out.takeC (by rw [kq3.1]; omega) 1).mono ?_; rintro e w5 ⟨k, rfl, hk, ho, hnew, F5, R5, _, _, hnF⟩
  rw [kq3.2.1]
  have H5 := Lib.hid (show RunN w w5 g kn4 F5 from R5)
  have hkn : k.pk.n = 0 := by rw [hk, kq3.2.2.1]
  have hkb : k.pk.bs = [97] := by rw [hk, kq3.2.2.2]
  have HKB := Lib.hid hkb
  rw [hkn]
  have HO := Lib.hid ho
  have HNF := Lib.hid hnF
  clear H4 R5 hk hkn hkb ho hnew hnF
  go_wp2_with fail
  have fa : Fr (fun _ => False) w5 (w5.alloc (.cells #[.int .i64 k.pk.fr, .int .i64 k.pk.to, .int .i64 0, .slice k.A k.pk.bs.length k.c] 48)) := (Fr.refl _ _).alloc _
  have ka := Bk.new w5 48 #[.int .i64 k.pk.fr, .int .i64 k.pk.to, .int .i64 0, .slice k.A k.pk.bs.length k.c]
  have R5 := H5.out.on0 fa
  have o5 := HO.out.fr fa (fun _ _ h => h)
  have npb : ¬ F5 w5.heap.size := fun h => by have := H5.out.lt h; omega
  clear H5 HO
  generalize w5.alloc (.cells #[.int .i64 k.pk.fr, .int .i64 k.pk.to, .int .i64 0, .slice k.A k.pk.bs.length k.c] 48) = W5 at *
  generalize w5.heap.size = pb at *
  have C6 := Lib.hid (R5.cutC (by rw [kq4]; omega) 2 1)
  have KA := Lib.hid ka
  have O5 := Lib.hid o5
  have NPB := Lib.hid npb
  clear R5 fa ka o5 npb
  refine C6.out.mono ?_; rintro e w6 ⟨rfl, F6, R6, f6, _⟩
  have H6 := Lib.hid (show RunN w w6 g kn5 F6 from R6)
  have KA6 := Lib.hid (KA.out.fr f6 NPB.out)
  have O6 := Lib.hid (O5.out.fr f6 (fun x hx => HNF.out x hx))
  clear C6 R6 f6 KA O5 NPB HNF
  generalize kn4.cutR 2 1 = z4 at *
  have C7 := Lib.hid (H6.out.nt.wait (by rw [kq5.1]; omega))
  go_wp2_with fail
  refine C7.out.mono ?_; rintro e w7 ⟨v, ks, rfl, ht, hks, hf7⟩
  have hl1 : ks.length = 1 := by have := congrArg List.length hks; simpa [kq5.1] using this
  obtain ⟨q, rfl⟩ : ∃ q, ks = [q] := List.length_eq_one_iff.1 hl1
  have hqb : q.pk.bs = [97] := by
    have h1 := congrArg (List.map Pk.bs) hks
    rw [kq5.2.1] at h1
    simpa using h1
  obtain ⟨A, c, rfl, _, _, hA⟩ := ht.row.form
  obtain ⟨lb, lo, rfl⟩ := hA (by simp)
  have l3 : w7.cell? ⟨lb, lo + 3, none⟩ = some q.sl := ht.row.cell (j := 3) rfl
  have oq := ht.own q (by simp)
  have H7 := Lib.hid (H6.out.on0 hf7)
  have ka7 := KA6.out.fr hf7 (fun h => h)
  have p2 : w7.cell? ⟨pb, 2, none⟩ = some (.int .i64 0) := ka7.cell 2
  have p3 : w7.cell? ⟨pb, 3, none⟩ = some (.slice k.A k.pk.bs.length k.c) := ka7.cell 3
  have s1 := run_str8 Try.t8n Try.underlying5 Try.underlying9 k.c (O6.out.fr hf7 (fun _ _ h => h)).rd rfl
  have s2 := run_str8 Try.t8n Try.underlying5 Try.underlying9 q.c (show Own8 w7 _ (.slice q.A q.pk.bs.length q.c) _ from oq).rd rfl
  have e97 : strOf [97] = ⟨#[97]⟩ := rfl
  rw [HKB.out, e97] at s1
  rw [hqb, e97] at s2
  unfold KP.sl at l3
  rw [HKB.out] at p3
  rw [hqb] at l3
  simp only [List.length_singleton] at s1 s2 p3 l3 ⊢
  have CO1 := Lib.hid (fun w' (hf : Fr (fun _ => False) w7 w') => (H7.out.on0 hf).nt.open 1 2)
  have CO2 := Lib.hid (fun w' (hf : Fr (fun _ => False) w7 w') => (H7.out.on0 hf).nt.open 0 1)
  rw [kq5.2.2.1] at CO1
  rw [kq5.2.2.2] at CO2
  have HF7 := Lib.hid H7.out.fr
  clear C7 ht hks hl1 hA oq hf7 ka7 H6 KA6 O6 HKB hqb e97
  go_wp2_with fail
  refine (CO1.out _ (Fr.refl _ _)).mono ?_; rintro e w8 ⟨rfl, f8⟩
  have F8 := Lib.hid f8
  clear f8
  go_wp2_with fail
  refine (CO2.out _ F8.out).mono ?_; rintro e w9 ⟨rfl, f9⟩
  have F9 := Lib.hid f9
  clear f9
  go_wp2
  go_ret
  exact ⟨rfl, (HF7.out.trans F8.out (fun _ _ h => h)).trans F9.out (fun _ _ h => h)⟩
end Go.Proofs.Ytmlckocgahfnkaa
