/- The walk of NetOwn. -/
import Derived.Test.YtmlckocgahfnkaaNq
namespace Go.Proofs.Ytmlckocgahfnkaa
open Go.RowKit

theorem RunN.put {w w1 : World} {g : Nat} {s : NS} {F : Nat → Prop} (h : RunN w w1 g s F) {k : Nat} (hk : ¬ F k) (hB : w.heap.size ≤ k) (p : Nat) (u : Value) : RunN w (w1.setCell ⟨k, p, none⟩ u) g s F :=
  h.on (S := fun x => x = k) (Bk.fr_set p u) (fun x hx e => hk (e ▸ hx)) (fun x e => by rw [e]; exact hB)
theorem Own8.fz {w : World} {e : TypeId} {k n c : Nat} {xs : List UInt8} (h : Own8 w e (.slice (some ⟨k, 0, none⟩) n c) xs) (i : Nat) : w.frozen? ⟨k, i, none⟩ = false := by
  rcases h.2 with ⟨e1, _⟩ | ⟨g', cap, cur, e1, _, hh, _⟩
  · cases e1
  · injection e1 with e1
    injection e1 with e1
    injection e1 with e1
    subst e1
    exact Bk.frozen (t := e) (cs := cur) hh i

theorem own_s1 (bs : List UInt8) (hb : bs.length ≤ 1000) : (NS.new 2).send 0 1 bs = ⟨2, 1, [], [⟨0, 1, 0, bs⟩]⟩ ∧ (NS.new 2).err 0 1 bs = 0 := by
  have he : (NS.new 2).err 0 1 bs = 0 := by
    unfold NS.err
    rw [show ((NS.new 2).is 0 && (NS.new 2).is 1) = true by decide, if_pos rfl, if_neg (by omega)]
  exact ⟨by unfold NS.send; rw [if_pos he]; rfl, he⟩
theorem own_s2 (bs : List UInt8) : (⟨2, 1, [], [⟨0, 1, 0, bs⟩]⟩ : NS).againS 0 = ⟨2, 1, [], [⟨0, 1, 0, bs⟩, ⟨0, 1, 0, bs⟩]⟩ := rfl
theorem own_s3 (bs : List UInt8) : (⟨2, 1, [], [⟨0, 1, 0, bs⟩, ⟨0, 1, 0, bs⟩]⟩ : NS).dropS 0 = ⟨2, 1, [], [⟨0, 1, 0, bs⟩]⟩ := rfl
theorem own_t2 (bs : List UInt8) : (⟨2, 1, [], [⟨0, 1, 0, bs⟩, ⟨0, 1, 0, bs⟩]⟩ : NS).takeK 0 = ⟨0, 1, 0, bs⟩ := rfl
theorem own_t3 (bs : List UInt8) : (⟨2, 1, [], [⟨0, 1, 0, bs⟩]⟩ : NS).takeK 0 = ⟨0, 1, 0, bs⟩ := rfl

theorem own_no (A : Option Addr) (n c : Nat) (t : UInt8) (w : World) (h : n = 0 ∨ 1000 < n) :
    Calls Try.prog 5 #[.slice A n c, .int .u8 (t.toNat : Int)] w fun e w' => e = .returned (.bool true) ∧ Fr (fun _ => False) w w' := by
  by_cases h0 : n = 0
  · subst h0
    clear h
    go_enter Try.func5, Try.ntmps5
    go_wp2_with fail
    refine (known_any w).mono ?_; rintro e w0 ⟨rfl, hf0⟩
    have HF := Lib.hid hf0
    clear hf0
    go_wp2
    go_ret
    exact ⟨rfl, HF.out⟩
  · have h1 : (1000 : Int) < (n : Int) := by omega
    have h2 : ((n : Int) == 0) = false := by rw [beq_eq_false_iff_ne]; omega
    clear h h0
    go_enter Try.func5, Try.ntmps5
    go_wp2_with fail
    refine (known_any w).mono ?_; rintro e w0 ⟨rfl, hf0⟩
    have HF := Lib.hid hf0
    clear hf0
    go_wp2
    go_ret
    exact ⟨rfl, HF.out⟩

set_option maxRecDepth 100000 in
set_option maxHeartbeats 4000000 in
theorem own_yes (A : Option Addr) (n c : Nat) (bs : List UInt8) (t : UInt8) (w : World) (hr : Rd8 w A bs) (hn : bs.length = n) (h0 : 0 < n) (h1 : n ≤ 1000) :
    Calls Try.prog 5 #[.slice A n c, .int .u8 (t.toNat : Int)] w fun e w' => e = .returned (.bool true) ∧ Fr (fun _ => False) w w' := by
  have htb : (t.toNat : Int) ≤ 255 := by have := t.toNat_lt; omega
  have d1 : decide ((1000 : Int) < (n : Int)) = false := by simp; omega
  have d2 : ((n : Int) == 0) = false := by rw [beq_eq_false_iff_ne]; omega
  have HR := Lib.hid (fun w' (hf : Fr (fun _ => False) w w') => hr.fr hf (fun _ _ _ h => h))
  have HN := Lib.hid hn
  have h0I : (0 : Int) < (n : Int) := by omega
  have HB := Lib.hid (show bs.length ≤ 1000 by omega)
  have HZ := Lib.hid (And.intro h0 h1)
  obtain ⟨S, hS⟩ : ∃ S, strOf bs = S := ⟨_, rfl⟩
  have hSS : (S.toList == S.toList) = true := by simp
  have HS := Lib.hid hS
  have SQ := Lib.hid (fun w' (hf : Fr (fun _ => False) w w') => by
    have h := run_str8 Try.t8n Try.underlying5 Try.underlying9 c (hr.fr hf (fun _ _ _ h => h)) hn
    rw [hS] at h; exact h : ∀ w', Fr (fun _ => False) w w' → (convert 33 9 (.slice A n c)).run Try.prog w' = .ok (.string S) w')
  clear hr hn h0 h1 hS
  go_enter Try.func5, Try.ntmps5
  go_wp2_with fail
  refine (known_any w).mono ?_; rintro e w0 ⟨rfl, hf0⟩
  have HF0 := Lib.hid hf0
  clear hf0
  go_wp2_with fail
  refine (RunN.made 2 w0 (by omega) (by omega)).mono ?_; rintro e w1 ⟨g, F, rfl, h1⟩
  have H1 := Lib.hid (show RunN w w1 g (NS.new 2) F from ⟨h1.nt, fun k hk => Nat.le_trans HF0.out.size (h1.low k hk), HF0.out.trans h1.fr (fun _ _ h => h)⟩)
  clear h1 HF0
  have sq := SQ.out w1 H1.out.fr
  have fa : Fr (fun _ => False) w1 (w1.alloc (.cells #[] 5)) := (Fr.refl _ _).alloc _
  have hra := (HR.out w1 H1.out.fr).fr fa (fun _ _ _ h => h)
  have HFA := Lib.hid fa
  clear fa
  go_wp2_with (at_builtin; (refine wpList_append8s _ rfl (.tmp 36) (.tmp 37) Try.t8n rfl (.slice (some ⟨w1.heap.size, 0, none⟩) 0 0) [] rfl (Own8.fresh w1 _ #[] 0 rfl (by decide)) A n c bs rfl HN.out hra (by simp; have := HB.out; omega) ?_; intro A1 c1 w2 ho2 hf2 hm2; have HO2 := Lib.hid ho2; have HF2 := Lib.hid hf2; have HM2 := Lib.hid hm2; clear ho2 hf2 hm2 hra sq))
  have ho2 := HO2.out
  simp only [List.length_nil, Nat.zero_add, List.nil_append] at ho2 ⊢
  obtain ⟨b0, hb0⟩ : ∃ b0, bs[0]? = some b0 := ⟨bs[0]'(by have := HN.out; have := HZ.out.1; omega), List.getElem?_eq_getElem _⟩
  have own0 : ∀ (W : World) (k m c : Nat), Own8 W 5 (.slice (some ⟨k, 0, none⟩) m c) bs → W.cell? ⟨k, 0, none⟩ = some (.int .u8 (b0.toNat : Int)) := fun W k m c ho => by
    obtain ⟨hi, e⟩ := List.getElem?_eq_some_iff.1 hb0
    rw [Own8.cell ho 0 hi, e]
  have someA : ∀ (W : World) (A : Option Addr) (m c : Nat), Own8 W 5 (.slice A m c) bs → ∃ k, A = some ⟨k, 0, none⟩ := fun W A m c ho => by
    rcases ho.form with ⟨_, e2⟩ | ⟨k, cap, e1, _⟩
    · rw [e2] at hb0; simp at hb0
    · injection e1 with e1; exact ⟨k, e1⟩
  have OWN0 := Lib.hid own0
  have SOMA := Lib.hid someA
  clear own0 someA hb0
  obtain ⟨kA, rfl⟩ := SOMA.out _ _ _ _ ho2
  have hfr2 : Fr (fun _ => False) w1 w2 := HFA.out.trans HF2.out (fun x hx e => by
    have : w1.heap.size = x := by simpa [Value.ownBlock] using e
    omega)
  have hkA : w1.heap.size ≤ kA := by
    rcases HM2.out with e | ⟨x, e, hx⟩
    · have : kA = w1.heap.size := by simpa [Value.ownBlock] using e
      omega
    · have h1 : kA = x := by simpa [Value.ownBlock] using e
      have h2 := HFA.out.size
      omega
  have R2 := H1.out.on0 hfr2
  have C1 := Lib.hid (R2.sendC (by decide) (by decide) 0 1 (some ⟨kA, 0, none⟩) bs.length c1 bs ho2.rd rfl)
  rw [(own_s1 bs HB.out).1, (own_s1 bs HB.out).2] at C1
  have nA : ¬ F kA := fun h => by have := H1.out.lt h; omega
  have bA : w.heap.size ≤ kA := Nat.le_trans H1.out.fr.size hkA
  have NA := Lib.hid nA
  have BA := Lib.hid bA
  have O2 := Lib.hid ho2
  clear R2 ho2 hfr2 hkA nA bA H1 HFA HF2 HM2 HO2
  refine C1.out.mono ?_; rintro e w3 ⟨rfl, F3, R3, f3, n3⟩
  have H3 := Lib.hid R3
  have o3 := O2.out.fr f3 (fun x hx h => by
    have : kA = x := by simpa [Value.ownBlock] using hx
    subst this; exact NA.out h)
  have N3 := Lib.hid (n3 _ (O2.out.lt rfl) NA.out)
  have x3 : w3.cell? ⟨kA, 0, none⟩ = some (.int .u8 (b0.toNat : Int)) := OWN0.out _ _ _ _ o3
  have y3 : w3.frozen? ⟨kA, 0, none⟩ = false := o3.fz 0
  have hbn : (0 : Int) < (bs.length : Int) := by have := HN.out; omega
  have hb0b : (b0.toNat : Int) ≤ 255 := by have := b0.toNat_lt; omega
  clear C1 R3 f3 n3 NA O2 o3
  have C2 := Lib.hid (fun u => (H3.out.put N3.out BA.out 0 u).againC (by simp) 0)
  go_wp2_with fail
  refine (C2.out _).mono ?_; rintro e w4 ⟨rfl, F4, R4, _, _⟩
  rw [own_s2] at R4
  have H4 := Lib.hid R4
  clear C2 R4 H3 N3 BA x3 y3
  generalize (⟨2, 1, [], [⟨0, 1, 0, bs⟩]⟩ : NS).wR 0 = z2 at *
  have C3 := Lib.hid (H4.out.nt.wait (by simp))
  go_wp2_with fail
  refine C3.out.mono ?_; rintro e w5 ⟨v, ks, rfl, ht, hks, hf5⟩
  have hl2 : ks.length = 2 := by have := congrArg List.length hks; simpa using this
  obtain ⟨q1, q2, rfl⟩ : ∃ q1 q2, ks = [q1, q2] := (match ks, hl2 with | [a, b], _ => ⟨a, b, rfl⟩)
  have hqb : q1.pk.bs = bs := by
    have h1 := congrArg (List.map Pk.bs) hks
    simp at h1
    exact h1.1
  obtain ⟨Av, cv, rfl, hcv, hcvm, hA⟩ := ht.row.form
  obtain ⟨lb, lo, rfl⟩ := hA (by simp)
  have l3 : w5.cell? ⟨lb, lo + 3, none⟩ = some q1.sl := ht.row.cell (j := 3) rfl
  have oq := ht.own q1 (by simp)
  have nq := ht.newB q1 (by simp)
  unfold KP.sl at l3 oq nq
  rw [hqb] at l3 oq nq
  obtain ⟨kq, hkq⟩ := SOMA.out _ _ _ _ oq
  rw [hkq] at l3 oq nq
  have hk4 := nq kq rfl
  have H5 := Lib.hid (H4.out.on0 hf5)
  have N5 := Lib.hid (show ¬ F4 kq from fun h => by have := H4.out.lt h; omega)
  have B5 := Lib.hid (show w.heap.size ≤ kq from by have := H4.out.fr.size; omega)
  have x5 : w5.cell? ⟨kq, 0, none⟩ = some (.int .u8 (b0.toNat : Int)) := OWN0.out _ _ _ _ oq
  have y5 : w5.frozen? ⟨kq, 0, none⟩ = false := oq.fz 0
  have hcq : bs.length ≤ q1.c := by
    rcases oq.form with ⟨e1, _⟩ | ⟨g1, cap, e1, h1, _⟩
    · cases e1
    · injection e1 with _ _ e1; omega
  simp only [List.length_cons, List.length_nil, Nat.zero_add] at hcv ⊢
  clear C3 ht hks hl2 hA oq nq hk4 hf5 H4 hkq hqb
  have C4 := Lib.hid (fun u => (H5.out.put N5.out B5.out 0 u).takeC (by simp) 0)
  rw [own_s3, own_t2] at C4
  go_wp2_with fail
  refine (C4.out _).mono ?_; rintro e w6 ⟨k1, rfl, hk1, ho1, _, F6, R6, _, _, nF6⟩
  rw [show (⟨2, 1, [], [⟨0, 1, 0, bs⟩, ⟨0, 1, 0, bs⟩]⟩ : NS).wR 0 = 0 from rfl]
  have hk1b : k1.pk.bs = bs := by rw [hk1]
  have H6 := Lib.hid R6
  have O6 := Lib.hid ho1
  have NF6 := Lib.hid nF6
  have K1 := Lib.hid hk1b
  clear C4 R6 ho1 nF6 hk1 hk1b H5 N5 B5 x5 y5 l3
  go_wp2_with fail
  have fa6 : Fr (fun _ => False) w6 (w6.alloc (.cells #[.int .i64 k1.pk.fr, .int .i64 k1.pk.to, .int .i64 (k1.pk.n : Int), .slice k1.A k1.pk.bs.length k1.c] 48)) := (Fr.refl _ _).alloc _
  have ka6 := Bk.new w6 48 #[.int .i64 k1.pk.fr, .int .i64 k1.pk.to, .int .i64 (k1.pk.n : Int), .slice k1.A k1.pk.bs.length k1.c]
  have R7 := H6.out.on0 fa6
  have o7 := O6.out.fr fa6 (fun _ _ h => h)
  have npb : ¬ F6 w6.heap.size := fun h => by have := H6.out.lt h; omega
  clear H6 O6
  generalize w6.alloc (.cells #[.int .i64 k1.pk.fr, .int .i64 k1.pk.to, .int .i64 (k1.pk.n : Int), .slice k1.A k1.pk.bs.length k1.c] 48) = W7 at *
  generalize w6.heap.size = pb at *
  have C5 := Lib.hid (R7.takeC (by simp) 0)
  rw [own_t3] at C5
  have KA := Lib.hid ka6
  have O7 := Lib.hid o7
  have NPB := Lib.hid npb
  clear R7 fa6 ka6 o7 npb
  refine C5.out.mono ?_; rintro e w8 ⟨k2, rfl, hk2, ho2, _, F8, R8, f8, _, nF8⟩
  have hk2b : k2.pk.bs = bs := by rw [hk2]
  unfold KP.sl at ho2
  rw [hk2b] at ho2 ⊢
  have o1 := O7.out.fr f8 (fun x hx => NF6.out x hx)
  have ka8 := KA.out.fr f8 NPB.out
  have F9 := Lib.hid R8.fr
  generalize (⟨2, 1, [], [⟨0, 1, 0, bs⟩]⟩ : NS).wR 0 = z5 at *
  have fb : Fr (fun _ => False) w8 (w8.alloc (.cells #[.int .i64 k2.pk.fr, .int .i64 k2.pk.to, .int .i64 (k2.pk.n : Int), .slice k2.A bs.length k2.c] 48)) := (Fr.refl _ _).alloc _
  have kb := Bk.new w8 48 #[.int .i64 k2.pk.fr, .int .i64 k2.pk.to, .int .i64 (k2.pk.n : Int), .slice k2.A bs.length k2.c]
  have s1 := run_str8 Try.t8n Try.underlying5 Try.underlying9 k1.c (show Own8 _ _ (.slice k1.A k1.pk.bs.length k1.c) _ from o1.fr fb (fun _ _ h => h)).rd rfl
  have s2 := run_str8 Try.t8n Try.underlying5 Try.underlying9 k2.c (show Own8 _ _ (.slice k2.A bs.length k2.c) _ from ho2.fr fb (fun _ _ h => h)).rd rfl
  have p3 := (ka8.fr fb (fun h => h)).cell 3
  have q3 := kb.cell 3
  simp only [List.getElem?_toArray, List.getElem?_cons_zero, List.getElem?_cons_succ] at p3 q3
  rw [K1.out, HS.out] at s1
  rw [HS.out] at s2
  rw [K1.out] at p3
  have FB := Lib.hid fb
  clear C5 R8 f8 nF8 hk2 hk2b ho2 o1 ka8 KA O7 NPB NF6 fb kb
  go_wp2
  go_ret
  exact ⟨rfl, F9.out.trans FB.out (fun _ _ h => h)⟩
end Go.Proofs.Ytmlckocgahfnkaa
