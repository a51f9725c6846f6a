/- match: lists of a law's own; known. -/
import Derived.Test.YtkinbcmnfpkncaaRe
namespace Go.Proofs.Ytkinbcmnfpkncaa
open Go.RowKit Go.Maps

set_option maxRecDepth 100000 in
set_option maxHeartbeats 2000000 in
theorem pushNo_I {w : World} {g : Nat} {F : Nat → Prop} {t : MT Int} (h : Mt 55 61 IV w g F t) {c : Int} (hc : I64 c) (x : Value) (hnf : t.full c = true) :
    Calls Try.prog 9 #[.pointer (some ⟨g, 0, none⟩), .int .i64 c, x] w fun e w' => e = .returned (.int .i64 4) ∧ Fr (fun _ => False) w w' := by
  obtain ⟨br, D, h⟩ := h
  have CF := Lib.hid (full_I h hc)
  rw [hnf] at CF
  clear h hc
  go_enter Try.func9, Try.ntmps9
  go_wp2_with fail
  refine CF.out.mono ?_; rintro e w1 ⟨rfl, hf⟩
  have HF := Lib.hid hf
  clear hf CF
  go_wp2
  go_ret
  exact ⟨rfl, HF.out⟩

/-- Lists of a law's own. -/
abbrev KI (w0 w : World) (g : Nat) (t : MT Int) : Prop := Kt 55 61 IV w0 w g t
theorem KI.fr {w0 w w' : World} {g : Nat} {t : MT Int} (h : KI w0 w g t) (hf : Fr (fun _ => False) w w') : KI w0 w' g t := by
  obtain ⟨F, h1, h2, h3⟩ := h
  exact ⟨F, h1.fr0 hf, h2, h3.trans hf (fun _ _ h => h)⟩
theorem KI.old {w0 w : World} {g : Nat} {t : MT Int} (h : KI w0 w g t) : Fr (fun _ => False) w0 w := h.choose_spec.2.2
theorem KI.made {w0 w : World} (hf : Fr (fun _ => False) w0 w) {most : Int} (h1 : 1 ≤ most) (h2 : most ≤ 65536) :
    Calls Try.prog 7 #[.int .i64 most] w fun e w' => ∃ g, e = .returned (.tuple #[.pointer (some ⟨g, 0, none⟩), .int .i64 0]) ∧ KI w0 w' g (newMT Int most) ∧ w.heap.size ≤ g := by
  refine (new_I h1 h2 w).mono ?_
  rintro e w' ⟨g, rfl, hg, h3, h4⟩
  exact ⟨g, rfl, ⟨_, h4, fun k hk => Nat.le_trans hf.size hk.1, hf.trans h3 (fun _ _ h => h)⟩, hg⟩
theorem KI.push {w0 w : World} {g : Nat} {t : MT Int} (h : KI w0 w g t) (ok : t.ok) (hp : t.pushed ≤ 1000000) {c : Int} (hc : I64 c) (x : Int) (hnf : t.full c = false) :
    Calls Try.prog 9 #[.pointer (some ⟨g, 0, none⟩), .int .i64 c, .int .i64 x] w fun e w' => e = .returned (.int .i64 0) ∧ KI w0 w' g (t.push c x) := by
  obtain ⟨F, h1, h2, h3⟩ := h
  refine (push_I h1 ok hp hc (x := x) hnf).mono ?_
  rintro e w' ⟨rfl, F', k1, k2, k3⟩
  refine ⟨rfl, F', k1, fun y hy => ?_, h3.trans k2 (fun y hy e => by have := h2 y e; omega)⟩
  rcases k3 y hy with e | e
  · exact h2 y e
  · have := h3.size; omega
theorem KI.pushNo {w0 w : World} {g : Nat} {t : MT Int} (h : KI w0 w g t) {c : Int} (hc : I64 c) (x : Value) (hnf : t.full c = true) :
    Calls Try.prog 9 #[.pointer (some ⟨g, 0, none⟩), .int .i64 c, x] w fun e w' => e = .returned (.int .i64 4) ∧ KI w0 w' g t := by
  have h0 := h
  obtain ⟨F, h1, h2, h3⟩ := h
  refine (pushNo_I h1 hc x hnf).mono ?_
  rintro e w' ⟨rfl, hf⟩
  exact ⟨rfl, h0.fr hf⟩
theorem KI.pop {w0 w : World} {g : Nat} {t : MT Int} (h : KI w0 w g t) (hp : t.pushed ≤ 1000000) {c : Int} (hc : I64 c) {v b : Value} (hv : hd_I (t.row c) = #[v, b]) :
    Calls Try.prog 11 #[.pointer (some ⟨g, 0, none⟩), .int .i64 c] w fun e w' => e = .returned (.tuple #[v, b]) ∧ KI w0 w' g (t.pop c) := by
  obtain ⟨F, h1, h2, h3⟩ := h
  refine (pop_I h1 hp hc).mono ?_
  rintro e w' ⟨rfl, F', k1, k2, k3⟩
  refine ⟨by rw [← hv], F', k1, fun y hy => ?_, h3.trans k2 (fun y hy e => by have := h2 y e; omega)⟩
  rcases k3 y hy with e | e
  · exact h2 y e
  · have := h3.size; omega
theorem KI.peek {w0 w : World} {g : Nat} {t : MT Int} (h : KI w0 w g t) {c : Int} (hc : I64 c) {v b : Value} (hv : hd_I (t.row c) = #[v, b]) :
    Calls Try.prog 29 #[.pointer (some ⟨g, 0, none⟩), .int .i64 c] w fun e w' => e = .returned (.tuple #[v, b]) ∧ w' = w := by
  obtain ⟨F, ⟨br, D, h1⟩, h2, h3⟩ := h
  refine (peek_I h1 hc).mono ?_
  rintro e w' ⟨rfl, rfl⟩
  exact ⟨by rw [← hv], rfl⟩
theorem KI.len {w0 w : World} {g : Nat} {t : MT Int} (h : KI w0 w g t) {c : Int} (hc : I64 c) :
    Calls Try.prog 19 #[.pointer (some ⟨g, 0, none⟩), .int .i64 c] w fun e w' => e = .returned (.int .i64 ((t.row c).length : Nat)) ∧ w' = w := by
  obtain ⟨F, ⟨br, D, h1⟩, h2, h3⟩ := h
  exact len_I h1 hc
theorem KI.full {w0 w : World} {g : Nat} {t : MT Int} (h : KI w0 w g t) {c : Int} (hc : I64 c) :
    Calls Try.prog 28 #[.pointer (some ⟨g, 0, none⟩), .int .i64 c] w fun e w' => e = .returned (.bool (t.full c)) ∧ KI w0 w' g t := by
  have h0 := h
  obtain ⟨F, ⟨br, D, h1⟩, h2, h3⟩ := h
  refine (full_I h1 hc).mono ?_
  rintro e w' ⟨rfl, hf⟩
  exact ⟨rfl, h0.fr hf⟩

set_option maxRecDepth 100000 in
set_option maxHeartbeats 2000000 in
theorem pushNo_S {w : World} {g : Nat} {F : Nat → Prop} {t : MT ByteArray} (h : Mt 81 84 Value.string w g F t) {c : Int} (hc : I64 c) (x : Value) (hnf : t.full c = true) :
    Calls Try.prog 23 #[.pointer (some ⟨g, 0, none⟩), .int .i64 c, x] w fun e w' => e = .returned (.int .i64 4) ∧ Fr (fun _ => False) w w' := by
  obtain ⟨br, D, h⟩ := h
  have CF := Lib.hid (full_S h hc)
  rw [hnf] at CF
  clear h hc
  go_enter Try.func23, Try.ntmps23
  go_wp2_with fail
  refine CF.out.mono ?_; rintro e w1 ⟨rfl, hf⟩
  have HF := Lib.hid hf
  clear hf CF
  go_wp2
  go_ret
  exact ⟨rfl, HF.out⟩

/-- Lists of a law's own. -/
abbrev KS (w0 w : World) (g : Nat) (t : MT ByteArray) : Prop := Kt 81 84 Value.string w0 w g t
theorem KS.fr {w0 w w' : World} {g : Nat} {t : MT ByteArray} (h : KS w0 w g t) (hf : Fr (fun _ => False) w w') : KS w0 w' g t := by
  obtain ⟨F, h1, h2, h3⟩ := h
  exact ⟨F, h1.fr0 hf, h2, h3.trans hf (fun _ _ h => h)⟩
theorem KS.old {w0 w : World} {g : Nat} {t : MT ByteArray} (h : KS w0 w g t) : Fr (fun _ => False) w0 w := h.choose_spec.2.2
theorem KS.made {w0 w : World} (hf : Fr (fun _ => False) w0 w) {most : Int} (h1 : 1 ≤ most) (h2 : most ≤ 65536) :
    Calls Try.prog 22 #[.int .i64 most] w fun e w' => ∃ g, e = .returned (.tuple #[.pointer (some ⟨g, 0, none⟩), .int .i64 0]) ∧ KS w0 w' g (newMT ByteArray most) ∧ w.heap.size ≤ g := by
  refine (new_S h1 h2 w).mono ?_
  rintro e w' ⟨g, rfl, hg, h3, h4⟩
  exact ⟨g, rfl, ⟨_, h4, fun k hk => Nat.le_trans hf.size hk.1, hf.trans h3 (fun _ _ h => h)⟩, hg⟩
theorem KS.push {w0 w : World} {g : Nat} {t : MT ByteArray} (h : KS w0 w g t) (ok : t.ok) (hp : t.pushed ≤ 1000000) {c : Int} (hc : I64 c) (x : ByteArray) (hnf : t.full c = false) :
    Calls Try.prog 23 #[.pointer (some ⟨g, 0, none⟩), .int .i64 c, .string x] w fun e w' => e = .returned (.int .i64 0) ∧ KS w0 w' g (t.push c x) := by
  obtain ⟨F, h1, h2, h3⟩ := h
  refine (push_S h1 ok hp hc (x := x) hnf).mono ?_
  rintro e w' ⟨rfl, F', k1, k2, k3⟩
  refine ⟨rfl, F', k1, fun y hy => ?_, h3.trans k2 (fun y hy e => by have := h2 y e; omega)⟩
  rcases k3 y hy with e | e
  · exact h2 y e
  · have := h3.size; omega
theorem KS.pushNo {w0 w : World} {g : Nat} {t : MT ByteArray} (h : KS w0 w g t) {c : Int} (hc : I64 c) (x : Value) (hnf : t.full c = true) :
    Calls Try.prog 23 #[.pointer (some ⟨g, 0, none⟩), .int .i64 c, x] w fun e w' => e = .returned (.int .i64 4) ∧ KS w0 w' g t := by
  have h0 := h
  obtain ⟨F, h1, h2, h3⟩ := h
  refine (pushNo_S h1 hc x hnf).mono ?_
  rintro e w' ⟨rfl, hf⟩
  exact ⟨rfl, h0.fr hf⟩
theorem KS.pop {w0 w : World} {g : Nat} {t : MT ByteArray} (h : KS w0 w g t) (hp : t.pushed ≤ 1000000) {c : Int} (hc : I64 c) {v b : Value} (hv : hd_S (t.row c) = #[v, b]) :
    Calls Try.prog 24 #[.pointer (some ⟨g, 0, none⟩), .int .i64 c] w fun e w' => e = .returned (.tuple #[v, b]) ∧ KS w0 w' g (t.pop c) := by
  obtain ⟨F, h1, h2, h3⟩ := h
  refine (pop_S h1 hp hc).mono ?_
  rintro e w' ⟨rfl, F', k1, k2, k3⟩
  refine ⟨by rw [← hv], F', k1, fun y hy => ?_, h3.trans k2 (fun y hy e => by have := h2 y e; omega)⟩
  rcases k3 y hy with e | e
  · exact h2 y e
  · have := h3.size; omega
theorem KS.peek {w0 w : World} {g : Nat} {t : MT ByteArray} (h : KS w0 w g t) {c : Int} (hc : I64 c) {v b : Value} (hv : hd_S (t.row c) = #[v, b]) :
    Calls Try.prog 25 #[.pointer (some ⟨g, 0, none⟩), .int .i64 c] w fun e w' => e = .returned (.tuple #[v, b]) ∧ w' = w := by
  obtain ⟨F, ⟨br, D, h1⟩, h2, h3⟩ := h
  refine (peek_S h1 hc).mono ?_
  rintro e w' ⟨rfl, rfl⟩
  exact ⟨by rw [← hv], rfl⟩
theorem KS.len {w0 w : World} {g : Nat} {t : MT ByteArray} (h : KS w0 w g t) {c : Int} (hc : I64 c) :
    Calls Try.prog 26 #[.pointer (some ⟨g, 0, none⟩), .int .i64 c] w fun e w' => e = .returned (.int .i64 ((t.row c).length : Nat)) ∧ w' = w := by
  obtain ⟨F, ⟨br, D, h1⟩, h2, h3⟩ := h
  exact len_S h1 hc
theorem KS.full {w0 w : World} {g : Nat} {t : MT ByteArray} (h : KS w0 w g t) {c : Int} (hc : I64 c) :
    Calls Try.prog 27 #[.pointer (some ⟨g, 0, none⟩), .int .i64 c] w fun e w' => e = .returned (.bool (t.full c)) ∧ KS w0 w' g t := by
  have h0 := h
  obtain ⟨F, ⟨br, D, h1⟩, h2, h3⟩ := h
  refine (full_S h1 hc).mono ?_
  rintro e w' ⟨rfl, hf⟩
  exact ⟨rfl, h0.fr hf⟩

theorem i64_1 : I64 1 := ⟨by omega, by omega⟩
theorem i64_2 : I64 2 := ⟨by omega, by omega⟩
theorem i64_3 : I64 3 := ⟨by omega, by omega⟩
def kn0 : MT ByteArray := newMT ByteArray 2
def kn1 : MT ByteArray := kn0.push 1 ⟨#[97]⟩
def kn2 : MT ByteArray := kn1.push 2 ⟨#[98]⟩
def kn3 : MT ByteArray := kn2.push 1 ⟨#[99]⟩
def kn4 : MT ByteArray := kn3.pop 1
theorem kn0_ok : kn0.ok := newMT_ok (by omega) (by omega)
theorem kn0_f : kn0.full 1 = false := by rfl
theorem kn1_ok : kn1.ok := kn0_ok.push kn0_f _
theorem kn1_f : kn1.full 2 = false := by rfl
theorem kn2_ok : kn2.ok := kn1_ok.push kn1_f _
theorem kn2_f : kn2.full 1 = false := by rfl
theorem kn3_f : kn3.full 1 = true := by rfl
theorem kn3_p : hd_S (kn3.row 1) = #[.string ⟨#[97]⟩, .bool true] := by rfl
theorem kn4_p : hd_S (kn4.row 3) = #[.string ⟨#[]⟩, .bool false] := by rfl
theorem kn4_l : (kn4.row 1).length = 1 := by rfl
theorem kn4_f : kn4.full 1 = false := by rfl

set_option maxRecDepth 100000 in
set_option maxHeartbeats 4000000 in
theorem known_any (w : World) :
    Calls Try.prog 6 #[] w fun e w' => e = .returned (.bool true) ∧ Fr (fun _ => False) w w' := by
  go_enter Try.func6, Try.ntmps6
  go_wp2_with fail
  refine (KS.made (Fr.refl _ w) (most := 2) (by omega) (by omega)).mono ?_; rintro e w1 ⟨g, rfl, h1, -⟩
  have H1 : Hid (KS w w1 g kn0) := Lib.hid h1
  clear h1
  go_wp2_with fail
  refine (H1.out.push kn0_ok (by decide) i64_1 ⟨#[97]⟩ kn0_f).mono ?_; rintro e w2 ⟨rfl, h2⟩
  have H2 : Hid (KS w w2 g kn1) := Lib.hid h2
  clear h2 H1
  go_wp2_with fail
  refine (H2.out.push kn1_ok (by decide) i64_2 ⟨#[98]⟩ kn1_f).mono ?_; rintro e w3 ⟨rfl, h3⟩
  have H3 : Hid (KS w w3 g kn2) := Lib.hid h3
  clear h3 H2
  go_wp2_with fail
  refine (H3.out.push kn2_ok (by decide) i64_1 ⟨#[99]⟩ kn2_f).mono ?_; rintro e w4 ⟨rfl, h4⟩
  have H4 : Hid (KS w w4 g kn3) := Lib.hid h4
  clear h4 H3
  go_wp2_with fail
  refine (H4.out.pushNo i64_1 (.string ⟨#[100]⟩) kn3_f).mono ?_; rintro e w5 ⟨rfl, h5⟩
  have H5 : Hid (KS w w5 g kn3) := Lib.hid h5
  clear h5 H4
  go_wp2_with fail
  refine (H5.out.pop (by decide) i64_1 kn3_p).mono ?_; rintro e w6 ⟨rfl, h6⟩
  have H6 : Hid (KS w w6 g kn4) := Lib.hid h6
  clear h6 H5
  go_wp2_with fail
  refine (H6.out.peek i64_3 kn4_p).mono ?_; rintro e w7 ⟨rfl, rfl⟩
  go_wp2_with fail
  refine (H6.out.len i64_1).mono ?_; rintro e w8 ⟨rfl, rfl⟩
  rw [kn4_l]
  go_wp2_with fail
  refine (H6.out.full i64_1).mono ?_; rintro e w9 ⟨rfl, h9⟩
  rw [kn4_f]
  have H9 := Lib.hid h9
  clear h9
  go_wp2
  go_ret
  exact ⟨rfl, H9.out.old⟩
end Go.Proofs.Ytkinbcmnfpkncaa
