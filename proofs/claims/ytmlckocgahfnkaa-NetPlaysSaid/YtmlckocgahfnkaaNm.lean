/- The net's Take and Drop. -/
import Derived.Test.YtmlckocgahfnkaaNl
namespace Go.Proofs.Ytmlckocgahfnkaa
open Go.RowKit

theorem NetM.waitsC {w : World} {g : Nat} {s : NS} {m : NL} (h : NetM w g s m) (a : Int) :
    Calls Try.prog 36 #[.pointer (some ⟨g, 0, none⟩), .int .i64 a] w fun e w' => e = .returned (.bool (s.waits a)) ∧ w = w' := by
  obtain ⟨A, c, hLV, _, _, _⟩ := h.row.form
  have C := waits_any g m.ps.length c A a w (by rw [← hLV]; exact h.cells rfl)
  unfold NS.waits
  rw [← h.ll]
  exact C
theorem NS.waits_yes {s : NS} {i : Nat} (hi : i < s.l.length) : s.waits (i : Int) = true := by
  unfold NS.waits; simp; omega

theorem drop_none (g : Nat) (s : NS) (m : NL) (a : Int) (w : World) (h : NetM w g s m) (hw : s.waits a = false) :
    Calls Try.prog 23 #[.pointer (some ⟨g, 0, none⟩), .int .i64 a] w fun e w' => e = .returned (.int .i64 2) ∧ w = w' := by
  have C := Lib.hid (h.waitsC a)
  rw [hw] at C
  clear h
  go_enter Try.func23, Try.ntmps23
  go_wp2_with fail
  refine C.out.mono ?_; rintro e w1 ⟨rfl, rfl⟩
  go_wp2
  go_ret
  exact ⟨rfl, rfl⟩
theorem drop_any (g i : Nat) (s : NS) (m : NL) (w : World) (h : NetM w g s m) (hi : i < s.l.length) (hq : s.l.length ≤ 1048576) :
    Calls Try.prog 23 #[.pointer (some ⟨g, 0, none⟩), .int .i64 (i : Int)] w fun e w' => e = .returned (.int .i64 0) ∧ ∃ m', NetM w' g (s.drop i) m' ∧ Fr (NW g m) w w' ∧ ∀ k, NB g m' k → NB g m k := by
  have C := Lib.hid (h.waitsC (i : Int))
  rw [NS.waits_yes hi] at C
  have CP := Lib.hid (pull_any g i s m w h hi hq)
  clear h hi hq
  go_enter Try.func23, Try.ntmps23
  go_wp2_with fail
  refine C.out.mono ?_; rintro e w1 ⟨rfl, rfl⟩
  go_wp2_with fail
  refine CP.out.mono ?_; rintro e w1 ⟨p, m', rfl, _, _, _, h1, h2, h3⟩
  have H1 := Lib.hid h1
  have H2 := Lib.hid h2
  have H3 := Lib.hid h3
  clear h1 h2 h3 CP C
  go_wp2
  go_ret
  exact ⟨rfl, m', H1.out, H2.out, H3.out⟩

/-- What Take answers where there is none. -/
def TookNone (w : World) (e : Ending) (w' : World) : Prop := e = .returned (.tuple #[.agg #[.int .i64 0, .int .i64 0, .int .i64 0, .slice none 0 0], .int .i64 2]) ∧ Fr (fun _ => False) w w'
/-- What Take answers and leaves. -/
def Took (w : World) (g i : Nat) (s : NS) (m : NL) (e : Ending) (w' : World) : Prop :=
  ∃ (k : KP) (m' : NL), e = .returned (.tuple #[.agg #[.int .i64 k.pk.fr, .int .i64 k.pk.to, .int .i64 (k.pk.n : Int), .slice k.A k.pk.bs.length k.c], .int .i64 0]) ∧ k.pk = s.l.getD i default ∧ Own8 w' 5 k.sl k.pk.bs ∧ (∀ x, k.sl.ownBlock = some x → w.heap.size ≤ x) ∧
    NetM w' g (s.drop i) m' ∧ Fr (NW g m) w w' ∧ ∀ k, NB g m' k → NB g m k

theorem take_none (g : Nat) (s : NS) (m : NL) (a : Int) (w : World) (h : NetM w g s m) (hw : s.waits a = false) :
    Calls Try.prog 20 #[.pointer (some ⟨g, 0, none⟩), .int .i64 a] w fun e w' => TookNone w e w' := by
  have fa : Fr (fun _ => False) w (w.alloc (.cells #[.int .i64 0, .int .i64 0, .int .i64 0, .slice none 0 0] 48)) := (Fr.refl _ _).alloc _
  have C := Lib.hid ((h.fr0 fa).waitsC a)
  rw [hw] at C
  clear h
  go_enter Try.func20, Try.ntmps20
  go_wp2_with fail
  refine C.out.mono ?_; rintro e w1 ⟨rfl, rfl⟩
  go_wp2
  exact bodyPost_ret (v := .tuple #[.agg #[.int .i64 0, .int .i64 0, .int .i64 0, .slice none 0 0], .int .i64 2]) (by simp [results, Try.results20, go_sem]) rfl ⟨rfl, fa⟩

set_option maxRecDepth 100000 in
set_option maxHeartbeats 4000000 in
theorem take_any (g i : Nat) (s : NS) (m : NL) (w : World) (h : NetM w g s m) (hi : i < s.l.length) (hq : s.l.length ≤ 1048576) :
    Calls Try.prog 20 #[.pointer (some ⟨g, 0, none⟩), .int .i64 (i : Int)] w fun e w' => Took w g i s m e w' := by
  have fa : Fr (fun _ => False) w (w.alloc (.cells #[.int .i64 0, .int .i64 0, .int .i64 0, .slice none 0 0] 48)) := (Fr.refl _ _).alloc _
  have ka := Bk.new w 48 #[.int .i64 0, .int .i64 0, .int .i64 0, .slice none 0 0]
  have hs : (w.alloc (.cells #[.int .i64 0, .int .i64 0, .int .i64 0, .slice none 0 0] 48)).heap.size = w.heap.size + 1 := by simp
  have C := Lib.hid ((h.fr0 fa).waitsC (i : Int))
  rw [NS.waits_yes hi] at C
  have CP := Lib.hid (pull_any g i s m _ (h.fr0 fa) hi hq)
  have H := Lib.hid h
  have FA := Lib.hid fa
  have KA := Lib.hid ka
  have HS := Lib.hid hs
  clear h hi hq fa ka hs
  go_enter Try.func20, Try.ntmps20
  go_wp2_with fail
  refine C.out.mono ?_; rintro e w1 ⟨rfl, rfl⟩
  go_wp2_with fail
  generalize w.alloc (.cells #[.int .i64 0, .int .i64 0, .int .i64 0, .slice none 0 0] 48) = W at *
  refine CP.out.mono ?_; rintro e w1 ⟨p, m', rfl, hpk, hh, hpb, h1, h2, h3⟩
  have hgr : ∀ k, NB g m k → k < w.heap.size := fun k hk => H.out.lt hk
  have hra : Bk w1 w.heap.size 48 #[.int .i64 0, .int .i64 0, .int .i64 0, .slice none 0 0] := KA.out.fr h2 (fun e => Nat.lt_irrefl _ (hgr _ (.inl e)))
  have CH := Lib.hid (hand_any p w1 hh)
  have hfn : p.fn = .func (.func 44) #[] #[.pointer (some ⟨p.b1, 0, none⟩), .pointer (some ⟨p.b2, 0, none⟩), .pointer (some ⟨p.b3, 0, none⟩), .pointer (some ⟨p.b4, 0, none⟩)] := rfl
  rw [hfn]
  have hfi : ∀ (W : World) (a b c d : Value), (Instr.field 67 (.agg #[a, b, c, d]) 3).run Try.prog W = .ok d W := fun W a b c d => by kernel_rfl
  have HPK := Lib.hid hpk
  have HGR := Lib.hid hgr
  have HRA := Lib.hid hra
  have H1 := Lib.hid h1
  have H2 := Lib.hid h2
  have H3 := Lib.hid h3
  have HPB := Lib.hid hpb
  clear hpk hh hpb h1 h2 h3 hgr hra CP C hfn
  go_wp2_with fail
  refine CH.out.mono ?_; rintro e w2 ⟨A, c, rfl, ho, hfr⟩
  have hrb := HRA.out.fr hfr.1 (fun h => h)
  have HRB := Lib.hid hrb
  have HO := Lib.hid ho
  have HF := Lib.hid hfr
  have r0 : w2.cell? ⟨w.heap.size, 0, none⟩ = some (.int .i64 0) := hrb.cell 0
  have r1 : w2.cell? ⟨w.heap.size, 1, none⟩ = some (.int .i64 0) := hrb.cell 1
  have r2 : w2.cell? ⟨w.heap.size, 2, none⟩ = some (.int .i64 0) := hrb.cell 2
  have r3 : w2.cell? ⟨w.heap.size, 3, none⟩ = some (.slice none 0 0) := hrb.cell 3
  have y0 := hrb.frozen 0
  have y1 := hrb.frozen 1
  have y2 := hrb.frozen 2
  have y3 := hrb.frozen 3
  clear hrb ho hfr CH
  go_wp2
  have hb := (((HRB.out.set 0 (.int .i64 p.pk.fr)).set 1 (.int .i64 p.pk.to)).set 2 (.int .i64 (p.pk.n : Int))).set 3 (.slice A p.pk.bs.length c)
  have f5 := (((Bk.fr_set (g := w.heap.size) (w := w2) 0 (.int .i64 p.pk.fr)).set 1 (.int .i64 p.pk.to)).set 2 (.int .i64 (p.pk.n : Int))).set 3 (.slice A p.pk.bs.length c)
  have m0 := hb.cell 0
  have m1 := hb.cell 1
  have m2 := hb.cell 2
  have m3 := hb.cell 3
  simp at m0 m1 m2 m3
  have hs1 := H2.out.size
  have hnew : ∀ x, (Value.slice A p.pk.bs.length c).ownBlock = some x → w.heap.size + 1 ≤ x := fun x hx => by
    have h1 := HF.out.2 x hx
    have h2 := HS.out
    omega
  have hnb : ∀ k, NB g m' k → ¬ k = w.heap.size := fun k hk e => by have := HGR.out k (H3.out k hk); omega
  have h1 := (H1.out.fr0 HF.out.1).fr f5 hnb
  refine bodyPost_ret (v := .tuple #[.agg #[.int .i64 p.pk.fr, .int .i64 p.pk.to, .int .i64 (p.pk.n : Int), .slice A p.pk.bs.length c], .int .i64 0]) (by simp [results, Try.results20, go_sem, m0, m1, m2, m3]) rfl
    ⟨⟨p.pk, A, c⟩, m', rfl, HPK.out, HO.out.fr f5 (fun k hk e => by have := hnew k hk; omega), fun x hx => by have := hnew x hx; omega, h1, ?_, H3.out⟩
  have f6 : Fr (NW g m) w w2 := ((FA.out.mono (fun _ _ h => h.elim)).trans H2.out (fun _ _ h => h)).trans HF.out.1 (fun _ _ h => h.elim)
  exact f6.trans f5 (fun x hx e => by omega)
end Go.Proofs.Ytmlckocgahfnkaa
