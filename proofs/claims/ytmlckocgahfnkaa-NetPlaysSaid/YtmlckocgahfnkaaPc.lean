/- The reference's Take. -/
import Derived.Test.YtmlckocgahfnkaaPb
namespace Go.Proofs.Ytmlckocgahfnkaa
open Go.RowKit

set_option maxRecDepth 100000 in
set_option maxHeartbeats 4000000 in
theorem rtake_none (g : Nat) (s : NS) (m : RL) (a : Int) (w : World) (h : RefM w g s m) (hw : s.waits a = false) :
    Calls Try.prog 22 #[.pointer (some ⟨g, 0, none⟩), .int .i64 a] w fun e w' => e = .returned (.tuple #[.agg #[.int .i64 0, .int .i64 0, .int .i64 0, .slice none 0 0], .int .i64 2]) ∧ Fr (fun _ => False) w w' := by
  have fa : Fr (fun _ => False) w (w.alloc (.cells #[.int .i64 0, .int .i64 0, .int .i64 0, .slice none 0 0] 61)) := (Fr.refl _ _).alloc _
  have ka := Bk.new w 61 #[.int .i64 0, .int .i64 0, .int .i64 0, .slice none 0 0]
  obtain ⟨A, c, hLV, _, _, _⟩ := h.row.form
  have c2 : (w.alloc (.cells #[.int .i64 0, .int .i64 0, .int .i64 0, .slice none 0 0] 61)).cell? ⟨g, 2, none⟩ = some (.slice A m.ks.length c) := by rw [← hLV]; exact (h.fr0 fa).cells rfl
  unfold NS.waits at hw
  rw [← h.ll] at hw
  obtain ⟨W, hW⟩ : ∃ W, w.alloc (.cells #[.int .i64 0, .int .i64 0, .int .i64 0, .slice none 0 0] 61) = W := ⟨_, rfl⟩
  obtain ⟨z, hz⟩ : ∃ z, w.heap.size = z := ⟨_, rfl⟩
  have FA := Lib.hid fa
  rw [hz] at ka
  have r0 := ka.cell 0
  have r1 := ka.cell 1
  have r2 := ka.cell 2
  have r3 := ka.cell 3
  simp at r0 r1 r2 r3
  generalize m.ks.length = n at *
  clear h hLV fa ka hz hW
  by_cases h0 : a < 0
  · have d0 : decide (a < 0) = true := by simpa using h0
    go_enter Try.func22, Try.ntmps22
    go_wp2
    refine bodyPost_ret (v := .tuple #[.agg #[.int .i64 0, .int .i64 0, .int .i64 0, .slice none 0 0], .int .i64 2]) (by simp [results, Try.results22, go_sem]) rfl ⟨rfl, ?_⟩
    exact FA.out
  · have d0 : decide (a < 0) = false := by simpa using h0
    have d1 : (n : Int) ≤ a := by simp at hw; omega
    go_enter Try.func22, Try.ntmps22
    go_wp2
    refine bodyPost_ret (v := .tuple #[.agg #[.int .i64 0, .int .i64 0, .int .i64 0, .slice none 0 0], .int .i64 2]) (by simp [results, Try.results22, go_sem]) rfl ⟨rfl, ?_⟩
    exact FA.out

set_option maxRecDepth 100000 in
set_option maxHeartbeats 4000000 in
theorem rtake_any (g i : Nat) (s : NS) (m : RL) (w : World) (h : RefM w g s m) (hi : i < s.l.length) (hq : s.l.length ≤ 1048576) :
    Calls Try.prog 22 #[.pointer (some ⟨g, 0, none⟩), .int .i64 (i : Int)] w fun e w' => ∃ K : KP, e = .returned (.tuple #[.agg #[.int .i64 K.pk.fr, .int .i64 K.pk.to, .int .i64 (K.pk.n : Int), .slice K.A K.pk.bs.length K.c], .int .i64 0]) ∧ K.pk = s.l.getD i default ∧ Own8 w' 5 K.sl K.pk.bs ∧
      ∃ m', RefM w' g (s.drop i) m' ∧ Fr (fun x => x = g) w w' ∧ ∀ x, RB g m' x → RB g m x ∨ w.heap.size ≤ x := by
  obtain ⟨A, c, hLV, hlc, hcm, hA⟩ := h.row.form
  have hll := h.ll
  have hpk := h.pk (i := i) (by omega)
  have fa : Fr (fun _ => False) w (w.alloc (.cells #[.int .i64 0, .int .i64 0, .int .i64 0, .slice none 0 0] 61)) := (Fr.refl _ _).alloc _
  have ka := Bk.new w 61 #[.int .i64 0, .int .i64 0, .int .i64 0, .slice none 0 0]
  have hs : (w.alloc (.cells #[.int .i64 0, .int .i64 0, .int .i64 0, .slice none 0 0] 61)).heap.size = w.heap.size + 1 := by simp
  have H := Lib.hid h
  have hkm := getD_mem (l := m.ks) (i := i) (by omega)
  obtain ⟨LV, CV, ks⟩ := m
  simp only at *
  subst hLV
  obtain ⟨b, off, rfl⟩ := hA (by omega)
  have hb := World.block_lt_of_cell? w _ (h.at4 (i := i) (by omega)).1
  simp only at hb
  obtain ⟨e0, e1, e2, e3⟩ := (h.fr0 fa).at4 (i := i) (by omega)
  have c2 : (w.alloc (.cells #[.int .i64 0, .int .i64 0, .int .i64 0, .slice none 0 0] 61)).cell? ⟨g, 2, none⟩ = some (.slice (some ⟨b, off, none⟩) ks.length c) := (h.fr0 fa).cells rfl
  have hgl := h.blk.lt
  have HO := Lib.hid (h.each _ hkm)
  have HGD := Lib.hid (h.gd hkm)
  generalize ks.getD i default = q at *
  unfold KP.sl at e3
  have fb : Fr (fun _ => False) w ((w.alloc (.cells #[.int .i64 0, .int .i64 0, .int .i64 0, .slice none 0 0] 61)).alloc (.cells #[.int .i64 q.pk.fr, .int .i64 q.pk.to, .int .i64 (q.pk.n : Int), .slice q.A q.pk.bs.length q.c] 61)) := fa.alloc _
  have kb := Bk.new (w.alloc (.cells #[.int .i64 0, .int .i64 0, .int .i64 0, .slice none 0 0] 61)) 61 #[.int .i64 q.pk.fr, .int .i64 q.pk.to, .int .i64 (q.pk.n : Int), .slice q.A q.pk.bs.length q.c]
  have CP := Lib.hid (rwithout_any g s _ i _ (h.fr0 fb) hi hq)
  have hs2 : ((w.alloc (.cells #[.int .i64 0, .int .i64 0, .int .i64 0, .slice none 0 0] 61)).alloc (.cells #[.int .i64 q.pk.fr, .int .i64 q.pk.to, .int .i64 (q.pk.n : Int), .slice q.A q.pk.bs.length q.c] 61)).heap.size = w.heap.size + 2 := by simp
  have hi0 : (0 : Int) ≤ (i : Int) := by omega
  obtain ⟨n, hn⟩ : ∃ n, ks.length = n := ⟨_, rfl⟩
  rw [hn] at c2 hll hlc
  have hlt : (i : Int) < (n : Int) := by omega
  have hn2 : (n : Int) ≤ 1048576 := by omega
  have HPK := Lib.hid hpk
  have FB := Lib.hid fb
  have KA := Lib.hid (ka.fr (show Fr (fun _ => False) _ ((w.alloc (.cells #[.int .i64 0, .int .i64 0, .int .i64 0, .slice none 0 0] 61)).alloc (.cells #[.int .i64 q.pk.fr, .int .i64 q.pk.to, .int .i64 (q.pk.n : Int), .slice q.A q.pk.bs.length q.c] 61)) from (Fr.refl _ _).alloc _) (fun h => h))
  have KB := Lib.hid kb
  have HS := Lib.hid hs2
  rw [hs] at KB
  clear h hi hq ka kb fa fb hs2 hpk hll hkm hA hlc hcm hn
  go_enter Try.func22, Try.ntmps22
  go_wp2_with fail
  generalize (w.alloc (.cells #[.int .i64 0, .int .i64 0, .int .i64 0, .slice none 0 0] 61)).alloc (.cells #[.int .i64 q.pk.fr, .int .i64 q.pk.to, .int .i64 (q.pk.n : Int), .slice q.A q.pk.bs.length q.c] 61) = W at *
  refine CP.out.mono ?_; rintro e w3 ⟨rfl, m', h1, h2, h3⟩
  have hpb : Bk w3 (w.heap.size + 1) 61 #[.int .i64 q.pk.fr, .int .i64 q.pk.to, .int .i64 (q.pk.n : Int), .slice q.A q.pk.bs.length q.c] := KB.out.fr h2 (fun e => by omega)
  have hzb : Bk w3 w.heap.size 61 #[.int .i64 0, .int .i64 0, .int .i64 0, .slice none 0 0] := KA.out.fr h2 (fun e => by omega)
  have HZB := Lib.hid hzb
  have HPB := Lib.hid hpb
  have H1 := Lib.hid h1
  have H2 := Lib.hid h2
  have H3 := Lib.hid h3
  have p0 := hpb.cell 0
  have p1 := hpb.cell 1
  have p2 := hpb.cell 2
  have p3 := hpb.cell 3
  have r0 := hzb.cell 0
  have r1 := hzb.cell 1
  have r2 := hzb.cell 2
  have r3 := hzb.cell 3
  simp at p0 p1 p2 p3 r0 r1 r2 r3
  have y0 := hzb.frozen 0
  have y1 := hzb.frozen 1
  have y2 := hzb.frozen 2
  have y3 := hzb.frozen 3
  clear hpb hzb h1 h2 h3 CP e0 e1 e2 e3 c2
  go_wp2
  have hb := (((HZB.out.set 0 (.int .i64 q.pk.fr)).set 1 (.int .i64 q.pk.to)).set 2 (.int .i64 (q.pk.n : Int))).set 3 (.slice q.A q.pk.bs.length q.c)
  have f5 := (((Bk.fr_set (g := w.heap.size) (w := w3) 0 (.int .i64 q.pk.fr)).set 1 (.int .i64 q.pk.to)).set 2 (.int .i64 (q.pk.n : Int))).set 3 (.slice q.A q.pk.bs.length q.c)
  have m0 := hb.cell 0
  have m1 := hb.cell 1
  have m2 := hb.cell 2
  have m3 := hb.cell 3
  simp at m0 m1 m2 m3
  have hsz := HS.out
  have hnb : ∀ x, RB g m' x → ¬ x = w.heap.size := fun x hx e => by
    rcases H3.out x hx with h | h
    · have := H.out.lt h; omega
    · omega
  have f6 : Fr (fun x => x = g) w w3 := (FB.out.mono (fun _ _ h => h.elim)).trans H2.out (fun _ _ h => h)
  refine bodyPost_ret (v := .tuple #[.agg #[.int .i64 q.pk.fr, .int .i64 q.pk.to, .int .i64 (q.pk.n : Int), .slice q.A q.pk.bs.length q.c], .int .i64 0]) (by simp [results, Try.results22, go_sem, m0, m1, m2, m3]) rfl
    ⟨q, rfl, HPK.out.symm, (HO.out.fr f6 (fun x hx e => HGD.out (by rw [hx, e]))).fr f5 (fun x hx e => by have := HO.out.lt hx; omega), m', H1.out.fr f5 hnb, f6.trans f5 (fun x hx e => by omega), fun x hx => (H3.out x hx).imp id (fun h => by omega)⟩
end Go.Proofs.Ytmlckocgahfnkaa
