/- The net's Wait. -/
import Derived.Test.YtmlckocgahfnkaaNe
namespace Go.Proofs.Ytmlckocgahfnkaa
open Go.RowKit

/-- A packet that was told: where its bytes lie. -/
structure KP where
  pk : Pk
  A : Option Addr
  c : Nat
instance : Inhabited KP := ⟨⟨default, none, 0⟩⟩
def KP.sl (k : KP) : Value := .slice k.A k.pk.bs.length k.c
def KP.cells (k : KP) : List Value := [.int .i64 k.pk.fr, .int .i64 k.pk.to, .int .i64 (k.pk.n : Int), k.sl]
def kpc (ks : List KP) : List Value := ks.flatMap KP.cells
theorem KP.cells_len (k : KP) : k.cells.length = 4 := rfl
theorem kpc_at {ks : List KP} {i j : Nat} (hi : i < ks.length) (hj : j < 4) : (kpc ks)[i * 4 + j]? = (ks.getD i default).cells[j]? := flat_at KP.cells_len hi hj
theorem kpc_len (ks : List KP) : (kpc ks).length = ks.length * 4 := flat_len KP.cells_len ks
theorem kpc_one (ks : List KP) : ∀ u ∈ kpc ks, u.oneCell' = true := by
  intro u hu
  obtain ⟨p, _, hp⟩ := List.mem_flatMap.1 hu
  simp [KP.cells, KP.sl] at hp
  rcases hp with rfl | rfl | rfl | rfl <;> rfl
/-- Packets told since w: a row of them at v, bytes of their own. -/
structure Told (w w' : World) (v : Value) (ks : List KP) : Prop where
  row : Row w' 48 4 v ks.length (kpc ks)
  new : ∀ k, v.ownBlock = some k → w.heap.size ≤ k
  own : ∀ k ∈ ks, Own8 w' 5 k.sl k.pk.bs
  newB : ∀ k ∈ ks, ∀ x, k.sl.ownBlock = some x → w.heap.size ≤ x
theorem Told.nil (w w' : World) : Told w w' (.slice none 0 0) [] := ⟨Row.nil _ _ _, fun k e => by simp [Value.ownBlock] at e, fun _ h => by simp at h, fun _ h => by simp at h⟩
theorem Told.fr0 {w w' w'' : World} {v : Value} {ks : List KP} (h : Told w w' v ks) (hf : Fr (fun _ => False) w' w'') : Told w w'' v ks :=
  ⟨h.row.fr0 hf, h.new, fun k hk => (h.own k hk).fr hf (fun _ _ h => h), h.newB⟩

theorem take_succ_getD {α : Type} [Inhabited α] {l : List α} {i : Nat} (h : i < l.length) : l.take (i + 1) = l.take i ++ [l.getD i default] := by
  rw [List.take_add_one]; simp [List.getD, h]
theorem getD_mem {α : Type} [Inhabited α] {l : List α} {i : Nat} (h : i < l.length) : l.getD i default ∈ l := by
  rw [show l.getD i default = l[i] by simp [List.getD, h]]; exact List.getElem_mem h

theorem Told.add {w wr w1 w2 : World} {u : Value} {ks : List KP} {K : KP} {o : Obj} {A2 : Option Addr} {c2 : Nat} (ht : Told w wr u ks) (hw : Fr (fun _ => False) w wr) (f1 : Fr (fun _ => False) wr w1) (hf2 : Fr (fun g => u.ownBlock = some g) (w1.alloc o) w2)
    (hr2 : Row w2 48 4 (.slice A2 (ks.length + 1) c2) (ks.length + 1) (kpc ks ++ K.cells)) (hm2 : Moved (w1.alloc o) u (.slice A2 (ks.length + 1) c2)) (ho : Own8 w1 5 K.sl K.pk.bs) (hnew : ∀ x, K.sl.ownBlock = some x → w.heap.size ≤ x) :
    Told w w2 (.slice A2 (ks.length + 1) c2) (ks ++ [K]) ∧ Fr (fun _ => False) w w2 := by
  have fa : Fr (fun _ => False) w1 (w1.alloc o) := (Fr.refl _ _).alloc _
  have hs := hw.size
  have hs1 := f1.size
  have hs2 := fa.size
  refine ⟨⟨?_, fun k e => ?_, fun k hk => ?_, fun k hk x e => ?_⟩, ?_⟩
  · simpa [kpc] using hr2
  · rcases hm2 with e1 | ⟨x, e1, hx⟩
    · exact ht.new k (e1.symm.trans e)
    · rw [e1] at e; injection e with e; omega
  · rcases List.mem_append.1 hk with hk | hk
    · refine (((ht.own k hk).fr f1 (fun _ _ h => h)).fr fa (fun _ _ h => h)).fr hf2 (fun x e e2 => ?_)
      obtain ⟨cur, hb⟩ := ht.row.bk e2
      exact (ht.own k hk).ne hb (by decide) e
    · simp at hk; subst hk
      refine (ho.fr fa (fun _ _ h => h)).fr hf2 (fun x e e2 => ?_)
      obtain ⟨cur, hb⟩ := ht.row.bk e2
      exact ho.ne (hb.fr f1 (fun h => h)) (by decide) e
  · rcases List.mem_append.1 hk with hk | hk
    · exact ht.newB k hk x e
    · simp at hk; subst hk; exact hnew x e
  · exact (hw.trans (f1.trans fa (fun _ _ h => h)) (fun _ _ h => h)).trans hf2 (fun x hx e => by have := ht.new x e; omega)
theorem Row.at4 {w : World} {T : TypeId} {n m c b off : Nat} {cs : List Value} (h : Row w T 4 (.slice (some ⟨b, off, none⟩) m c) n cs) {i : Nat} {v0 v1 v2 v3 : Value} (hv : ∀ j, j < 4 → cs[i * 4 + j]? = [v0, v1, v2, v3][j]?) :
    w.cell? ⟨b, off + i * 4, none⟩ = some v0 ∧ w.cell? ⟨b, off + i * 4 + 1, none⟩ = some v1 ∧ w.cell? ⟨b, off + i * 4 + 2, none⟩ = some v2 ∧ w.cell? ⟨b, off + i * 4 + 3, none⟩ = some v3 := by
  have e0 := h.cell (hv 0 (by omega))
  have e1 := h.cell (hv 1 (by omega))
  have e2 := h.cell (hv 2 (by omega))
  have e3 := h.cell (hv 3 (by omega))
  simp only [Nat.add_zero, ← Nat.add_assoc] at e0 e1 e2 e3
  exact ⟨e0, e1, e2, e3⟩
theorem NetM.at4 {w : World} {g mb b off c : Nat} {s : NS} {ps : List PL} (h : NetM w g s ⟨mb, .slice (some ⟨b, off, none⟩) ps.length c, ps⟩) {i : Nat} (hi : i < ps.length) :
    w.cell? ⟨b, off + i * 4, none⟩ = some (.int .i64 (ps.getD i default).pk.fr) ∧ w.cell? ⟨b, off + i * 4 + 1, none⟩ = some (.int .i64 (ps.getD i default).pk.to) ∧ w.cell? ⟨b, off + i * 4 + 2, none⟩ = some (.int .i64 ((ps.getD i default).pk.n : Int)) ∧ w.cell? ⟨b, off + i * 4 + 3, none⟩ = some (ps.getD i default).fn :=
  h.row.at4 (fun j hj => plc_at hi hj)

set_option maxRecDepth 100000 in
set_option maxHeartbeats 4000000 in
theorem wait_any (g : Nat) (s : NS) (m : NL) (w : World) (h : NetM w g s m) (hq : s.l.length ≤ 1048576) :
    Calls Try.prog 13 #[.pointer (some ⟨g, 0, none⟩)] w fun e w' => ∃ v ks, e = .returned v ∧ Told w w' v ks ∧ ks.map KP.pk = s.l ∧ Fr (fun _ => False) w w' := by
  obtain ⟨A, c, hLV, hlc, hcm, hA⟩ := h.row.form
  have hll := h.ll
  obtain ⟨mb, LV, ps⟩ := m
  simp only at *
  subst hLV
  have c3 : w.cell? ⟨g, 3, none⟩ = some (.slice A ps.length c) := h.cells rfl
  have H := Lib.hid h
  have HLL := Lib.hid hll
  have HA := Lib.hid hA
  clear h hll hA hcm hlc
  obtain ⟨n, hn⟩ : ∃ n, ps.length = n := ⟨_, rfl⟩
  have hnb : (n : Int) ≤ 1048576 := by have := HLL.out; omega
  have HN := Lib.hid hn
  rw [hn] at c3
  clear hn
  go_enter Try.func13, Try.ntmps13
  go_wp2_with fail
  go_loopw [3, 11] (fun u i wr => ∃ (k : Nat) (v : Value) (ks : List KP), u = v ∧ i = .int .i64 (k : Int) ∧ k ≤ n ∧ Told w wr v ks ∧ ks.map KP.pk = s.l.take k ∧ Fr (fun _ => False) w wr) (fun _ i _ => n - (intOf i).toNat)
  case atStart => exact ⟨0, _, [], rfl, rfl, Nat.zero_le _, Told.nil _ _, by simp, Fr.refl _ _⟩
  case round =>
    obtain ⟨k, v, ks, rfl, rfl, hk, ht, hks, hf⟩ := hrel
    have HT := Lib.hid ht
    have HKS := Lib.hid hks
    have HF := Lib.hid hf
    clear ht hks hf c3
    by_cases hlt : k < n
    · have hlt' : (k : Int) < n := by omega
      have hk0 : (0 : Int) ≤ (k : Int) := by omega
      have hkp : k < ps.length := by rw [HN.out]; exact hlt
      obtain ⟨b, off, rfl⟩ := HA.out (by omega)
      have hp := getD_mem hkp
      obtain ⟨e0, e1, e2, e3⟩ := (H.out.fr0 HF.out).at4 hkp
      have hh := H.out.each _ hp
      have HPK := Lib.hid (H.out.pk hkp)
      generalize ps.getD k default = p at *
      unfold PL.fn at e3
      have fa : Fr (fun _ => False) wr (wr.alloc (.cells #[.int .i64 p.pk.fr, .int .i64 p.pk.to, .int .i64 (p.pk.n : Int), .func (.func 44) #[] #[.pointer (some ⟨p.b1, 0, none⟩), .pointer (some ⟨p.b2, 0, none⟩), .pointer (some ⟨p.b3, 0, none⟩), .pointer (some ⟨p.b4, 0, none⟩)]] 67)) := (Fr.refl _ _).alloc _
      have C := Lib.hid (hand_any p _ ((hh.fr HF.out (fun _ _ h => h)).fr fa (fun _ _ h => h)))
      have FA := Lib.hid fa
      clear hh fa
      go_wp2_with fail
      refine C.out.mono ?_; rintro e w1 ⟨A1, c1, rfl, ho, hfr⟩
      have f1 : Fr (fun _ => False) wr w1 := FA.out.trans hfr.1 (fun _ _ h => h)
      have F1 := Lib.hid f1
      have hrow := ((HT.out.row.fr0 f1).fr0 ((Fr.refl _ w1).alloc (.cells #[.int .i64 p.pk.fr, .int .i64 p.pk.to, .int .i64 (p.pk.n : Int), .slice A1 p.pk.bs.length c1] 48)))
      have hsl : Sl (w1.alloc (.cells #[.int .i64 p.pk.fr, .int .i64 p.pk.to, .int .i64 (p.pk.n : Int), .slice A1 p.pk.bs.length c1] 48)) 4 (.slice (some ⟨w1.heap.size, 0, none⟩) 1 1) 1 (KP.mk p.pk A1 c1).cells := Sl.at rfl rfl (fun j u hu => by rw [Nat.zero_add, (Bk.new w1 _ _).cell]; simpa [KP.cells, KP.sl] using hu)
      have HO := Lib.hid ho
      have HNW := Lib.hid (fun x hx => by have h1 := hfr.2 x hx; have h2 := FA.out.size; have h3 := HF.out.size; omega : ∀ x, (Value.slice A1 p.pk.bs.length c1).ownBlock = some x → w.heap.size ≤ x)
      have HKL := Lib.hid (show ks.length ≤ 1048575 by have h1 := congrArg List.length HKS.out; have h2 := HLL.out; simp at h1; omega)
      clear ho hfr f1 e0 e1 e2 e3
      go_wp2_with (at_builtin; (refine wpList_appendR Try.teK rfl (.tmp 15) (.tmp 19) rfl u3 ks.length (kpc ks) rfl hrow _ 1 (KP.mk p.pk A1 c1).cells rfl hsl (fun u hu => kpc_one [KP.mk p.pk A1 c1] u (by simpa [kpc] using hu)) (by have := HKL.out; unfold maxLen; omega) (by have := HKL.out; omega) ?_; intro A2 c2 w2 hr2 hf2 hm2; have HR2 := Lib.hid hr2; have HF2 := Lib.hid hf2; have HM2 := Lib.hid hm2; clear hrow hsl hr2 hf2 hm2))
      obtain ⟨t2, g2⟩ := Told.add HT.out HF.out F1.out HF2.out HR2.out HM2.out HO.out HNW.out
      have T2 := Lib.hid t2
      have G2 := Lib.hid g2
      clear t2 g2
      refine ⟨⟨k + 1, .slice A2 (ks.length + 1) c2, ks ++ [KP.mk p.pk A1 c1], rfl, by simp, by omega, T2.out, ?_, G2.out⟩, ?_⟩
      · rw [take_succ_getD (by have := HLL.out; omega), ← HKS.out, HPK.out]; simp
      · first | omega | (show _ < _; simp [intOf]; omega)
    · obtain rfl : k = n := by omega
      go_wp2
      go_ret
      exact ⟨_, ks, rfl, HT.out, by rw [HKS.out, List.take_of_length_le (by have h1 := HN.out; have h2 := HLL.out; omega)], HF.out⟩
end Go.Proofs.Ytmlckocgahfnkaa
