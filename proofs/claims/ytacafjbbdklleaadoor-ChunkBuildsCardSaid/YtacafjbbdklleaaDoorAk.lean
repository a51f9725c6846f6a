/- chunk's law: a Broken's text; broken, at what the program's broken made. -/
import Derived.Test.YtacafjbbdklleaaDoorAi
import Derived.Test.YtacafjbbdklleaaDoorAj
namespace Go.Proofs.YtacafjbbdklleaaDoor
open Go.RowKit Go.Extern.Stop Go.Stop Go.Extern

def sChunk : ByteArray := ⟨#[99, 104, 117, 110, 107, 32]⟩
def sColon : ByteArray := ⟨#[58, 32]⟩
def brkText (id k : Int) : ByteArray := sChunk ++ strOf (Lib.itoa id) ++ sColon ++ wordOf k
theorem itoa_len {n : Int} (h0 : -9223372036854775808 ≤ n) (h1 : n ≤ 9223372036854775807) : (Lib.itoa n).length ≤ 21 := by
  unfold Lib.itoa; split
  · have := dec_len' (n := n.natAbs) (by omega)
    rw [List.length_cons]; omega
  · have := dec_len' (n := n.toNat) (by omega)
    omega
theorem itoaI_any (n : Int) (w : World) (h0 : -9223372036854775808 ≤ n) (h1 : n ≤ 9223372036854775807) (ht : PowT w) :
    Calls Tryd.prog 44 #[.int .i64 n] w fun e w' => e = .returned (.string (strOf (Lib.itoa n))) ∧ Fr (fun _ => False) w w' :=
  (Tryd.strconv_Itoa n h0 h1 w ht).mono fun e w' ⟨he, k, os, hw⟩ => ⟨he, hw ▸ fr_grow w k os⟩
theorem Tryd.methodErrorN (v : Value) (w : World) : (Go.method (166 + 100) 63 v "Error").run Tryd.prog w = .ok (27, v) w := by kernel_rfl

set_option maxRecDepth 100000 in
set_option maxHeartbeats 2000000 in
theorem brkError_any (g : Nat) (id k : Int) (w : World) (hk : Bad5 k) (h0 : -9223372036854775808 ≤ id) (h1 : id ≤ 9223372036854775807) (ht : PowT w) (c0 : w.cell? ⟨g, 0, none⟩ = some (.int .i64 id)) (c1 : w.cell? ⟨g, 1, none⟩ = some (.iface 63 (.int .i64 k))) :
    Calls Tryd.prog 29 #[.pointer (some ⟨g, 0, none⟩)] w fun e w' => e = .returned (.string (brkText id k)) ∧ Fr (fun _ => False) w w' := by
  have CI := Lib.hid (itoaI_any id w h0 h1 ht)
  have CW := Lib.hid (fun w' => word_any k w' hk)
  have HC1 := Lib.hid c1
  have HT : Hid (brkText id k = sChunk ++ strOf (Lib.itoa id) ++ sColon ++ wordOf k) := Lib.hid rfl
  have z1 : (strOf (Lib.itoa id)).size ≤ 21 := by rw [strOf_size]; exact itoa_len h0 h1
  have z2 := wordOf_size k
  have hgl : g < w.heap.size := World.block_lt_of_cell? w _ c1
  have mE := Tryd.methodErrorN
  generalize brkText id k = txt at *
  generalize strOf (Lib.itoa id) = t1 at *
  generalize wordOf k = t2 at *
  clear ht hk h0 h1
  unfold sChunk sColon at *
  have s1 : ¬ 9223372036854775807 < 6 + t1.size := by omega
  have s2 : ¬ 9223372036854775807 < 6 + t1.size + 2 := by omega
  have s3 : ¬ 9223372036854775807 < 6 + t1.size + 2 + t2.size := by omega
  go_enter Tryd.func29, Tryd.ntmps29
  go_wp2_with fail
  refine CI.out.mono ?_; rintro e w1 ⟨rfl, hf1⟩
  have F1 := Lib.hid hf1
  have c1' : w1.cell? ⟨g, 1, none⟩ = some (.iface 63 (.int .i64 k)) := by rw [hf1.cell hgl (fun h => h)]; exact HC1.out
  clear hf1 c0 c1
  go_wp2_with fail
  refine (CW.out _).mono ?_; rintro e w2 ⟨rfl, rfl⟩
  go_wp2
  go_ret
  exact ⟨by rw [HT.out]; rfl, F1.out⟩

set_option maxRecDepth 100000 in
set_option maxHeartbeats 4000000 in
theorem lawBroken_any (id k : Int) (w0 w : World) (v : Value) (h : BrkV id k w0 w v) (hk : k = 0 ∨ Bad5 k) (h0 : -9223372036854775808 ≤ id) (h1 : id ≤ 9223372036854775807) (ht : PowT w) (hE : ErrT w) :
    Calls Tryd.prog 10 #[v, .int .i64 id, .int .i64 k] w fun e w' => e = .returned (.bool true) ∧ Fr (fun _ => False) w w' := by
  unfold BrkV at h
  by_cases hz : k = 0
  · subst hz
    rw [if_pos rfl] at h
    subst h
    go_enter Tryd.func10, Tryd.ntmps10
    go_wp2
    go_ret
    exact ⟨rfl, Fr.refl _ _⟩
  · have hb5 : Bad5 k := by
      rcases hk with h | h
      · exact absurd h hz
      · exact h
    rw [if_neg hz] at h
    obtain ⟨g, rfl, hg, _⟩ := h
    have HG := Lib.hid hg
    obtain ⟨b, hb⟩ : ∃ b, w.heap.size = b := ⟨_, rfl⟩
    obtain ⟨W, hW⟩ : ∃ W, w.alloc (.cells #[.pointer none] 67) = W := ⟨_, rfl⟩
    have K1 : Bk W b 67 #[.pointer none] := by rw [← hW, ← hb]; exact Bk.new _ _ _
    have FW : Fr (fun _ => False) w W := by rw [← hW]; exact (Fr.refl _ _).alloc _
    have hgb : g < b := by rw [← hb]; exact hg.lt
    have CA := Lib.hid (as_broken ⟨b, 0, none⟩ ⟨g, 0, none⟩ (.pointer none) W (hE.fr FW (fun h => h)) (K1.cell 0) (K1.frozen 0))
    have HB := Lib.hid hb
    have HFW := Lib.hid FW
    have HPT := Lib.hid ht
    have HET := Lib.hid hE
    have HBAD := Lib.hid hb5
    have HI0 := Lib.hid h0
    have HI1 := Lib.hid h1
    have q1 : (k == 0) = false := by simp [hz]
    have q2 : (id != id) = false := by simp
    have HT : Hid (brkText id k = sChunk ++ strOf (Lib.itoa id) ++ sColon ++ wordOf k) := Lib.hid rfl
    have z1 : (strOf (Lib.itoa id)).size ≤ 21 := by rw [strOf_size]; exact itoa_len h0 h1
    have z2 := wordOf_size k
    have HK := Lib.hid hz
    clear hz hg K1 FW hE ht hk hb5 h0 h1
    go_enter Tryd.func10, Tryd.ntmps10
    go_wp2_with fail
    clear hW hb
    refine CA.out.mono ?_; rintro e w1 ⟨rfl, f1, c1⟩
    have F1 : Hid (Fr (fun _ => False) w w1) := Lib.hid (HFW.out.trans f1 (fun x hx e => by have := HB.out; have e' : x = b := e; omega))
    clear f1 CA HFW
    have G1 := HG.out.fr F1.out (fun h => h)
    have g0 := G1.cell 0
    have g1 := G1.cell 1
    have CI := Lib.hid (is_brk_any g k k w1 g1)
    rw [show (k == k) = true by simp] at CI
    clear G1
    go_wp2_with fail
    refine CI.out.mono ?_; rintro e w2 ⟨rfl, rfl⟩
    clear CI
    go_wp2_with fail
    refine (word_any k _ HBAD.out).mono ?_; rintro e w2 ⟨rfl, rfl⟩
    obtain ⟨b2, hb2⟩ : ∃ b2, w1.heap.size = b2 := ⟨_, rfl⟩
    obtain ⟨W2, hW2⟩ : ∃ W2, w1.alloc (.cells #[.pointer none] 74) = W2 := ⟨_, rfl⟩
    have K2 : Bk W2 b2 74 #[.pointer none] := by rw [← hW2, ← hb2]; exact Bk.new _ _ _
    have FW2 : Fr (fun _ => False) w1 W2 := by rw [← hW2]; exact (Fr.refl _ _).alloc _
    have F2 := Lib.hid (F1.out.trans FW2 (fun _ _ h => h))
    have CM := Lib.hid (as_miss ⟨b2, 0, none⟩ g k (.pointer none) W2 (HET.out.fr F2.out (fun h => h)) (K2.cell 0) ((HG.out.fr F2.out (fun h => h)).cell 1))
    have HC1 := Lib.hid c1
    have HFW2 := Lib.hid FW2
    clear K2 FW2
    go_wp2_with fail
    clear hW2 hb2
    refine CM.out.mono ?_; rintro e w3 ⟨rfl, hf3⟩
    have F3 := Lib.hid (F2.out.trans hf3 (fun _ _ h => h))
    have c1' : w3.cell? ⟨b, 0, none⟩ = some (.pointer (some ⟨g, 0, none⟩)) := by
      have hl := World.block_lt_of_cell? w1 _ HC1.out
      rw [(HFW2.out.trans hf3 (fun _ _ h => h)).cell hl (fun h => h)]; exact HC1.out
    have G3 := HG.out.fr F3.out (fun h => h)
    have CE := Lib.hid (brkError_any g id k w3 HBAD.out HI0.out HI1.out (HPT.out.fr F3.out (fun h => h)) (G3.cell 0) (G3.cell 1))
    have CD := Lib.hid (fun w' => decimal_any id w' HI0.out HI1.out)
    generalize brkText id k = txt at *
    generalize strOf (Lib.itoa id) = t1 at *
    generalize wordOf k = t2 at *
    have s1 : ¬ 9223372036854775807 < 6 + t1.size := by omega
    have s2 : ¬ 9223372036854775807 < 6 + t1.size + 2 := by omega
    have s3 : ¬ 9223372036854775807 < 6 + t1.size + 2 + t2.size := by omega
    unfold sChunk sColon at HT
    have b4 : (txt.toList == ((⟨#[99, 104, 117, 110, 107, 32]⟩ : ByteArray) ++ t1 ++ ⟨#[58, 32]⟩ ++ t2).toList) = true := by rw [HT.out]; simp
    clear hf3 G3 c1 g0 g1 CM
    go_wp2_with fail
    refine CE.out.mono ?_; rintro e w4 ⟨rfl, hf4⟩
    have F4 := Lib.hid (F3.out.trans hf4 (fun _ _ h => h))
    clear hf4 CE c1'
    go_wp2_with fail
    refine (CD.out _).mono ?_; rintro e w5 ⟨rfl, hf5⟩
    have F5 := Lib.hid (F4.out.trans hf5 (fun _ _ h => h))
    clear hf5 CD
    go_wp2
    go_ret
    exact ⟨rfl, F5.out⟩
end Go.Proofs.YtacafjbbdklleaaDoor
