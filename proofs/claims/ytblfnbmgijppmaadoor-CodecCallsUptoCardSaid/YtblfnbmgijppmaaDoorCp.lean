/- What every law asks first. -/
import Derived.Test.YtblfnbmgijppmaaDoorCo
import Derived.Test.YtblfnbmgijppmaaDoorStr
import Derived.Laws.BytesArg
import Derived.Lib.SlBytesConst
namespace Go.Proofs.YtblfnbmgijppmaaDoor
open Go.RowKit

theorem fold64 : foldN 64 = 128 := by unfold foldN; rw [if_pos (by omega)]; omega
theorem enc128 : enc 128 = [128, 1] := by
  rw [enc_ge 128 (Nat.le_refl _), enc_lt (128 / 128) (by omega)]
  decide +kernel
theorem enc4 : enc (2 * 2) = [4] := by
  rw [enc_lt (2 * 2) (by omega)]
  decide +kernel
theorem known1 : enc (foldN 64) ++ (enc (2 * 2) ++ [97, 98]) = [128, 1, 4, 97, 98] := by
  rw [fold64, enc128, enc4]
  decide +kernel
theorem known2 (wh : ByteArray) : stInt [128, 1, 4, 97, 98] wh (.at_ 0) = (64, .at_ 2) := rfl
theorem known3 (wh : ByteArray) : stBytes [128, 1, 4, 97, 98] wh 9 (.at_ 2) = ([97, 98], .at_ 5) := rfl
theorem known4 : stEnd [128, 1, 4, 97, 98] (.at_ 5) = none := rfl
theorem known5 : rdFrame (frameOf [97, 98, 99]) = .good [97, 98, 99] 15 := by rfl
theorem known6 : crcOf [49, 50, 51, 52, 53, 54, 55, 56, 57] = 3808858755 := by decide +kernel

/-- The blocks that the words of a world say. -/
theorem ErrT.lt {w : World} (h : ErrT w) : 1 < w.heap.size := World.block_lt_of_cell? w _ h
theorem Tab.lt {w : World} (h : Tab w) : 0 < w.heap.size := World.block_lt_of_cell? w _ (h 0 (by omega))

/-- A slice of two or three bytes that the text lays. -/
theorem rd_lit (w : World) (xs : List UInt8) (cs : Array Value) (hcs : cs = (xs.map B8).toArray) : Rd8 (w.alloc (.cells cs 5 (cs.size, cs.size + 1))) (some ⟨w.heap.size, 0, none⟩) xs := fun _ => by
  refine ⟨_, rfl, rfl, fun j hj => ?_⟩
  rw [Nat.zero_add, cell_of_row _ w.heap.size j cs 5 (cs.size, cs.size + 1) (heap_alloc_new w _), hcs]
  simp [hj, B8]

/-- From block B on anything may turn. -/
abbrev Nb (B : Nat) (w w' : World) : Prop := Fr (fun x => B ≤ x) w w'
theorem Nb.add {B : Nat} {a b c : World} (h : Nb B a b) (k : Nb B b c) : Nb B a c := h.trans k (fun _ _ h => h)
theorem Fr.nb {S : Nat → Prop} {w w' : World} (h : Fr S w w') {B : Nat} (hS : ∀ x, S x → B ≤ x) : Nb B w w' := h.mono (fun x _ h => hS x h)
theorem Fr.nb0 {w w' : World} (h : Fr (fun _ => False) w w') (B : Nat) : Nb B w w' := h.mono (fun _ _ h => h.elim)
/-- v's block, if it has one, is from B on. -/
def From (B : Nat) (v : Value) : Prop := ∀ k, v.ownBlock = some k → B ≤ k
theorem From.nil (B : Nat) (n c : Nat) : From B (.slice none n c) := fun k hk => by simp [Value.ownBlock] at hk
theorem From.moved {B : Nat} {w : World} {v v' : Value} (h : From B v) (hm : Moved w v v') (hB : B ≤ w.heap.size) : From B v' := fun k hk => by
  rcases hm with e | ⟨x, e, hx⟩
  · exact h k (e ▸ hk)
  · rw [e] at hk; injection hk with hk; omega
theorem WrTo.nb {w w' : World} {g : Nat} {v v' : Value} {bs : List UInt8} (h : WrTo w g v w' v' bs) {B : Nat} (hg : B ≤ g) (hv : From B v) (hB : B ≤ w.heap.size) : Nb B w w' ∧ From B v' ∧ B ≤ w'.heap.size :=
  ⟨h.2.1.nb (fun x hx => hx.elim (fun e => by rw [e]; exact hg) (hv x)), hv.moved h.2.2 hB, Nat.le_trans hB h.2.1.size⟩
theorem Fresh.from {w w' : World} {v : Value} (h : Fresh w w' v) {B : Nat} (hB : B ≤ w.heap.size) : From B v := fun k hk => Nat.le_trans hB (h.2 k hk)

set_option maxRecDepth 100000 in
set_option maxHeartbeats 4000000 in
theorem known_any (w : World) (ht : Tab w) (hE : ErrT w) :
    Calls Tryd.prog 4 #[] w fun e w' => e = .returned (.bool true) ∧ Fr (fun _ => False) w w' := by
  have htl := ht.lt
  have hel := hE.lt
  have kc := fun (w : World) (C : Array Value) (n c : Nat) => Lib.run_convert_bytes_const (P := Tryd.prog) w 24 5 C n c Tryd.underlying24 Tryd.underlying5
  go_enter Tryd.func4, Tryd.ntmps4
  go_wp2_with fail
  refine (newWriter_any w).mono ?_; rintro e _ ⟨rfl, rfl⟩
  have hf1 : Nb w.heap.size w (w.alloc (.cells #[.slice none 0 0] 80)) := ((Fr.refl _ _).alloc _)
  have hw1 : Wr (w.alloc (.cells #[.slice none 0 0] 80)) w.heap.size (.slice none 0 0) [] := ⟨Bk.new _ _ _, Own8.nil _ _⟩
  have hs1 : w.heap.size ≤ (w.alloc (.cells #[.slice none 0 0] 80)).heap.size := by simp
  have hgB : w.heap.size ≤ w.heap.size := Nat.le_refl _
  generalize w.alloc (.cells #[.slice none 0 0] 80) = w1 at *
  generalize hB : w.heap.size = B at *
  have HB := Lib.hid hB
  clear hB
  obtain ⟨g, hg⟩ : ∃ g, g = B := ⟨_, rfl⟩
  have hgB' : B ≤ g := by omega
  rw [← hg]
  rw [← hg] at hw1
  clear hg hgB
  go_wp2_with fail
  refine (wInt_any g _ 64 [] w1 (by omega) (by omega) hw1 (by simp)).mono ?_; rintro e w2 ⟨rfl, v2, h2⟩
  obtain ⟨hf2, hv2, hs2⟩ := h2.nb hgB' (From.nil _ _ _) hs1
  have hF2 := hf1.add hf2
  have hw2 := h2.1
  rw [List.nil_append] at hw2
  clear h2 hf2 hw1 hf1 hs1
  go_wp2_with fail
  have hq : Fr (fun _ => False) w2 (w2.alloc (.cells #[.int .u8 97, .int .u8 98] 5 (2, 3))) := (Fr.refl _ _).alloc _
  have hrd := rd_lit w2 [97, 98] #[.int .u8 97, .int .u8 98] rfl
  have hw3 : Wr (w2.alloc (.cells #[.int .u8 97, .int .u8 98] 5 (2, 3))) g v2 (enc (foldN 64)) := ⟨hw2.1.fr hq (fun h => h), hw2.2.fr hq (fun _ _ h => h)⟩
  have hap : Apart (fun k => k = g ∨ v2.ownBlock = some k) (some ⟨w2.heap.size, 0, none⟩) 2 := fun ad e _ h => by
    injection e with e
    subst e
    have h1 := hw2.1.lt
    rcases h with h | h
    · have : w2.heap.size = g := h
      omega
    · have h2 : v2.ownBlock = some w2.heap.size := h
      have := hw2.2.lt h2
      omega
  refine (wBytes_any g v2 (enc (foldN 64)) (some ⟨w2.heap.size, 0, none⟩) 2 2 [97, 98] _ hw3 (by rw [fold64, enc128]; simp) hrd rfl (by omega) hap).mono ?_; rintro e w3 ⟨rfl, v3, h3⟩
  rw [known1] at h3
  obtain ⟨hf3, hv3, hs3⟩ := h3.nb hgB' hv2 (Nat.le_trans hs2 hq.size)
  have hF3 := (hF2.add (hq.nb0 B)).add hf3
  have hw4 := h3.1
  clear h3 hf3 hap hrd hw3 hq hw2 hF2 hv2 hs2
  go_wp2_with fail
  refine (wDone_any g v3 _ w3 hw4 (by simp)).mono ?_; rintro e w4 ⟨A4, c4, rfl, ho4, hr4⟩
  have hF4 := hF3.add (hr4.1.nb0 B)
  have hs4 := Nat.le_trans hs3 hr4.1.size
  clear hw4 hF3 hv3
  have e5 : ([128, 1, 4, 97, 98] : List UInt8).length = 5 := rfl
  rw [e5] at ho4 hr4 ⊢
  have hv4 := hr4.from hs3
  clear hr4 hs3
  go_wp2_with fail
  refine (newReader_any A4 5 c4 _ w4 ho4.rd rfl (by omega)).mono ?_; rintro e w5 ⟨g5, A5, c5, rfl, h5, f5, hg5⟩
  have hF5 := hF4.add (f5.nb0 B)
  have ho5 := ho4.fr f5 (fun _ _ h => h)
  have hs5 := Nat.le_trans hs4 f5.size
  have hg5' : B ≤ g5 := Nat.le_trans hs4 hg5
  have hE5 := hE.fr hF5 (fun h => by have h' : B ≤ 1 := h; omega)
  have hne : g5 ≠ 1 := by omega
  have hv45 : (Value.slice A4 5 c4).ownBlock ≠ some g5 := fun e => by have := ho4.lt e; omega
  clear ho4 hF4 hs4 f5
  go_wp2_with fail
  refine (rInt_any h5 hE5 _ hne).mono ?_
  rw [known2]
  rintro e w6 ⟨rfl, h6, f6⟩
  have n6 : Nb B w5 w6 := f6.nb (fun x e => by rw [e]; exact hg5')
  have hF6 := hF5.add n6
  have hE6 := hE.fr hF6 (fun h => by have h' : B ≤ 1 := h; omega)
  have ho6 := ho5.fr f6 (fun k hk e => hv45 (by rw [hk, e]))
  have hs6 := Nat.le_trans hs5 f6.size
  clear h5 hE5 f6 n6 hF5 ho5 hs5
  go_wp2_with fail
  refine (rBytes_any h6 hE6 _ hne 9).mono ?_
  rw [known3]
  rintro e w7 ⟨v7, rfl, ⟨A7, c7, rfl, ho7, hn7⟩, h7, f7⟩
  have n7 : Nb B w6 w7 := f7.nb (fun x e => by rw [e]; exact hg5')
  have hF7 := hF6.add n7
  have hp6 := ho6.fr f7 (fun k hk e => hv45 (by rw [hk, e]))
  have hs7 := Nat.le_trans hs6 f7.size
  clear h6 hE6 f7 n7 hF6 ho6 hs6
  go_wp2_with fail
  refine (rEnd_any h7).mono ?_
  rw [known4]
  rintro e w8 ⟨v8, rfl, rfl, f8⟩
  have hF8 := hF7.add (f8.nb0 B)
  have hp8 := hp6.fr f8 (fun _ _ h => h)
  have ho8 := ho7.fr f8 (fun _ _ h => h)
  have hs8 := Nat.le_trans hs7 f8.size
  clear h7 f8 hF7 hp6 ho7 hs7 hn7
  go_wp2_with fail
  have l2 : ([97, 98] : List UInt8).length = 2 := rfl
  rw [l2] at ho8
  have hq : Fr (fun _ => False) w8 (w8.alloc (.cells #[.int .u8 97, .int .u8 98, .int .u8 99] 5 (3, 4))) := (Fr.refl _ _).alloc _
  have hrd := rd_lit w8 [97, 98, 99] #[.int .u8 97, .int .u8 98, .int .u8 99] rfl
  have hF9 := hF8.add (hq.nb0 B)
  have ho9 := ho8.fr hq (fun _ _ h => h)
  have hp9 := hp8.fr hq (fun _ _ h => h)
  have hs9 := Nat.le_trans hs8 hq.size
  refine (frame_any _ 3 3 [97, 98, 99] _ (ht.fr hF9 (fun h => by have h' : B ≤ 0 := h; omega)) hrd rfl (by omega)).mono ?_
  rintro e wa ⟨Aa, ca, rfl, hoa, hra⟩
  have hFa := hF9.add (hra.1.nb0 B)
  have ho10 := ho9.fr hra.1 (fun _ _ h => h)
  have hp10 := hp9.fr hra.1 (fun _ _ h => h)
  have hsa := Nat.le_trans hs9 hra.1.size
  clear hrd hq hF8 ho8 hp8 hs8 hF9 ho9 hp9 hs9 hra
  go_wp2_with fail
  have hla : (frameOf [97, 98, 99]).length = 3 + 12 := by decide +kernel
  have hca : (3 + 12 : Nat) ≤ ca := by
    rcases hoa.form with ⟨e, h0⟩ | ⟨g, cap, e, h1, _⟩
    · rw [h0] at hla; simp at hla
    · injection e with _ _ e; rw [hla] at h1; omega
  have hspot : ∀ ad, Aa = some ad → ad.spot = none := fun ad e => by
    subst e
    rcases hoa.form with ⟨e, h0⟩ | ⟨g, cap, e, h1, _⟩
    · cases e
    · injection e with e _ _; injection e with e; subst e; rfl
  refine (readFrame_any Aa (3 + 12) ca (frameOf [97, 98, 99]) wa (ht.fr hFa (fun h => by have h' : B ≤ 0 := h; omega)) hoa.rd hspot hla (by omega) (by omega)).mono ?_
  rw [known5]
  rintro e wb ⟨Ab, cb, rfl, hob, hrb⟩
  have hFb := hFa.add (hrb.1.nb0 B)
  have ho11 := ho10.fr hrb.1 (fun _ _ h => h)
  have hp11 := hp10.fr hrb.1 (fun _ _ h => h)
  have htb := ht.fr hFb (fun h => by have h' : B ≤ 0 := h; omega)
  clear hla hca hspot hFa ho10 hp10 hoa hrb hsa
  have l3 : ([97, 98, 99] : List UInt8).length = 3 := rfl
  rw [l3] at hob
  have t1 := run_str8 Tryd.t8 Tryd.underlying5 Tryd.underlying9 c4 hp11.rd e5
  have t2 := run_str8 Tryd.t8 Tryd.underlying5 Tryd.underlying9 c7 ho11.rd l2
  have t3 := run_str8 Tryd.t8 Tryd.underlying5 Tryd.underlying9 cb hob.rd l3
  have u1 : (strOf [128, 1, 4, 97, 98]).toList = [128, 1, 4, 97, 98] := by decide +kernel
  have u2 : (strOf [97, 98]).toList = [97, 98] := by decide +kernel
  have u3 : (strOf [97, 98, 99]).toList = [97, 98, 99] := by decide +kernel
  clear hp11 ho11 hob e5 l2 l3 kc hv45 hv4 hne hg5' hg5
  have kc := Lib.run_convert_bytes_const (P := Tryd.prog) wb 24 5 #[.int .u8 49, .int .u8 50, .int .u8 51, .int .u8 52, .int .u8 53, .int .u8 54, .int .u8 55, .int .u8 56, .int .u8 57] 9 9 Tryd.underlying24 Tryd.underlying5
  have hrd := rd_lit wb [49, 50, 51, 52, 53, 54, 55, 56, 57] #[.int .u8 49, .int .u8 50, .int .u8 51, .int .u8 52, .int .u8 53, .int .u8 54, .int .u8 55, .int .u8 56, .int .u8 57] rfl
  have hq : Fr (fun _ => False) wb (wb.alloc (.cells #[.int .u8 49, .int .u8 50, .int .u8 51, .int .u8 52, .int .u8 53, .int .u8 54, .int .u8 55, .int .u8 56, .int .u8 57] 5 (9, 10))) := (Fr.refl _ _).alloc _
  go_wp2_with fail
  refine (sum_any _ 9 9 [49, 50, 51, 52, 53, 54, 55, 56, 57] _ (htb.fr hq (fun h => h)) hrd rfl (by omega)).mono ?_; rintro e _ ⟨rfl, rfl⟩
  rw [known6]
  clear kc t1 t2 t3
  go_wp2
  go_ret
  refine ⟨rfl, (hFb.add (hq.nb0 B)).mono (fun x hx h => ?_)⟩
  have := HB.out
  omega
end Go.Proofs.YtblfnbmgijppmaaDoor
