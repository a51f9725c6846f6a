/- chunk: pieces of one cut fed to a builder, as plain data and in memory. -/
import Derived.Test.YtacafjbbdklleaaDoorAq
namespace Go.Proofs.YtacafjbbdklleaaDoor
open Go.RowKit

/-- The j-th piece of a cut, of whatever sum. -/
def gPc (id : Int) (n u : Nat) (xs : List UInt8) (z j : Nat) : Pc := ⟨id, ((j * z : Nat) : Int), (n : Int), u, (xs.drop (j * z)).take z⟩
theorem cutPc_eq (id : Int) (xs : List UInt8) (z : Nat) : cutPc id xs z = gPc id xs.length (crcOf xs) xs z := rfl
theorem Own8.place {w : World} {e : TypeId} {A : Option Addr} {n c : Nat} {xs : List UInt8} (h : Own8 w e (.slice A n c) xs) (o : Nat) : ∀ ad, adr A o = some ad → (Value.slice A n c).ownBlock = some ad.block := by
  rcases h.form with ⟨e1, rfl⟩ | ⟨g, cp, e1, _⟩
  · injection e1 with e1
    subst e1
    intro ad h; simp [adr] at h
  · injection e1 with e2 e3 e4
    subst e2
    intro ad h2
    simp [adr] at h2
    rw [← h2]; rfl
theorem pcs_of {F : Nat} {w' : World} {id : Int} {xs : List UInt8} {n z K sm : Nat} {A : Option Addr} {c : Nat} {v : Value} (lo : K * z ≤ n) (hi : n ≤ K * z + z) (own : Own8 w' 5 (.slice A n c) xs)
    (row : Row w' 36 5 v (K + 1) (frontC id n sm z A K ++ pcl id (K * z) n sm (.slice (adr A (K * z)) (n - K * z) (c - K * z)))) (hn : xs.length = n) (hnb : n ≤ 1048576) (hz : 1 ≤ z) (hF : F ≤ w'.heap.size) (hF1 : ∀ x, v.ownBlock = some x → x < F) (hF2 : ∀ x, (Value.slice A n c).ownBlock = some x → x < F) : Pcs w' F v (K + 1) (gPc id n sm xs z) := by
  have hK : K ≤ 1048576 := by
    have : K ≤ K * z := Nat.le_mul_of_pos_right K hz
    omega
  obtain ⟨A', c', e, hl, hc, hA⟩ := row.form
  obtain ⟨A2, cc, e9, o1, o2⟩ := own.slice
  injection e9 with e9a e9b e9c
  subst e9c
  refine ⟨by omega, A', c', e, fun j hj => ?_⟩
  obtain ⟨b, off, rfl⟩ := hA (by omega)
  subst e
  refine ⟨b, off, rfl, ?_⟩
  have hbl : b < F := hF1 b rfl
  have hc0 : ∀ t u, (frontC id n sm z A K ++ pcl id (K * z) n sm (.slice (adr A (K * z)) (n - K * z) (c - K * z)))[j * 5 + t]? = some u → w'.cell? ⟨b, off + j * 5 + t, none⟩ = some u := fun t u hu => by
    have := row.cell hu
    rw [Nat.add_assoc]; exact this
  by_cases hjK : j < K
  · have hjz : j * z + z ≤ K * z := by
      have := Nat.mul_le_mul_right z (show j + 1 ≤ K by omega)
      rw [Nat.succ_mul] at this; exact this
    have hm : ∀ t, t < 5 → (frontC id n sm z A K ++ pcl id (K * z) n sm (.slice (adr A (K * z)) (n - K * z) (c - K * z)))[j * 5 + t]? = (pcl id (j * z) n sm (.slice (adr A (j * z)) z z))[t]? := fun t ht => by
      rw [List.getElem?_append_left (by rw [frontC_len]; omega)]
      exact frontC_at _ _ _ _ _ K j t hjK ht
    refine ⟨adr A (j * z), z, z, hc0 0 _ (by rw [hm 0 (by omega)]; rfl), hc0 1 _ (by rw [hm 1 (by omega)]; rfl), hc0 2 _ (by rw [hm 2 (by omega)]; rfl), hc0 3 _ (by rw [hm 3 (by omega)]; rfl), hc0 4 _ (by rw [hm 4 (by omega)]; rfl), ⟨?_, Nat.le_refl _, by omega, (own.part (j * z) z).1, fun ad e _ => hF2 _ (own.place (j * z) ad e)⟩, hbl, hF⟩
    simp [gPc]; omega
  · obtain rfl : j = K := by omega
    have hm : ∀ t, t < 5 → (frontC id n sm z A j ++ pcl id (j * z) n sm (.slice (adr A (j * z)) (n - j * z) (c - j * z)))[j * 5 + t]? = (pcl id (j * z) n sm (.slice (adr A (j * z)) (n - j * z) (c - j * z)))[t]? := fun t ht => by
      rw [List.getElem?_append_right (by rw [frontC_len]; omega), frontC_len]
      congr 1; omega
    refine ⟨adr A (j * z), n - j * z, c - j * z, hc0 0 _ (by rw [hm 0 (by omega)]; rfl), hc0 1 _ (by rw [hm 1 (by omega)]; rfl), hc0 2 _ (by rw [hm 2 (by omega)]; rfl), hc0 3 _ (by rw [hm 3 (by omega)]; rfl), hc0 4 _ (by rw [hm 4 (by omega)]; rfl), ⟨?_, by omega, by omega, (own.part (j * z) z).1, fun ad e _ => hF2 _ (own.place (j * z) ad e)⟩, hbl, hF⟩
    simp [gPc]; omega


/-- A builder to which pieces of a cut are fed: not begun, or L bytes are there. -/
def Fed (id : Int) (n u : Nat) (xs : List UInt8) (s : BSt) (L : Nat) : Prop := (s.id < id ∧ s.Ok ∧ L = 0) ∨ (L ≤ n ∧ s = ⟨id, n, u, xs.take L⟩)
theorem gPc_may {id : Int} {n u : Nat} {xs : List UInt8} {z j K : Nat} (hid : 0 ≤ id) (hn : xs.length = n) (hnb : n ≤ 1048576) (hz : 1 ≤ z) (hj : j ≤ K) (hmid : K = 0 ∨ K * z < n) : (gPc id n u xs z j).may := by
  have hjz : j * z ≤ K * z := Nat.mul_le_mul_right z hj
  have hl : ((xs.drop (j * z)).take z).length = min z (n - j * z) := by simp [hn]
  have hjn : j * z ≤ n := by
    rcases hmid with h | h
    · subst h; obtain rfl : j = 0 := by omega
      omega
    · omega
  unfold Pc.may gPc
  simp only [hl]
  refine ⟨hid, by omega, by omega, by omega, by omega, ?_⟩
  rcases Nat.eq_zero_or_pos n with h | h
  · right; omega
  · left
    rcases hmid with h2 | h2
    · subst h2; obtain rfl : j = 0 := by omega
      omega
    · omega
theorem take_drop_more (xs : List UInt8) (L p z : Nat) (hp : p ≤ L) : xs.take L ++ ((xs.drop p).take z).drop ((xs.take L).length - p) = xs.take (max L (min (p + z) xs.length)) := by
  rw [List.length_take]
  by_cases hL : L ≤ xs.length
  · rw [Nat.min_eq_left hL, List.drop_take, List.drop_drop, show p + (L - p) = L by omega]
    by_cases h2 : p + z ≤ L
    · rw [show z - (L - p) = 0 by omega, List.take_zero, List.append_nil, show max L (min (p + z) xs.length) = L by omega]
    · rw [show max L (min (p + z) xs.length) = min (p + z) xs.length by omega, ← List.take_add]
      by_cases h3 : p + z ≤ xs.length
      · rw [show L + (z - (L - p)) = min (p + z) xs.length by omega]
      · rw [List.take_of_length_le (by omega), List.take_of_length_le (by omega)]
  · rw [show min L xs.length = xs.length by omega, List.take_of_length_le (show xs.length ≤ L by omega), List.take_of_length_le (show xs.length ≤ max L _ by omega)]
    have : ((xs.drop p).take z).drop (xs.length - p) = [] := List.drop_of_length_le (by simp; omega)
    rw [this, List.append_nil]
/-- A piece in its turn is taken. -/
theorem Fed.on {id : Int} {n u : Nat} {xs : List UInt8} {s : BSt} {L z j K : Nat} (h : Fed id n u xs s L) (hid : 0 ≤ id) (hn : xs.length = n) (hnb : n ≤ 1048576) (hz : 1 ≤ z) (hj : j ≤ K) (hmid : K = 0 ∨ K * z < n) (hat : j * z ≤ L) (h0 : s.id < id → j = 0) :
    s.addE (gPc id n u xs z j) = 0 ∧ ∃ L', Fed id n u xs (s.add (gPc id n u xs z j)) L' ∧ ¬ (s.add (gPc id n u xs z j)).id < id ∧ min (j * z + z) n ≤ L' ∧ s.addB (gPc id n u xs z j) = decide (n ≤ L') := by
  have hm := gPc_may (u := u) hid hn hnb hz hj hmid
  have hadd : s.addE (gPc id n u xs z j) = 0 ∧ ∃ L', L' ≤ n ∧ s.add (gPc id n u xs z j) = ⟨id, n, u, xs.take L'⟩ ∧ min (j * z + z) n ≤ L' := by
    rcases h with ⟨h1, h2, rfl⟩ | ⟨h1, rfl⟩
    · obtain rfl : j = 0 := h0 h1
      obtain ⟨e1, e2⟩ := BSt.addE_new (s := s) hm h1 (by simp [gPc])
      refine ⟨e1, min z n, Nat.min_le_right _ _, ?_, by omega⟩
      unfold BSt.add
      rw [if_pos e1, e2]
      simp [gPc, ← hn, List.take_eq_take_iff]
    · have hl : (xs.take L).length = L := by simp; omega
      obtain ⟨e1, e2⟩ := BSt.addE_on (s := ⟨id, n, u, xs.take L⟩) hm rfl rfl rfl (by simp [gPc]; omega)
      refine ⟨e1, max L (min (j * z + z) n), by omega, ?_, by omega⟩
      unfold BSt.add
      rw [if_pos e1, e2]
      have := take_drop_more xs L (j * z) z hat
      simp only [gPc, Int.toNat_natCast]
      rw [this, hn]
  obtain ⟨e1, L', h1, e2, h3⟩ := hadd
  refine ⟨e1, L', .inr ⟨h1, e2⟩, by rw [e2]; simp, h3, ?_⟩
  unfold BSt.addB
  rw [if_pos e1, e2]
  unfold BSt.whole
  have hl : (xs.take L').length = L' := by simp; omega
  simp only [hl]
  apply decide_eq_decide.2
  omega
/-- Whatever piece of the cut is added, in its turn or not. -/
theorem Fed.any {id : Int} {n u : Nat} {xs : List UInt8} {s : BSt} {L z j K : Nat} (h : Fed id n u xs s L) (hid : 0 ≤ id) (hn : xs.length = n) (hnb : n ≤ 1048576) (hz : 1 ≤ z) (hj : j ≤ K) (hmid : K = 0 ∨ K * z < n) :
    ∃ L', Fed id n u xs (s.add (gPc id n u xs z j)) L' := by
  by_cases h1 : j * z ≤ L ∧ (s.id < id → j = 0)
  · obtain ⟨_, L', h2, _⟩ := h.on hid hn hnb hz hj hmid h1.1 h1.2
    exact ⟨L', h2⟩
  · refine ⟨L, ?_⟩
    have hm := gPc_may (u := u) hid hn hnb hz hj hmid
    have hE : s.addE (gPc id n u xs z j) = 6 := by
      rcases h with ⟨h2, h3, rfl⟩ | ⟨h2, rfl⟩
      · have : 0 < j * z := by
          rcases Nat.eq_zero_or_pos (j * z) with h | h
          · exfalso
            apply h1
            refine ⟨by omega, fun _ => ?_⟩
            rcases Nat.mul_eq_zero.1 h with h | h <;> omega
          · exact h
        exact BSt.addE_f hm h2 (by simp only [gPc]; omega)
      · have hl : (xs.take L).length = L := by simp; omega
        have : ¬ j * z ≤ L := fun h => h1 ⟨h, fun h => by simp at h⟩
        exact BSt.addE_g hm rfl rfl rfl (by simp only [gPc, hl]; omega)
    unfold BSt.add
    rw [if_neg (by rw [hE]; decide)]
    exact h
theorem Fed.ok {id : Int} {n u : Nat} {xs : List UInt8} {s : BSt} {L : Nat} (h : Fed id n u xs s L) (hid : 0 ≤ id) (hu : u < 4294967296) (hnb : n ≤ 1048576) : s.Ok := by
  rcases h with ⟨_, h, _⟩ | ⟨h, rfl⟩
  · exact h
  · exact .inr ⟨hid, hu, by simp; omega, by simp; omega⟩
theorem crcOf_lt (xs : List UInt8) : crcOf xs < 4294967296 := by unfold crcOf; omega

/-- A builder at work behind w0: its blocks are at B or behind it. -/
structure BI (B : Nat) (w0 wr : World) (b : Nat) (s : BSt) (v : Value) : Prop where
  bd : Bd wr b s v
  fr : Fr (fun x => B ≤ x) w0 wr
  lb : B ≤ b
  lv : ∀ x, v.ownBlock = some x → B ≤ x
  gb : 3 ≤ B
  sz : B ≤ w0.heap.size
theorem BI.gl {B : Nat} {w0 wr : World} {b : Nat} {s : BSt} {v : Value} (h : BI B w0 wr b s v) (hG : Gl w0) : Gl wr := hG.fr h.fr (fun x hx => by show ¬ B ≤ x; have := h.gb; omega)
theorem BI.fr0 {B : Nat} {w0 wr w' : World} {b : Nat} {s : BSt} {v : Value} (h : BI B w0 wr b s v) (hf : Fr (fun _ => False) wr w') : BI B w0 w' b s v := ⟨h.bd.fr0 hf, h.fr.trans hf (fun _ _ h => h.elim), h.lb, h.lv, h.gb, h.sz⟩
theorem BI.pcs {B : Nat} {w0 wr : World} {b : Nat} {s : BSt} {v : Value} (h : BI B w0 wr b s v) {x : Value} {m : Nat} {f : Nat → Pc} (hp : Pcs w0 B x m f) : Pcs wr B x m f := hp.fr h.fr (fun k hk => by show ¬ B ≤ k; omega)
theorem BI.sl8 {B : Nat} {w0 wr : World} {b : Nat} {s : BSt} {v : Value} (h : BI B w0 wr b s v) {A : Option Addr} {n c F : Nat} {xs : List UInt8} (hp : Sl8 w0 F A n c xs) (hF : F ≤ B) : Sl8 wr F A n c xs := hp.fr h.fr (fun k hk => by show ¬ B ≤ k; omega)
theorem BI.add {B : Nat} {w0 wr : World} {b : Nat} {s : BSt} {v : Value} (h : BI B w0 wr b s v) (hG : Gl w0) (p : Pc) (D : Option Addr) (m k F : Nat) (hs : Sl8 wr F D m k p.data) (hm : (m : Int) ≤ 140737488355328) (hp : p.sum < 4294967296) :
    Calls Tryd.prog 17 #[.pointer (some ⟨b, 0, none⟩), p.v (.slice D m k)] wr fun e w' => ∃ x v', e = .returned (.tuple #[.bool (s.addB p), x]) ∧ BrkV p.id (s.addE p) wr w' x ∧ BI B w0 w' b (s.add p) v' := by
  refine (add_any b s v p D m k F wr h.bd (fun x hx => by have := h.lv x hx; have := h.gb; omega) hs hm hp (h.gl hG).err).mono ?_
  rintro e w' ⟨x, v', he, hbv, hbd, hf, hm⟩
  refine ⟨x, v', he, hbv, hbd, h.fr.trans hf (fun y hy e => ?_), h.lb, fun y hy => ?_, h.gb, h.sz⟩
  · rcases e with e | e
    · rw [e]; exact h.lb
    · exact h.lv y e
  · rcases hm y hy with h1 | h1
    · exact h.lv y h1
    · have := h.fr.size; have := h.sz; omega
theorem BI.done {B : Nat} {w0 wr : World} {b : Nat} {s : BSt} {v : Value} (h : BI B w0 wr b s v) (hG : Gl w0) :
    Calls Tryd.prog 14 #[.pointer (some ⟨b, 0, none⟩)] wr fun e w' => ∃ x, e = .returned (.tuple #[if s.doneE = 0 then v else .slice none 0 0, x]) ∧ BrkV s.id s.doneE wr w' x ∧ BI B w0 w' b s.done (if s.doneE = 6 then v else .slice none 0 0) ∧ Own8 w' 5 v s.data := by
  refine (done_any b s v wr h.bd (by have := h.lb; have := h.gb; omega) (h.gl hG).err (h.gl hG).tab).mono ?_
  rintro e w' ⟨x, he, hbv, hbd, hf⟩
  refine ⟨x, he, hbv, ⟨hbd, h.fr.trans hf (fun y hy e => by rw [e]; exact h.lb), h.lb, fun y hy => ?_, h.gb, h.sz⟩, h.bd.own.fr hf (fun y hy e => ?_)⟩
  · split at hy
    · exact h.lv y hy
    · simp [Value.ownBlock] at hy
  · obtain ⟨cs, hcs⟩ := h.bd.bk
    exact h.bd.own.ne hcs (by decide) (e ▸ hy)
theorem BI.new {w0 w' : World} {b : Nat} (hb : Bd w' b BSt.none (.slice none 0 0)) (hf : Fr (fun _ => False) w0 w') (hl : w0.heap.size ≤ b) (hG : Gl w0) : BI w0.heap.size w0 w' b BSt.none (.slice none 0 0) :=
  ⟨hb, hf.mono (fun _ _ h => h.elim), hl, fun x hx => by simp [Value.ownBlock] at hx, hG.sz, Nat.le_refl _⟩
end Go.Proofs.YtacafjbbdklleaaDoor
