/- dedup: Encode whole. -/
import Derived.Test.YtdfkoehcmgcoiaaJy
namespace Go.Proofs.Ytdfkoehcmgcoiaa
open Go.RowKit Go.Maps

theorem headE_len {t : DT} (ok : t.ok) {c : Int} (hc : c ∈ t.cs) : (headE t c).length ≤ 30 := by
  have h1 := ok.crng c hc
  have h2 := ok.took0.top_rng c
  have h3 := ok.len c
  have h4 := ok.w2
  refine eIs_len _ (fun a ha => ?_)
  simp at ha
  rcases ha with rfl | rfl | rfl
  · exact I64.of (by omega) (by omega)
  · exact I64.of (by omega) (by omega)
  · exact I64.of (by omega) (by omega)
theorem stepE_len {t : DT} (ok : t.ok) {B : Nat} (sm : t.small B) (hB : B ≤ 1048576) {p : Int × Int} (hp : p ∈ t.lst) : (stepE t p).length ≤ 50 + B := by
  obtain ⟨h1, h2⟩ := mem_lst.1 hp
  have h3 := sm p.1 p.2 h2
  have h4 := eB_len (xs := t.ans p.1 p.2) (by omega)
  have h5 := ok.rng p.1 p.2 h2
  have h6 := eI_len (a := p.2) (I64.of (by omega) (by omega))
  have h7 := headE_len ok h1
  unfold stepE
  simp only [List.length_append]
  split
  · omega
  · simp; omega
theorem steps_len {t : DT} (ok : t.ok) {B : Nat} (sm : t.small B) (hB : B ≤ 1048576) : ∀ l : List (Int × Int), (∀ p ∈ l, p ∈ t.lst) → (l.flatMap (stepE t)).length ≤ l.length * (50 + B)
  | [], _ => by simp
  | p :: l, h => by
    have h1 := steps_len ok sm hB l (fun q hq => h q (by simp [hq]))
    have h2 := stepE_len ok sm hB (h p (by simp))
    rw [List.flatMap_cons, List.length_append, List.length_cons, Nat.add_mul]
    omega

set_option maxRecDepth 100000 in
theorem enc_walks {g ba br gw wbx ibx tbx : Nat} {F : Nat → Prop} {t : DT} {Da Dr : DV} {w0 w : World} (hT : TabM w g ba br F t Da Dr) (ok : t.ok) (sm : t.small 8192) (hn : t.n ≤ 8192) {av : Int → Int → Value} (hav : AV w F t av) (hF : ∀ k, F k → k < w0.heap.size)
    {v : Value} {bs : List UInt8} (hw : Wr w gw v bs) (hb : bs.length ≤ 20) (hg : w0.heap.size ≤ gw) (hv : ∀ k, v.ownBlock = some k → w0.heap.size ≤ k) (hw0 : w0.heap.size ≤ w.heap.size)
    (hx : Bk w wbx 57 #[.pointer (some ⟨gw, 0, none⟩)]) (hi : Bk w ibx 60 #[.func (.func 23) #[] #[.pointer (some ⟨wbx, 0, none⟩)]]) (ht : Bk w tbx 25 #[.pointer (some ⟨g, 0, none⟩)]) :
    Walks w F t av 26 #[.pointer (some ⟨tbx, 0, none⟩), .pointer (some ⟨ibx, 0, none⟩), .pointer (some ⟨wbx, 0, none⟩)] (fun W1 i W => ∃ v1, WrTo W1 gw v W v1 (bs ++ (t.lst.take i).flatMap (stepE t))) (fun _ _ => False) := by
  have dX : ∀ {b : Nat} {T : TypeId} {cs : Array Value}, Bk w b T cs → T ≠ 77 → T ≠ 5 → ¬ (b = gw ∨ v.ownBlock = some b) := fun hb h1 h2 => by
    rintro (e | e)
    · exact Bk.ne hb hw.1 h1 e
    · exact hw.2.ne hb (fun e => h2 e.symm) e
  refine ⟨callS, fun W1 hf => ⟨v, by
    have h1 : Wr W1 gw v bs := ⟨hw.1.fr hf (fun h => h), hw.2.fr hf (fun _ _ h => h)⟩
    simpa using WrTo.refl h1⟩, ?_, ?_, ?_⟩
  · rintro W1 i W ⟨v1, h1⟩
    refine h1.2.1.mono (fun k _ e => ?_)
    rcases e with e | e
    · have := hw.1.lt; omega
    · exact hw.2.lt e
  · rintro W1 i W W' ⟨v1, h1⟩ hf
    exact ⟨v1, ⟨h1.1.1.fr hf (fun h => h), h1.1.2.fr hf (fun _ _ h => h)⟩, h1.2.1.trans hf (fun _ _ h => h.elim), h1.2.2⟩
  · rintro W1 hf i hi' W ⟨v1, h1⟩ A n cap e4
    have hm : t.lst[i].1 ∈ t.cs ∧ t.lst[i].2 ∈ t.row t.lst[i].1 := mem_lst.1 (List.getElem_mem hi')
    have hFd : ∀ k, F k → ¬ (k = gw ∨ v.ownBlock = some k) := fun k hk e => by
      have h2 := hF k hk
      rcases e with e | e
      · omega
      · have := hv k e; omega
    have hFd1 : ∀ k, F k → ¬ (k = gw ∨ v1.ownBlock = some k) := fun k hk e => by
      have h2 := hF k hk
      rcases e with e | e
      · omega
      · have h3 := hf.size
        have := h1.2.2.old (x := k) (by omega) e
        have := hv k this; omega
    have hTW := (hT.fr hf (fun _ _ h => h)).fr h1.2.1 hFd
    have hA := (hav.fr hf (fun _ _ h => h)).fr h1.2.1 hFd
    obtain ⟨A', cap', e5, hr, hap⟩ := hA.at_ _ _ hm.1 hm.2
    rw [e4] at e5
    injection e5 with e6 e7 e8
    subst e6 e7 e8
    have hlen : ((t.lst.take i).flatMap (stepE t)).length ≤ 8192 * 8242 := by
      have h2 := steps_len ok sm (by omega) (t.lst.take i) (fun p hp => List.mem_of_mem_take hp)
      have h3 : (t.lst.take i).length ≤ 8192 := by rw [List.length_take, lst_len]; omega
      have h4 : (t.lst.take i).length * (50 + 8192) ≤ 8192 * 8242 := Nat.mul_le_mul_right _ h3
      omega
    have hs := sm _ _ hm.2
    refine (enc2_any (c := t.lst[i].1) (s := t.lst[i].2) (cap := cap) hTW ok h1.1 (by rw [List.length_append]; omega) ((hx.fr hf (fun h => h)).fr h1.2.1 (dX hx (by decide) (by decide))) ((hi.fr hf (fun h => h)).fr h1.2.1 (dX hi (by decide) (by decide))) ((ht.fr hf (fun h => h)).fr h1.2.1 (dX ht (by decide) (by decide)))
      hm.1 hm.2 hr rfl (by omega) hap hFd1).mono ?_
    rintro e W' ⟨rfl, v2, h2⟩
    refine ⟨true, rfl, fun _ => ⟨v2, ?_⟩, fun h => by cases h⟩
    have h3 := h1.trans h2
    have h4 : t.lst.take (i + 1) = t.lst.take i ++ [t.lst[i]] := by rw [List.take_add_one, List.getElem?_eq_getElem hi']; rfl
    rw [h4, List.flatMap_append]
    simpa [List.append_assoc] using h3

set_option maxRecDepth 100000 in
set_option maxHeartbeats 8000000 in
theorem encode_any {g : Nat} {F : Nat → Prop} {t : DT} {w : World} (h : Tab w g F t) (ok : t.ok) (sm : t.small 8192) (hn : t.n ≤ 8192) :
    Calls Try.prog 12 #[.pointer (some ⟨g, 0, none⟩)] w fun e w' => ∃ A c, e = .returned (.slice A (encT t).length c) ∧ Own8 w' 5 (.slice A (encT t).length c) (encT t) ∧ Fresh w w' (.slice A (encT t).length c) := by
  obtain ⟨ba, br, Da, Dr, hM⟩ := h
  have hmf : ∀ (fn : Fn) (first cap : Array Value) (w : World), (Instr.makeFunc fn first cap).run Try.prog w = .ok (.func fn first cap) w := fun _ _ _ _ => rfl
  have hstf : ∀ (a : Addr) (fn : Fn) (x y : Array Value) (w : World), (store a (.func fn x y) .plain).run Try.prog w = stored Try.prog w a (.func fn x y) .plain := fun a _ _ _ w => run_store Try.prog w a _ .plain rfl
  obtain ⟨av, hav, hat⟩ := hM.av ok.took0
  obtain ⟨b, hb⟩ : ∃ b, w.heap.size = b := ⟨_, rfl⟩
  obtain ⟨W1, hW1⟩ : ∃ W1, w.alloc (.cells #[.pointer (some ⟨g, 0, none⟩)] 25) = W1 := ⟨_, rfl⟩
  have s1 : W1.heap.size = b + 1 := by rw [← hW1, ← hb]; simp
  have f1 : Fr (fun _ => False) w W1 := by rw [← hW1]; exact (Fr.refl _ _).alloc _
  have kT : Bk W1 b 25 #[.pointer (some ⟨g, 0, none⟩)] := by rw [← hW1, ← hb]; exact Bk.new _ _ _
  have CN := Lib.hid (newWriter_any W1)
  rw [s1] at CN
  obtain ⟨W2, hW2⟩ : ∃ W2, (W1.alloc (.cells #[.slice none 0 0] 77)).alloc (.cells #[.pointer (some ⟨b + 1, 0, none⟩)] 57) = W2 := ⟨_, rfl⟩
  have s2a : (W1.alloc (.cells #[.slice none 0 0] 77)).heap.size = b + 1 + 1 := by simp [s1]
  have s2 : W2.heap.size = b + 1 + 1 + 1 := by rw [← hW2]; simp [s1]
  have f2a : Fr (fun _ => False) (W1.alloc (.cells #[.slice none 0 0] 77)) W2 := by rw [← hW2]; exact (Fr.refl _ _).alloc _
  have f2 : Fr (fun _ => False) W1 W2 := ((Fr.refl _ _).alloc _).trans f2a (fun _ _ h => h)
  have kW : Bk W2 (b + 1) 77 #[.slice none 0 0] := by
    have := Bk.new W1 77 #[.slice none 0 0]
    rw [s1] at this
    exact this.fr f2a (fun h => h)
  have kX : Bk W2 (b + 1 + 1) 57 #[.pointer (some ⟨b + 1, 0, none⟩)] := by
    have := Bk.new (W1.alloc (.cells #[.slice none 0 0] 77)) 57 #[.pointer (some ⟨b + 1, 0, none⟩)]
    rw [s2a, hW2] at this
    exact this
  obtain ⟨W3, hW3⟩ : ∃ W3, W2.alloc (.cells #[.func (.func 23) #[] #[.pointer (some ⟨b + 1 + 1, 0, none⟩)]] 60) = W3 := ⟨_, rfl⟩
  have f3 : Fr (fun _ => False) W2 W3 := by rw [← hW3]; exact (Fr.refl _ _).alloc _
  have kI : Bk W3 (b + 1 + 1 + 1) 60 #[.func (.func 23) #[] #[.pointer (some ⟨b + 1 + 1, 0, none⟩)]] := by
    have := Bk.new W2 60 #[.func (.func 23) #[] #[.pointer (some ⟨b + 1 + 1, 0, none⟩)]]
    rw [s2, hW3] at this
    exact this
  have f03 : Fr (fun _ => False) w W3 := (f1.trans f2 (fun _ _ h => h)).trans f3 (fun _ _ h => h)
  have KT := Lib.hid (kT.fr (f2.trans f3 (fun _ _ h => h)) (fun h => h))
  have KW := Lib.hid (kW.fr f3 (fun h => h))
  have KX := Lib.hid (kX.fr f3 (fun h => h))
  have KI := Lib.hid kI
  have HM := Lib.hid (hM.fr f03 (fun _ _ h => h))
  have F03 := Lib.hid f03
  have HAV := Lib.hid (hav.fr f03 (fun _ _ h => h))
  have HAT := Lib.hid hat
  have HOK := Lib.hid ok
  have HSM := Lib.hid sm
  have HN := Lib.hid hn
  have HFB := Lib.hid (fun k (hk : F k) => hM.flt k hk)
  have HB := Lib.hid hb
  have s3 : W3.heap.size = b + 1 + 1 + 1 + 1 := by rw [← hW3]; simp [s2]
  have HS3 := Lib.hid s3
  have hc : I64 t.win ∧ I64 (t.cs.length : Int) := by
    have h1 := ok.w1; have h2 := ok.w2; have h3 := ok.cs_len
    exact ⟨I64.of (by omega) (by omega), I64.of (by omega) (by omega)⟩
  have HI := Lib.hid hc
  have HC : Hid (∀ w', Fr (fun _ => False) W3 w' → w'.cell? ⟨b + 1 + 1 + 1, 0, none⟩ = some (.func (.func 23) #[] #[.pointer (some ⟨b + 1 + 1, 0, none⟩)]) ∧ w'.cell? ⟨b, 0, none⟩ = some (.pointer (some ⟨g, 0, none⟩)) ∧ w'.cell? ⟨g, 0, none⟩ = some (.int .i64 t.win) ∧ w'.cell? ⟨g, 2, none⟩ = some (.map (some br)) ∧
      ∀ ty, (Builtin.len_ #[54] ty #[.map (some br)]).run Try.prog w' = .ok (.int .i64 (t.cs.length : Nat)) w') := Lib.hid (fun w' hf => by
    have hm := HM.out.fr hf (fun _ _ h => h)
    refine ⟨(KI.out.fr hf (fun h => h)).cell 0, (KT.out.fr hf (fun h => h)).cell 0, hm.blk.cell 0, hm.blk.cell 2, fun ty => ?_⟩
    have := World.ownsMap.len hm.mr tRow ty
    rw [hm.sr] at this
    exact this)
  have kx2 : W2.cell? ⟨b + 1 + 1, 0, none⟩ = some (.pointer (some ⟨b + 1, 0, none⟩)) := kX.cell 0
  clear hM hav hat f1 f2 f2a f3 f03 kT kW kX kI ok sm hn hc s3
  obtain ⟨win, hwin⟩ : ∃ win, t.win = win := ⟨_, rfl⟩
  obtain ⟨nc, hnc⟩ : ∃ nc, t.cs.length = nc := ⟨_, rfl⟩
  rw [hwin, hnc] at HI HC
  have HE : Hid (encT t = [win, (nc : Int)].flatMap eI ++ t.lst.flatMap (stepE t)) := Lib.hid (by unfold encT; rw [hwin, hnc])
  clear hwin hnc
  go_enter Try.func12, Try.ntmps12
  go_wp2_with fail
  refine CN.out.mono ?_; rintro e w1 ⟨rfl, rfl⟩
  go_wp2_with fail
  clear kx2 hW1 hW2 hW3 s1 s2 s2a hb CN
  refine wp_region_Z [11] (fun w' => Fr (fun _ => False) W3 w') (by kernel_rfl) ((Fr.refl _ _).drew) (fun hHeld => ?_)
  refine anyZ_read (i := 0) (v := ?_) (some 7) [11] rfl rfl (by kernel_rfl) (by kernel_rfl) (by kernel_rfl) (by kernel_rfl) (by kernel_rfl) (by kernel_rfl) (fun _ _ _ h => h) (Or.inl ⟨by rfl, ?_⟩) hHeld ?_
  rotate_left
  · intro w' hSw
    obtain ⟨y0, y1, y2, y3, y4⟩ := HC.out w' hSw
    go_simp
    first | done | with_reducible rfl
  try simp only [Act.put, List.setIfInBounds_toArray, List.set_cons_zero, List.set_cons_succ]
  refine anyZ_read (i := 1) (v := ?_) (some 8) [2, 3, 4, 10, 11] rfl rfl (by kernel_rfl) (by kernel_rfl) (by kernel_rfl) (by kernel_rfl) (by kernel_rfl) (by kernel_rfl) (fun _ _ _ h => h) (Or.inl ⟨by rfl, ?_⟩) hHeld ?_
  rotate_left
  · intro w' hSw
    obtain ⟨y0, y1, y2, y3, y4⟩ := HC.out w' hSw
    go_simp
    first | done | with_reducible rfl
  try simp only [Act.put, List.setIfInBounds_toArray, List.set_cons_zero, List.set_cons_succ]
  refine anyZ_pure (i := 2) (v := ?_) (some 9) rfl rfl (by kernel_rfl) (by kernel_rfl) (by kernel_rfl) (by kernel_rfl) (fun _ _ _ h => h) (Or.inl ⟨by rfl, ?_⟩) (fun _ => hHeld) ?_
  rotate_left
  · intro w' _
    go_simp
    first | done | with_reducible rfl
  try simp only [Act.put, List.setIfInBounds_toArray, List.set_cons_zero, List.set_cons_succ]
  refine anyZ_pure (i := 3) (v := ?_) (some 10) rfl rfl (by kernel_rfl) (by kernel_rfl) (by kernel_rfl) (by kernel_rfl) (fun _ _ _ h => h) (Or.inl ⟨by rfl, ?_⟩) (fun _ => hHeld) ?_
  rotate_left
  · intro w' _
    go_simp
    first | done | with_reducible rfl
  try simp only [Act.put, List.setIfInBounds_toArray, List.set_cons_zero, List.set_cons_succ]
  refine anyZ_read (i := 4) (v := ?_) (some 11) [10, 11] rfl rfl (by kernel_rfl) (by kernel_rfl) (by kernel_rfl) (by kernel_rfl) (by kernel_rfl) (by kernel_rfl) (fun _ _ _ h => h) (Or.inl ⟨by rfl, ?_⟩) hHeld ?_
  rotate_left
  · intro w' hSw
    obtain ⟨y0, y1, y2, y3, y4⟩ := HC.out w' hSw
    go_simp
    first | done | with_reducible rfl
  try simp only [Act.put, List.setIfInBounds_toArray, List.set_cons_zero, List.set_cons_succ]
  refine anyZ_read (i := 5) (v := ?_) (some 12) [6, 7, 8, 9, 10, 11] rfl rfl (by kernel_rfl) (by kernel_rfl) (by kernel_rfl) (by kernel_rfl) (by kernel_rfl) (by kernel_rfl) (fun _ _ _ h => h) (Or.inl ⟨by rfl, ?_⟩) hHeld ?_
  rotate_left
  · intro w' hSw
    obtain ⟨y0, y1, y2, y3, y4⟩ := HC.out w' hSw
    go_simp
    first | done | with_reducible rfl
  try simp only [Act.put, List.setIfInBounds_toArray, List.set_cons_zero, List.set_cons_succ]
  refine anyZ_pure (i := 6) (v := ?_) (some 13) rfl rfl (by kernel_rfl) (by kernel_rfl) (by kernel_rfl) (by kernel_rfl) (fun _ _ _ h => h) (Or.inl ⟨by rfl, ?_⟩) (fun _ => hHeld) ?_
  rotate_left
  · intro w' _
    go_simp
    first | done | with_reducible rfl
  try simp only [Act.put, List.setIfInBounds_toArray, List.set_cons_zero, List.set_cons_succ]
  refine anyZ_pure (i := 7) (v := ?_) (some 14) rfl rfl (by kernel_rfl) (by kernel_rfl) (by kernel_rfl) (by kernel_rfl) (fun _ _ _ h => h) (Or.inl ⟨by rfl, ?_⟩) (fun _ => hHeld) ?_
  rotate_left
  · intro w' _
    go_simp
    first | done | with_reducible rfl
  try simp only [Act.put, List.setIfInBounds_toArray, List.set_cons_zero, List.set_cons_succ]
  refine anyZ_read (i := 8) (v := ?_) (some 15) [9, 10, 11] rfl rfl (by kernel_rfl) (by kernel_rfl) (by kernel_rfl) (by kernel_rfl) (by kernel_rfl) (by kernel_rfl) (fun _ _ _ h => h) (Or.inl ⟨by rfl, ?_⟩) hHeld ?_
  rotate_left
  · intro w' hSw
    obtain ⟨y0, y1, y2, y3, y4⟩ := HC.out w' hSw
    go_simp
    first | done | with_reducible rfl
  try simp only [Act.put, List.setIfInBounds_toArray, List.set_cons_zero, List.set_cons_succ]
  refine anyZ_ready (rs := [9]) (by kernel_rfl) (by simp) ?_
  refine AllZ.step rfl (fun K hK => ?_) AllZ.nil
  obtain ⟨y0, y1, y2, y3, y4⟩ := HC.out _ hHeld
  go_simp
  try go_simp
  refine hK.out _ _ (hHeld) (fun hHeld => ?_)
  clear hK K
  try change anyZ _ _ _ _ _ _ _ _ (Act.put _ (some 16) _) _
  try simp only [Act.put, List.setIfInBounds_toArray, List.set_cons_zero, List.set_cons_succ]
  refine anyZ_ready (rs := [10]) (by kernel_rfl) (by simp) ?_
  refine AllZ.step rfl (fun K hK => ?_) AllZ.nil
  go_simp
  refine hK.out _ _ (hHeld.alloc _) (fun hHeld => ?_)
  clear hK K
  try change anyZ _ _ _ _ _ _ _ _ (Act.put _ (some 17) _) _
  try simp only [Act.put, List.setIfInBounds_toArray, List.set_cons_zero, List.set_cons_succ]
  refine anyZ_ready (rs := [11]) (by kernel_rfl) (by simp) ?_
  refine AllZ.last rfl (by kernel_rfl) (fun K hK => ?_) AllZ.nil
  go_simp
  have CI := ints_any (l := [win, (nc : Int)]) (n := 2) (ic := 2) (v := .slice none 0 0) (bs := []) (gw := b + 1) (wbx := b + 1 + 1) (ib := W3.heap.size) (w := (W3.alloc (.cells #[.int .i64 win, .int .i64 (nc : Int)] 3)).drew) ⟨KW.out.fr hHeld (fun h => h), Own8.nil _ _⟩ (KX.out.fr hHeld (fun h => h)) (Bk.new _ _ _).drew (by have := HI.out; intro a ha; simp at ha; rcases ha with rfl | rfl; exact this.1; exact this.2) (by simp) (by simp) rfl
  refine CI.mono ?_; rintro e w2 ⟨rfl, v2, hw2⟩
  clear CI
  rw [List.nil_append] at hw2
  have HW2 := Lib.hid hw2
  have HF2 := Lib.hid hHeld
  clear hw2
  try go_simp
  refine hK.out _ _ ?_
  clear hK K
  try change anyZ _ _ _ _ _ _ _ _ (Act.put _ (some 18) _) _
  try simp only [Act.put, List.setIfInBounds_toArray, List.set_cons_zero, List.set_cons_succ]
  refine anyZ_done (by kernel_rfl) ?_ _
  clear hHeld
  have k2n : ∀ k, (k = b + 1 ∨ (Value.slice none 0 0).ownBlock = some k) → b + 1 ≤ k := fun k hk => by
    rcases hk with e | e
    · omega
    · simp [Value.ownBlock] at e
  have f2 : Fr (fun k => k = b + 1) W3 w2 := (HF2.out.mono (fun _ _ h => h.elim)).trans HW2.out.2.1 (fun k _ e => by
    rcases e with e | e
    · exact e
    · simp [Value.ownBlock] at e)
  have hv2 : ∀ k, v2.ownBlock = some k → b ≤ k := fun k hk => by
    rcases HW2.out.2.2 with e | ⟨x, e, hx⟩
    · rw [e] at hk; simp [Value.ownBlock] at hk
    · rw [e] at hk; injection hk with hk
      have h1 := HF2.out.size; have h2 := HS3.out
      omega
  have hg : ∀ k, F k → k ≠ b + 1 := fun k hk e => by have := HFB.out k hk; have := HB.out; omega
  have hlen : ([win, (nc : Int)].flatMap eI).length ≤ 20 := eIs_len _ (by have := HI.out; intro a ha; simp at ha; rcases ha with rfl | rfl; exact this.1; exact this.2)
  have hWK := enc_walks (w0 := w) (HM.out.fr f2 hg) HOK.out HSM.out HN.out (HAV.out.fr f2 hg) HFB.out HW2.out.1 hlen (by have := HB.out; omega) (fun k hk => by have := hv2 k hk; have := HB.out; omega) (by have h1 := f2.size; have h2 := HS3.out; have := HB.out; omega)
    (KX.out.fr f2 (by omega)) (KI.out.fr f2 (by omega)) (KT.out.fr f2 (by omega))
  have CWK := Lib.hid (walk_any (HM.out.fr f2 hg) HOK.out (HAV.out.fr f2 hg) HAT.out hWK)
  have KX2 := Lib.hid (KX.out.fr f2 (by omega))
  have y1 : w2.cell? ⟨b, 0, none⟩ = some (.pointer (some ⟨g, 0, none⟩)) := (KT.out.fr f2 (by omega)).cell 0
  have F2 := Lib.hid f2
  have HV2 := Lib.hid hv2
  clear k2n f2 hv2 hg hlen hWK HC
  go_wp2_with fail
  refine CWK.out.mono ?_; rintro e w3 ⟨rfl, WX, hfX, hJ⟩
  obtain ⟨v3, hw3⟩ := hJ.resolve_right (fun h => h)
  rw [List.take_length, ← HE.out] at hw3
  have hlen : (encT t).length ≤ 140737488355328 := by
    rw [HE.out, List.length_append]
    have h1 : ([win, (nc : Int)].flatMap eI).length ≤ 20 := eIs_len _ (by have := HI.out; intro a ha; simp at ha; rcases ha with rfl | rfl; exact this.1; exact this.2)
    have h2 := steps_len HOK.out HSM.out (by omega) t.lst (fun p hp => hp)
    have h3 : t.lst.length ≤ 8192 := by rw [lst_len]; exact HN.out
    have h4 : t.lst.length * (50 + 8192) ≤ 8192 * 8242 := Nat.mul_le_mul_right _ h3
    omega
  have CD := Lib.hid (wDone_any (b + 1) v3 (encT t) w3 hw3.1 hlen)
  have fX : Fr (fun k => k = b + 1 ∨ v2.ownBlock = some k) w2 w3 := (hfX.mono (fun _ _ h => h.elim)).trans hw3.2.1 (fun _ _ h => h)
  have y2 : w3.cell? ⟨b + 1 + 1, 0, none⟩ = some (.pointer (some ⟨b + 1, 0, none⟩)) := (KX2.out.fr fX (by
    rintro (e | e)
    · omega
    · exact HW2.out.1.2.ne KX2.out (by decide) e)).cell 0
  have FW3 : Hid (Fr (fun _ => False) w w3) := Lib.hid (((((F03.out.mono (T := fun k => b ≤ k) (fun _ _ h => h.elim)).trans F2.out (fun k _ e => by omega)).trans fX (fun k _ e => by
    rcases e with e | e
    · omega
    · exact HV2.out k e))).mono (fun k hk e => by have := HB.out; omega))
  clear hw3 hlen fX hJ hfX y1 CWK
  go_wp2_with fail
  refine CD.out.mono ?_; rintro e w4 ⟨A, c, rfl, ho, hf⟩
  have HO := Lib.hid ho
  have HF := Lib.hid hf
  clear ho hf CD y2
  go_wp2
  go_ret
  refine ⟨A, c, rfl, HO.out, FW3.out.trans HF.out.1 (fun _ _ h => h), fun k hk => ?_⟩
  have h1 := HF.out.2 k hk
  have h2 := FW3.out.size
  omega
end Go.Proofs.Ytdfkoehcmgcoiaa
