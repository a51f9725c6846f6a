/- match: All. -/
import Derived.Test.YtkinbcmnfpkncaaSd
namespace Go.Proofs.Ytkinbcmnfpkncaa
open Go.RowKit Go.Maps Go.Shelf

abbrev tSq : TypeId := 66
theorem teSq : TE Try.prog 91 tSq 1 8 Value.nilFunc := ⟨Try.underlying91, by kernel_rfl, rfl, by omega⟩
theorem Try.makeSq (n : Nat) (hn : n ≤ 5000000000000) : ∃ cur : Array Value, cur.size = n ∧ ∀ w : World,
    (Instr.makeSlice 91 (.int .i64 (n : Int)) (.int .i64 (n : Int))).run Try.prog w = .ok (.slice (some ⟨w.heap.size, 0, none⟩) n n) (w.alloc (.cells cur tSq)) := by
  obtain ⟨i, hi, hz, hsz, hby⟩ := info_parts teSq.info
  refine ⟨madeCells (Value.nilFunc).cells (n * i.size), by simp [madeCells, hsz], fun w => ?_⟩
  have h1 := run_make (P := Try.prog) w 91 tSq i _ teSq.sl hi hz .i64 .i64 (n : Int) (n : Int) (by omega) (Int.le_refl _) (by rw [hby]; omega) (by omega)
  simpa using h1
/-- The sequences of the first k names are made. -/
def AP (t : MT Int) (ns : List Int) (N0 q N k : Nat) (W : World) : Prop := ∃ cur, Bk W q tSq cur ∧ cur.size = N ∧ ∀ i (hi : i < ns.length), i < k → ∃ kk v, cur[i]? = some (SeqV kk) ∧ N0 ≤ kk ∧ W.cell? ⟨kk, 0, none⟩ = some v ∧ (∀ g, v.ownBlock = some g → N0 ≤ g) ∧ Sl W 2 v (t.row (ns[i]'hi)).length (pcs IV (t.row (ns[i]'hi)))
theorem AP.fr {t : MT Int} {ns : List Int} {N0 q N k : Nat} {W W' : World} (h : AP t ns N0 q N k W) (hf : Fr (fun _ => False) W W') : AP t ns N0 q N k W' := by
  obtain ⟨cur, h1, h2, h3⟩ := h
  refine ⟨cur, h1.fr hf (fun h => h), h2, fun i hi hk => ?_⟩
  obtain ⟨kk, v, a1, a2, a3, a4, a5⟩ := h3 i hi hk
  exact ⟨kk, v, a1, a2, (hf.cell (p := ⟨kk, 0, none⟩) (World.block_lt_of_cell? W _ a3) (fun h => h)).trans a3, a4, a5.fr (by omega) hf (fun _ _ h => h)⟩
theorem AP.step {t : MT Int} {ns : List Int} {N0 q N k kk : Nat} {W0 W : World} {x : Int} {v : Value} (h : AP t ns N0 q N k W) (hq : q < N0) (hk : k < N) (hkl : k < ns.length) (hx : ns[k]'hkl = x) (hs : SeqM W0 W kk v (t.row x)) (hN : N0 ≤ W0.heap.size) : AP t ns N0 q N (k + 1) (W.setCell ⟨q, k, none⟩ (SeqV kk)) := by
  obtain ⟨cur, h1, h2, h3⟩ := h
  have hf : Fr (fun z => z = q) W (W.setCell ⟨q, k, none⟩ (SeqV kk)) := Fr.setCell (S := fun z => z = q) (p := ⟨q, k, none⟩) (Fr.refl _ _) (fun _ => rfl) _
  refine ⟨_, h1.set k (SeqV kk), by simpa using h2, fun i hi hik => ?_⟩
  by_cases e : i = k
  · subst e
    refine ⟨kk, v, by simp [h2, hk], Nat.le_trans hN hs.new, ?_, fun g hg => Nat.le_trans hN (hs.row.2.1 g hg), ?_⟩
    · have := hs.new
      exact (hs.box.fr hf (by omega)).cell 0
    · rw [hx]
      exact hs.row.1.sl.fr (by omega) hf (fun g hg e => by have := hs.row.2.1 g hg; omega)
  · obtain ⟨kk', v', a1, a2, a3, a4, a5⟩ := h3 i hi (by omega)
    refine ⟨kk', v', by rw [Array.getElem?_setIfInBounds_ne (by omega)]; exact a1, a2, ?_, a4, a5.fr (by omega) hf (fun g hg e => by have := a4 g hg; omega)⟩
    exact (hf.cell (p := ⟨kk', 0, none⟩) (World.block_lt_of_cell? W _ a3) (by show ¬ kk' = q; omega)).trans a3
theorem AP.old {t : MT Int} {ns : List Int} {N0 q N k : Nat} {W : World} (h : AP t ns N0 q N k W) (hk : k < N) : ∃ u, ∀ W', Fr (fun _ => False) W W' → W'.cell? ⟨q, k, none⟩ = some u ∧ W'.frozen? ⟨q, k, none⟩ = false := by
  obtain ⟨cur, h1, h2, h3⟩ := h
  refine ⟨cur[k]'(by omega), fun W' hf => ⟨((h1.fr hf (fun h => h)).cell k).trans ?_, (h1.fr hf (fun h => h)).frozen k⟩⟩
  exact Array.getElem?_eq_getElem (by omega)

/-- What All hands back. -/
def AllV (ka kb : Nat) : Value := .func (.func 47) #[] #[.pointer (some ⟨ka, 0, none⟩), .pointer (some ⟨kb, 0, none⟩)]

set_option maxRecDepth 100000 in
set_option maxHeartbeats 8000000 in
theorem all_I {w : World} {g br : Nat} {F : Nat → Prop} {t : MT Int} {D : DV} (h : MtM 55 tP IV w g br F t D) (ok : t.ok) (hp : t.pushed ≤ 1000000) :
    Calls Try.prog 38 #[.pointer (some ⟨g, 0, none⟩)] w fun e w' => ∃ ka kb A c q cq ns, e = .returned (AllV ka kb) ∧ AF w.heap.size t ns ka kb A c (some ⟨q, 0, none⟩) cq w' ∧ NamesOf t ns ∧ Fr (fun _ => False) w w' := by
  have CN := Lib.hid (names_I h hp)
  have H := Lib.hid h
  have HOK := Lib.hid ok
  have HFL : Hid (∀ k, F k → k < w.heap.size) := Lib.hid h.flt
  have HP := Lib.hid hp
  have hmf : ∀ (fn : Fn) (first cap : Array Value) (w : World), (Instr.makeFunc fn first cap).run Try.prog w = .ok (.func fn first cap) w := fun _ _ _ _ => rfl
  have hstf : ∀ (a : Addr) (fn : Fn) (x y : Array Value) (w : World), (store a (.func fn x y) .plain).run Try.prog w = stored Try.prog w a (.func fn x y) .plain := fun a _ _ _ w => run_store Try.prog w a _ .plain rfl
  clear h ok hp
  go_enter Try.func38, Try.ntmps38
  go_wp2_with fail
  refine CN.out.mono ?_; rintro e w1 ⟨v, ns, rfl, hri, hnew, hf1, hns⟩
  clear CN
  obtain ⟨N, hN⟩ : ∃ N, ns.length = N := ⟨_, rfl⟩
  have hN1 : N ≤ 1000000 := by rw [← hN]; exact Nat.le_trans hns.2.2 HP.out
  obtain ⟨A, c, rfl, -, -, hA⟩ := Row.form hri
  rw [hN] at hri ⊢
  obtain ⟨cur, hcs, hmk⟩ := Try.makeSq N (by omega)
  obtain ⟨ka, hka⟩ : ∃ ka, w1.heap.size = ka := ⟨_, rfl⟩
  obtain ⟨W2, hW2⟩ : ∃ W2, w1.alloc (.cells #[.slice A N c] 43) = W2 := ⟨_, rfl⟩
  have s2 : W2.heap.size = ka + 1 := by rw [← hW2, ← hka]; simp
  obtain ⟨W3, hW3⟩ : ∃ W3, W2.alloc (.cells cur tSq) = W3 := ⟨_, rfl⟩
  have s3 : W3.heap.size = ka + 1 + 1 := by rw [← hW3]; simp [s2]
  obtain ⟨W4, hW4⟩ : ∃ W4, W3.alloc (.cells #[.slice (some ⟨ka + 1, 0, none⟩) N N] 91) = W4 := ⟨_, rfl⟩
  have s4 : W4.heap.size = ka + 1 + 1 + 1 := by rw [← hW4]; simp [s3]
  have f2 : Fr (fun _ => False) w1 W2 := by rw [← hW2]; exact (Fr.refl _ _).alloc _
  have f3 : Fr (fun _ => False) W2 W3 := by rw [← hW3]; exact (Fr.refl _ _).alloc _
  have f4 : Fr (fun _ => False) W3 W4 := by rw [← hW4]; exact (Fr.refl _ _).alloc _
  have k2 : Bk W2 ka 43 #[.slice A N c] := by rw [← hW2, ← hka]; exact Bk.new _ _ _
  have k3 : Bk W3 (ka + 1) tSq cur := by rw [← hW3, ← s2]; exact Bk.new _ _ _
  have k4 : Bk W4 (ka + 1 + 1) 91 #[.slice (some ⟨ka + 1, 0, none⟩) N N] := by rw [← hW4, ← s3]; exact Bk.new _ _ _
  have c2 : W2.cell? ⟨ka, 0, none⟩ = some (.slice A N c) := k2.cell 0
  have f34 := f3.trans f4 (fun _ _ h => h)
  have HF4 : Hid (Fr (fun _ => False) w W4) := Lib.hid ((hf1.trans f2 (fun _ _ h => h)).trans f34 (fun _ _ h => h))
  have c4 : W4.cell? ⟨ka, 0, none⟩ = some (.slice A N c) := (k2.fr f34 (fun h => h)).cell 0
  have HKA : Hid (w.heap.size ≤ ka) := Lib.hid (by rw [← hka]; exact hf1.size)
  have HAP0 : Hid (AP t ns (ka + 1 + 1 + 1) (ka + 1) N 0 W4) := Lib.hid ⟨cur, k3.fr f4 (fun h => h), hcs, fun i _ h => by omega⟩
  have HS4 := Lib.hid s4
  have HN := Lib.hid hN
  have HN1 := Lib.hid hN1
  have HNS := Lib.hid hns
  have HKB : Hid (∀ w', Fr (fun z => z = ka + 1) W4 w' → w'.cell? ⟨ka, 0, none⟩ = some (.slice A N c) ∧ w'.cell? ⟨ka + 1 + 1, 0, none⟩ = some (.slice (some ⟨ka + 1, 0, none⟩) N N)) := Lib.hid (fun w' hf => ⟨((k2.fr f34 (fun h => h)).fr hf (by omega)).cell 0, (k4.fr hf (by omega)).cell 0⟩)
  have HNM : Hid (∀ i (hi : i < ns.length), ∃ b o, A = some ⟨b, o, none⟩ ∧ w.heap.size ≤ b ∧ ∀ w', Fr (fun z => z = ka + 1) W4 w' → w'.cell? ⟨b, o + i, none⟩ = some (.int .i64 (ns[i]'hi))) := Lib.hid (fun i hi => by
    obtain ⟨b, o, rfl⟩ := hA (by omega)
    refine ⟨b, o, rfl, hnew b rfl, fun w' hf => ?_⟩
    have hb : b < w1.heap.size := Row.lt hri rfl
    have h9 := ((Row.fr0 hri f2).fr0 f34).fr hf (fun k hk e => by
      have : b = k := by simpa [Value.ownBlock] using hk
      omega)
    exact Row.cell h9 (by rw [List.getElem?_map, List.getElem?_eq_getElem hi]; rfl))
  clear hri hnew hf1 hns hA hcs f2 f3 f4 f34 k2 k3 k4 hN hN1
  go_wp2_with fail
  clear hW2 hW3 hW4 hka c2 s2 s3 s4 hmk
  go_loopw [14] (fun u wr => ∃ k : Nat, u = .int .i64 (k : Int) ∧ k ≤ N ∧ Hid (AP t ns (ka + 1 + 1 + 1) (ka + 1) N k wr) ∧ Hid (Fr (fun z => z = ka + 1) W4 wr)) (fun u _ => N - (intOf u).toNat)
  case atStart => exact ⟨0, rfl, Nat.zero_le _, HAP0, Lib.hid (Fr.refl _ _)⟩
  case round =>
    clear HAP0 c4
    obtain ⟨k, rfl, hk, HAP, HFW⟩ := hrel
    obtain ⟨ca, cb⟩ := HKB.out wr HFW.out
    by_cases hlt : k < N
    · have di : decide ((k : Int) < (N : Int)) = true := decide_eq_true (by omega)
      have di' : decide (k < N) = true := decide_eq_true hlt
      have k0 : (0 : Int) ≤ (k : Int) := by omega
      have k1 : (k : Int) < (N : Int) := by omega
      have hkl : k < ns.length := by rw [HN.out]; exact hlt
      have hwk := wrap_succ (k := k) (by have := HN1.out; omega)
      obtain ⟨x, hx⟩ : ∃ x, ns[k] = x := ⟨_, rfl⟩
      have HX : Hid (∃ hkl : k < ns.length, ns[k]'hkl = x) := Lib.hid ⟨hkl, hx⟩
      have hxI : I64 x := ((HNS.out.2.1 x).1 (by rw [← hx]; exact List.getElem_mem _)).1
      obtain ⟨b9, o9, rfl, -, hc9⟩ := HNM.out k hkl
      have c9 := hc9 wr HFW.out
      rw [hx] at c9
      have HLT := Lib.hid hlt
      have HMW : Hid (MtM 55 tP IV wr g br F t D) := Lib.hid ((H.out.fr HF4.out (fun _ _ h => h)).fr HFW.out (fun z hz e => by have := HFL.out z hz; have := HKA.out; omega))
      have CR : Hid (∀ w', Fr (fun _ => False) wr w' → Calls Try.prog 31 #[.pointer (some ⟨g, 0, none⟩), .int .i64 x] w' fun e w'' => ∃ k v, e = .returned (SeqV k) ∧ SeqM w' w'' k v (t.row x)) := Lib.hid (fun w' hf => row_I (HMW.out.fr hf (fun _ _ h => h)) HOK.out hxI)
      have HCB : Hid (∀ w', Fr (fun _ => False) wr w' → w'.cell? ⟨ka + 1 + 1, 0, none⟩ = some (.slice (some ⟨ka + 1, 0, none⟩) N N)) := Lib.hid (fun w' hf => (HKB.out w' (HFW.out.trans hf (fun _ _ h => h.elim))).2)
      clear hk hlt hkl hx hxI hc9 HMW cb
      go_wp2_with fail
      refine wp_region_Z [6] (fun w' => Fr (fun _ => False) wr w') (by kernel_rfl) ((Fr.refl _ _).drew) (fun hHeld => ?_)
      refine anyZ_read (i := 0) (v := ?_) (some 19) [5, 6] rfl rfl (by kernel_rfl) (by kernel_rfl) (by kernel_rfl) (by kernel_rfl) (by kernel_rfl) (by kernel_rfl) (fun _ _ _ h => h) (Or.inl ⟨by rfl, ?_⟩) hHeld ?_
      rotate_left
      · intro w' hSw
        have cb := HCB.out w' hSw
        go_simp
        first | done | with_reducible rfl
      try simp only [Act.put, List.setIfInBounds_toArray, List.set_cons_zero, List.set_cons_succ]
      refine anyZ_pure (i := 1) (v := ?_) (some 20) rfl rfl (by kernel_rfl) (by kernel_rfl) (by kernel_rfl) (by kernel_rfl) (fun _ _ _ h => h) (Or.inl ⟨by rfl, ?_⟩) (fun _ => hHeld) ?_
      rotate_left
      · intro w' _
        go_simp
        first | done | with_reducible rfl
      try simp only [Act.put, List.setIfInBounds_toArray, List.set_cons_zero, List.set_cons_succ]
      refine anyZ_pure (i := 2) (v := ?_) (some 21) rfl rfl (by kernel_rfl) (by kernel_rfl) (by kernel_rfl) (by kernel_rfl) (fun _ _ _ h => h) (Or.inl ⟨by rfl, ?_⟩) (fun _ => hHeld) ?_
      rotate_left
      · intro w' _
        go_simp
        first | done | with_reducible rfl
      try simp only [Act.put, List.setIfInBounds_toArray, List.set_cons_zero, List.set_cons_succ]
      refine anyZ_pure (i := 3) (v := ?_) (some 22) rfl rfl (by kernel_rfl) (by kernel_rfl) (by kernel_rfl) (by kernel_rfl) (fun _ _ _ h => h) (Or.inl ⟨by rfl, ?_⟩) (fun _ => hHeld) ?_
      rotate_left
      · intro w' _
        go_simp
        first | done | with_reducible rfl
      try simp only [Act.put, List.setIfInBounds_toArray, List.set_cons_zero, List.set_cons_succ]
      refine anyZ_ready (rs := [4]) (by kernel_rfl) (by simp) ?_
      refine AllZ.step rfl (fun K hK => ?_) AllZ.nil
      go_simp
      refine (CR.out _ hHeld).mono ?_; rintro e w4 ⟨kk, v, rfl, hs⟩
      have HSQ := Lib.hid hs
      have HD := Lib.hid hHeld
      clear hs
      dsimp only [SeqV]
      try go_simp
      refine hK.out _ _ (HD.out.trans HSQ.out.row.2.2 (fun _ _ h => h)) (fun hHeld => ?_)
      clear hK K
      try change anyZ _ _ _ _ _ _ _ _ (Act.put _ (some 23) _) _
      try simp only [Act.put, List.setIfInBounds_toArray, List.set_cons_zero, List.set_cons_succ]
      refine anyZ_pure (i := 5) (v := ?_) (some 24) rfl rfl (by kernel_rfl) (by kernel_rfl) (by kernel_rfl) (by kernel_rfl) (fun _ _ _ h => h) (Or.inl ⟨by rfl, ?_⟩) (fun _ => hHeld) ?_
      rotate_left
      · intro w' _
        go_simp
        first | done | with_reducible rfl
      try simp only [Act.put, List.setIfInBounds_toArray, List.set_cons_zero, List.set_cons_succ]
      refine anyZ_ready (rs := [6]) (by kernel_rfl) (by simp) ?_
      refine AllZ.last rfl (by kernel_rfl) (fun K hK => ?_) AllZ.nil
      go_simp
      obtain ⟨u, hu⟩ := HAP.out.old HLT.out
      obtain ⟨cu, zu⟩ := hu _ hHeld
      have HH := Lib.hid hHeld
      clear hu
      go_simp
      refine hK.out _ _ ?_
      clear hK K
      try change anyZ _ _ _ _ _ _ _ _ (Act.put _ none _) _
      try simp only [Act.put, List.setIfInBounds_toArray, List.set_cons_zero, List.set_cons_succ]
      refine anyZ_done (by kernel_rfl) ?_ _
      have HAP2 : Hid (AP t ns (ka + 1 + 1 + 1) (ka + 1) N (k + 1) (w4.setCell ⟨ka + 1, k, none⟩ (SeqV kk))) := Lib.hid (by
        obtain ⟨hkl, hx⟩ := HX.out
        exact (HAP.out.fr (HD.out.trans HSQ.out.row.2.2 (fun _ _ h => h))).step (by omega) HLT.out hkl hx HSQ.out (by have := HS4.out; have := HFW.out.size; have := HD.out.size; omega))
      have HFW2 : Hid (Fr (fun z => z = ka + 1) W4 (w4.setCell ⟨ka + 1, k, none⟩ (SeqV kk))) := Lib.hid (Fr.setCell (p := ⟨ka + 1, k, none⟩) (HFW.out.trans (HD.out.trans HSQ.out.row.2.2 (fun _ _ h => h)) (fun _ _ h => h.elim)) (fun _ => rfl) _)
      unfold SeqV at HAP2 HFW2
      trace_state
      go_wp2
      go_roundw
      case rel => exact ⟨k + 1, by first | rfl | (push_cast; rfl) | (go_num; done), HLT.out, HAP2, HFW2⟩
      case measure =>
        show N - ((k : Int) + 1).toNat < N - ((k : Int)).toNat
        exact meas_up HLT.out
    · have di : decide ((k : Int) < (N : Int)) = false := decide_eq_false (by omega)
      have di' : decide (k < N) = false := decide_eq_false hlt
      obtain rfl : k = N := by omega
      clear hk hlt
      go_wp2
      go_ret
      refine ⟨ka, ka + 1 + 1, _, _, ka + 1, k, ns, rfl, ⟨HKA.out, by have := HKA.out; omega, by rw [HN.out]; exact ca, by rw [HN.out]; exact cb, fun i hi => ?_, fun i hi => ?_⟩, HNS.out, HF4.out.trans HFW.out (fun z hz e => by have := HKA.out; omega)⟩
      · obtain ⟨b, o, e, h1, h2⟩ := HNM.out i hi
        exact ⟨b, o, e, h1, h2 _ HFW.out⟩
      · obtain ⟨cur, h1, h2, h3⟩ := HAP.out
        obtain ⟨kk, v, a1, a2, a3, a4, a5⟩ := h3 i hi (by rw [← HN.out]; exact hi)
        have := HKA.out
        refine ⟨ka + 1, 0, kk, v, rfl, by omega, ?_, by omega, a3, fun g hg => by have := a4 g hg; omega, a5⟩
        rw [Nat.zero_add]
        exact (h1.cell i).trans a1
end Go.Proofs.Ytkinbcmnfpkncaa
