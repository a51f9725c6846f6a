/- dedup: Encode. -/
import Derived.Test.YtdfkoehcmgcoiaaJx
import Derived.Test.YtdfkoehcmgcoiaaJr
namespace Go.Proofs.Ytdfkoehcmgcoiaa
open Go.RowKit Go.Maps

/-- What Encode lays of a client. -/
def headE (t : DT) (c : Int) : List UInt8 := [c, t.top c, ((t.row c).length : Int)].flatMap eI
/-- What it lays of a request, the client's head ahead of the first one. -/
def stepE (t : DT) (p : Int × Int) : List UInt8 := (if (t.row p.1)[0]? = some p.2 then headE t p.1 else []) ++ (eI p.2 ++ eB (t.ans p.1 p.2))
def encT (t : DT) : List UInt8 := [t.win, (t.cs.length : Int)].flatMap eI ++ t.lst.flatMap (stepE t)
theorem callS (args : Array Value) (W : World) : (callFunc 26 args).run Try.prog W = .ok (.enter 26 args) W := by
  go_simp

set_option maxRecDepth 100000 in
set_option maxHeartbeats 8000000 in
theorem enc2_any {g ba br gw wbx ibx tbx : Nat} {F : Nat → Prop} {t : DT} {Da Dr : DV} {w : World} (h : TabM w g ba br F t Da Dr) (ok : t.ok) {v : Value} {bs : List UInt8} (hw : Wr w gw v bs) (hb : bs.length ≤ 1048576000)
    (hx : Bk w wbx 57 #[.pointer (some ⟨gw, 0, none⟩)]) (hi : Bk w ibx 60 #[.func (.func 23) #[] #[.pointer (some ⟨wbx, 0, none⟩)]]) (ht : Bk w tbx 25 #[.pointer (some ⟨g, 0, none⟩)])
    {c s : Int} (hc : c ∈ t.cs) (hs : s ∈ t.row c) {A : Option Addr} {n cap : Nat} (hr : Rd8 w A (t.ans c s)) (hn : (t.ans c s).length = n) (hn8 : n ≤ 1048576) (hap : ∀ ad, A = some ad → 0 < n → F ad.block) (hF : ∀ k, F k → ¬ (k = gw ∨ v.ownBlock = some k)) :
    Calls Try.prog 26 #[.agg #[.int .i64 c, .int .i64 s, .slice A n cap], .pointer (some ⟨tbx, 0, none⟩), .pointer (some ⟨ibx, 0, none⟩), .pointer (some ⟨wbx, 0, none⟩)] w fun e w' => e = .returned (.bool true) ∧ ∃ v', WrTo w gw v w' v' (bs ++ stepE t (c, s)) := by
  have hcr := ok.crng c hc
  have hsr := ok.rng c s hs
  have htr := ok.took0.top_rng c
  have hc64 : I64 c := I64.of (by omega) (by omega)
  have hs64 : I64 s := I64.of (by omega) (by omega)
  have hne := (ok.cl c).1 hc
  have hlen : (t.row c).length ≤ 4096 := by have := ok.len c; have := ok.w2; omega
  obtain ⟨vr, h1, h2, _⟩ := h.row c hc64 hne
  obtain ⟨Ar, cr, rfl, _⟩ := h2.form
  obtain ⟨b0, o0, rfl, hr0⟩ := RI.at h2 (j := 0) (List.length_pos_iff.2 hne)
  obtain ⟨r0, hr0e⟩ : ∃ r0, (t.row c)[0]'(List.length_pos_iff.2 hne) = r0 := ⟨_, rfl⟩
  have hr0o : (t.row c)[0]? = some r0 := by rw [List.getElem?_eq_getElem (List.length_pos_iff.2 hne), hr0e]
  rw [hr0e, Nat.add_zero] at hr0
  have HST : Hid (stepE t (c, s) = (if r0 = s then [c, t.top c, ((t.row c).length : Int)].flatMap eI else []) ++ (eI s ++ eB (t.ans c s))) := Lib.hid (by
    unfold stepE headE
    simp only [hr0o, Option.some.injEq])
  have htb : ¬ ((b0 : Nat) = gw ∨ v.ownBlock = some b0) := by
    obtain ⟨cur, hcb⟩ := Row.bk h2 (g := b0) rfl
    rintro (e | e)
    · exact Bk.ne hcb hw.1 (by decide) e
    · exact hw.2.ne hcb (by decide) e
  obtain ⟨eb, heb⟩ : ∃ eb, w.heap.size = eb := ⟨_, rfl⟩
  obtain ⟨W, hW⟩ : ∃ W, w.alloc (.cells #[.int .i64 c, .int .i64 s, .slice A n cap] 63) = W := ⟨_, rfl⟩
  have fw : Fr (fun _ => False) w W := by rw [← hW]; exact (Fr.refl _ _).alloc _
  have KW : Hid (Bk W eb 63 #[.int .i64 c, .int .i64 s, .slice A n cap]) := Lib.hid (by rw [← hW, ← heb]; exact Bk.new _ _ _)
  have FW := Lib.hid fw
  have hwW : Wr W gw v bs := ⟨hw.1.fr fw (fun h => h), hw.2.fr fw (fun _ _ h => h)⟩
  have dX : ∀ {b : Nat} {T : TypeId} {cs : Array Value}, Bk w b T cs → T ≠ 77 → T ≠ 5 → ¬ (b = gw ∨ v.ownBlock = some b) := fun hb h1 h2 => by
    rintro (e | e)
    · exact Bk.ne hb hw.1 h1 e
    · exact hw.2.ne hb (fun e => h2 e.symm) e
  have HC : Hid (∀ w', Fr (fun k => k = gw ∨ v.ownBlock = some k) W w' → w'.cell? ⟨tbx, 0, none⟩ = some (.pointer (some ⟨g, 0, none⟩)) ∧ w'.cell? ⟨ibx, 0, none⟩ = some (.func (.func 23) #[] #[.pointer (some ⟨wbx, 0, none⟩)]) ∧ w'.cell? ⟨wbx, 0, none⟩ = some (.pointer (some ⟨gw, 0, none⟩)) ∧
      w'.cell? ⟨g, 2, none⟩ = some (.map (some br)) ∧ w'.cell? ⟨eb, 0, none⟩ = some (.int .i64 c) ∧ w'.cell? ⟨eb, 1, none⟩ = some (.int .i64 s) ∧ w'.cell? ⟨eb, 2, none⟩ = some (.slice A n cap) ∧ w'.cell? ⟨b0, o0, none⟩ = some (.int .i64 r0) ∧
      Bk w' wbx 57 #[.pointer (some ⟨gw, 0, none⟩)]) := Lib.hid (fun w' hf => by
    have f0 : Fr (fun k => k = gw ∨ v.ownBlock = some k) w w' := (fw.mono (fun _ _ h => h.elim)).trans hf (fun _ _ h => h)
    have g1 := KW.out.fr hf (fun e => by
      rcases e with e | e
      · have := hw.1.lt; omega
      · have := hw.2.lt e; omega)
    have gr := hr0
    refine ⟨(ht.fr f0 (dX ht (by decide) (by decide))).cell 0, (hi.fr f0 (dX hi (by decide) (by decide))).cell 0, (hx.fr f0 (dX hx (by decide) (by decide))).cell 0, (h.blk.fr f0 (dX h.blk (by decide) (by decide))).cell 2, g1.cell 0, g1.cell 1, g1.cell 2, ?_, hx.fr f0 (dX hx (by decide) (by decide))⟩
    exact (f0.cell (p := ⟨b0, o0, none⟩) (World.block_lt_of_cell? w _ hr0) htb).trans hr0)
  have HLK : Hid (∀ w', Fr (fun _ => False) w w' → (Instr.lookup 54 (.map (some br)) (.int .i64 c) false).run Try.prog w' = .ok (.slice (some ⟨b0, o0, none⟩) (t.row c).length cr) w') := Lib.hid (fun w' hf => ((h.mr.fr hf (fun h => h)).at1 kInt tRow (zeroRow w') hc64.key h1).2)
  have CT : Hid (∀ w', Fr (fun _ => False) w w' → Calls Try.prog 11 #[.pointer (some ⟨g, 0, none⟩), .int .i64 c] w' fun e w2 => e = .returned (.int .i64 (t.top c)) ∧ w' = w2) := Lib.hid (fun w' hf => top_any (h.fr hf (fun _ _ h => h)) hc64 (by omega))
  have HWW := Lib.hid hwW
  have HB := Lib.hid hb
  have HRD : Hid (∀ w', Fr (fun k => k = gw ∨ v.ownBlock = some k) w w' → Rd8 w' A (t.ans c s)) := Lib.hid (fun w' hf => hr.fr hf (fun ad e h0 => hF _ (hap ad e (by omega))))
  have HAP := Lib.hid (fun ad (e : A = some ad) (h0 : 0 < n) => (show F ad.block ∧ ad.block < w.heap.size ∧ ¬ (ad.block = gw ∨ v.ownBlock = some ad.block) from ⟨hap ad e h0, h.flt _ (hap ad e h0), hF _ (hap ad e h0)⟩))
  have HI : Hid (I64 c ∧ I64 s ∧ I64 (t.top c) ∧ I64 ((t.row c).length : Int)) := Lib.hid ⟨hc64, hs64, I64.of (by omega) (by omega), I64.of (by omega) (by omega)⟩
  obtain ⟨xs, hxs⟩ : ∃ xs, t.ans c s = xs := ⟨_, rfl⟩
  rw [hxs] at hn HST HRD
  have HNN := Lib.hid hn
  obtain ⟨rl, hrl⟩ : ∃ rl, (t.row c).length = rl := ⟨_, rfl⟩
  rw [hrl] at HST HLK HI
  obtain ⟨tp, htp⟩ : ∃ tp, t.top c = tp := ⟨_, rfl⟩
  rw [htp] at HST CT HI
  have hrl1 : 1 ≤ rl := by have := List.length_pos_iff.2 hne; omega
  have hrl2 : (1 : Int) ≤ (rl : Int) := by omega
  have hrl0 : 0 < rl := by omega
  have hrl3 : rl ≤ 4096 := by omega
  have HN8 := Lib.hid hn8
  have c1 := KW.out.cell 0
  clear h ok hw hb hx hi ht hc hs hr hn hn8 hap hF hcr hsr htr hc64 hs64 hne hlen h1 h2 hr0 hr0e hr0o htb fw hwW dX hxs hrl htp c1
  by_cases hq : r0 = s
  · have d0 : (s == r0) = true := by simp [hq]
    have HQ := Lib.hid hq
    clear hq
    go_enter Try.func26, Try.ntmps26
    go_wp2_with fail
    clear hW heb
    refine wp_region_Z [] (fun w' => Fr (fun _ => False) W w') (by kernel_rfl) ((Fr.refl _ _).drew) (fun hHeld => ?_)
    refine anyZ_read (i := 0) (v := ?_) (some 7) [1, 2, 3, 7, 8] rfl rfl (by kernel_rfl) (by kernel_rfl) (by kernel_rfl) (by kernel_rfl) (by kernel_rfl) (by kernel_rfl) (fun _ _ _ h => h) (Or.inl ⟨by rfl, ?_⟩) hHeld ?_
    rotate_left
    · intro w' hSw
      obtain ⟨y0, y1, y2, y3, y4, y5, y6, y7, y8⟩ := HC.out w' (hSw.mono (fun _ _ h => h.elim)); have hlk := HLK.out w' (FW.out.trans hSw (fun _ _ h => h))
      go_simp
      first | done | with_reducible rfl
    try simp only [Act.put, List.setIfInBounds_toArray, List.set_cons_zero, List.set_cons_succ]
    refine anyZ_pure (i := 1) (v := ?_) (some 8) rfl rfl (by kernel_rfl) (by kernel_rfl) (by kernel_rfl) (by kernel_rfl) (fun _ _ _ h => h) (Or.inl ⟨by rfl, ?_⟩) (fun _ => hHeld) ?_
    rotate_left
    · intro w' _
      go_simp
      first | done | with_reducible rfl
    try simp only [Act.put, List.setIfInBounds_toArray, List.set_cons_zero, List.set_cons_succ]
    refine anyZ_pure (i := 2) (v := ?_) (some 9) rfl rfl (by kernel_rfl) (by kernel_rfl) (by kernel_rfl) (by kernel_rfl) (fun _ _ _ h => h) (Or.inl ⟨by rfl, ?_⟩) (fun _ => hHeld) ?_
    rotate_left
    · intro w' _
      go_simp
      first | done | with_reducible rfl
    try simp only [Act.put, List.setIfInBounds_toArray, List.set_cons_zero, List.set_cons_succ]
    refine anyZ_read (i := 3) (v := ?_) (some 10) [7, 8] rfl rfl (by kernel_rfl) (by kernel_rfl) (by kernel_rfl) (by kernel_rfl) (by kernel_rfl) (by kernel_rfl) (fun _ _ _ h => h) (Or.inl ⟨by rfl, ?_⟩) hHeld ?_
    rotate_left
    · intro w' hSw
      obtain ⟨y0, y1, y2, y3, y4, y5, y6, y7, y8⟩ := HC.out w' (hSw.mono (fun _ _ h => h.elim)); have hlk := HLK.out w' (FW.out.trans hSw (fun _ _ h => h))
      go_simp
      first | done | with_reducible rfl
    try simp only [Act.put, List.setIfInBounds_toArray, List.set_cons_zero, List.set_cons_succ]
    refine anyZ_pure (i := 4) (v := ?_) (some 11) rfl rfl (by kernel_rfl) (by kernel_rfl) (by kernel_rfl) (by kernel_rfl) (fun _ _ _ h => h) (Or.inl ⟨by rfl, ?_⟩) (fun _ => hHeld) ?_
    rotate_left
    · intro w' _
      go_simp
      first | done | with_reducible rfl
    try simp only [Act.put, List.setIfInBounds_toArray, List.set_cons_zero, List.set_cons_succ]
    refine anyZ_pure (i := 5) (v := ?_) (some 12) rfl rfl (by kernel_rfl) (by kernel_rfl) (by kernel_rfl) (by kernel_rfl) (fun _ _ _ h => h) (Or.inl ⟨by rfl, ?_⟩) (fun _ => hHeld) ?_
    rotate_left
    · intro w' _
      go_simp
      first | done | with_reducible rfl
    try simp only [Act.put, List.setIfInBounds_toArray, List.set_cons_zero, List.set_cons_succ]
    refine anyZ_read (i := 6) (v := ?_) (some 13) [7, 8] rfl rfl (by kernel_rfl) (by kernel_rfl) (by kernel_rfl) (by kernel_rfl) (by kernel_rfl) (by kernel_rfl) (fun _ _ _ h => h) (Or.inl ⟨by rfl, ?_⟩) hHeld ?_
    rotate_left
    · intro w' hSw
      obtain ⟨y0, y1, y2, y3, y4, y5, y6, y7, y8⟩ := HC.out w' (hSw.mono (fun _ _ h => h.elim)); have hlk := HLK.out w' (FW.out.trans hSw (fun _ _ h => h))
      go_simp
      first | done | with_reducible rfl
    try simp only [Act.put, List.setIfInBounds_toArray, List.set_cons_zero, List.set_cons_succ]
    refine anyZ_read (i := 7) (v := ?_) (some 14) [8] rfl rfl (by kernel_rfl) (by kernel_rfl) (by kernel_rfl) (by kernel_rfl) (by kernel_rfl) (by kernel_rfl) (fun _ _ _ h => h) (Or.inl ⟨by rfl, ?_⟩) hHeld ?_
    rotate_left
    · intro w' hSw
      obtain ⟨y0, y1, y2, y3, y4, y5, y6, y7, y8⟩ := HC.out w' (hSw.mono (fun _ _ h => h.elim)); have hlk := HLK.out w' (FW.out.trans hSw (fun _ _ h => h))
      go_simp
      first | done | with_reducible rfl
    try simp only [Act.put, List.setIfInBounds_toArray, List.set_cons_zero, List.set_cons_succ]
    refine anyZ_pure (i := 8) (v := ?_) (some 6) rfl rfl (by kernel_rfl) (by kernel_rfl) (by kernel_rfl) (by kernel_rfl) (fun _ _ _ h => h) (Or.inl ⟨by rfl, ?_⟩) (fun _ => hHeld) ?_
    rotate_left
    · intro w' _
      go_simp
      first | done | with_reducible rfl
    try simp only [Act.put, List.setIfInBounds_toArray, List.set_cons_zero, List.set_cons_succ]
    refine anyZ_done (by kernel_rfl) ?_ _
    obtain ⟨W1, hW1⟩ : ∃ W1, W.drew = W1 := ⟨_, rfl⟩
    rw [hW1] at hHeld ⊢
    have FW1 := Lib.hid hHeld
    clear hHeld hW1
    go_wp2_with fail
    refine wp_region_Z [] (fun w' => Fr (fun _ => False) W w') (by kernel_rfl) (FW1.out.drew) (fun hHeld => ?_)
    refine anyZ_pure (i := 0) (v := ?_) (some 15) rfl rfl (by kernel_rfl) (by kernel_rfl) (by kernel_rfl) (by kernel_rfl) (fun _ _ _ h => h) (Or.inl ⟨by rfl, ?_⟩) (fun _ => hHeld) ?_
    rotate_left
    · intro w' _
      go_simp
      first | done | with_reducible rfl
    try simp only [Act.put, List.setIfInBounds_toArray, List.set_cons_zero, List.set_cons_succ]
    refine anyZ_pure (i := 1) (v := ?_) (some 16) rfl rfl (by kernel_rfl) (by kernel_rfl) (by kernel_rfl) (by kernel_rfl) (fun _ _ _ h => h) (Or.inl ⟨by rfl, ?_⟩) (fun _ => hHeld) ?_
    rotate_left
    · intro w' _
      go_simp
      first | done | with_reducible rfl
    try simp only [Act.put, List.setIfInBounds_toArray, List.set_cons_zero, List.set_cons_succ]
    refine anyZ_read (i := 2) (v := ?_) (some 17) [6] rfl rfl (by kernel_rfl) (by kernel_rfl) (by kernel_rfl) (by kernel_rfl) (by kernel_rfl) (by kernel_rfl) (fun _ _ _ h => h) (Or.inl ⟨by rfl, ?_⟩) hHeld ?_
    rotate_left
    · intro w' hSw
      obtain ⟨y0, y1, y2, y3, y4, y5, y6, y7, y8⟩ := HC.out w' (hSw.mono (fun _ _ h => h.elim))
      go_simp
      first | done | with_reducible rfl
    try simp only [Act.put, List.setIfInBounds_toArray, List.set_cons_zero, List.set_cons_succ]
    refine anyZ_pure (i := 3) (v := ?_) (some 18) rfl rfl (by kernel_rfl) (by kernel_rfl) (by kernel_rfl) (by kernel_rfl) (fun _ _ _ h => h) (Or.inl ⟨by rfl, ?_⟩) (fun _ => hHeld) ?_
    rotate_left
    · intro w' _
      go_simp
      first | done | with_reducible rfl
    try simp only [Act.put, List.setIfInBounds_toArray, List.set_cons_zero, List.set_cons_succ]
    refine anyZ_pure (i := 4) (v := ?_) (some 19) rfl rfl (by kernel_rfl) (by kernel_rfl) (by kernel_rfl) (by kernel_rfl) (fun _ _ _ h => h) (Or.inl ⟨by rfl, ?_⟩) (fun _ => hHeld) ?_
    rotate_left
    · intro w' _
      go_simp
      first | done | with_reducible rfl
    try simp only [Act.put, List.setIfInBounds_toArray, List.set_cons_zero, List.set_cons_succ]
    refine anyZ_read (i := 5) (v := ?_) (some 20) [6] rfl rfl (by kernel_rfl) (by kernel_rfl) (by kernel_rfl) (by kernel_rfl) (by kernel_rfl) (by kernel_rfl) (fun _ _ _ h => h) (Or.inl ⟨by rfl, ?_⟩) hHeld ?_
    rotate_left
    · intro w' hSw
      obtain ⟨y0, y1, y2, y3, y4, y5, y6, y7, y8⟩ := HC.out w' (hSw.mono (fun _ _ h => h.elim))
      go_simp
      first | done | with_reducible rfl
    try simp only [Act.put, List.setIfInBounds_toArray, List.set_cons_zero, List.set_cons_succ]
    refine anyZ_pure (i := 6) (v := ?_) (some 21) rfl rfl (by kernel_rfl) (by kernel_rfl) (by kernel_rfl) (by kernel_rfl) (fun _ _ _ h => h) (Or.inl ⟨by rfl, ?_⟩) (fun _ => hHeld) ?_
    rotate_left
    · intro w' _
      go_simp
      first | done | with_reducible rfl
    try simp only [Act.put, List.setIfInBounds_toArray, List.set_cons_zero, List.set_cons_succ]
    refine anyZ_done (by kernel_rfl) ?_ _
    obtain ⟨W2, hW2⟩ : ∃ W2, W1.drew = W2 := ⟨_, rfl⟩
    rw [hW2] at hHeld ⊢
    have FW2 := Lib.hid hHeld
    clear hHeld hW2
    go_wp2_with fail
    refine wp_region_Z [12] (fun w' => Fr (fun _ => False) W w') (by kernel_rfl) (FW2.out.drew) (fun hHeld => ?_)
    refine anyZ_read (i := 0) (v := ?_) (some 22) [12] rfl rfl (by kernel_rfl) (by kernel_rfl) (by kernel_rfl) (by kernel_rfl) (by kernel_rfl) (by kernel_rfl) (fun _ _ _ h => h) (Or.inl ⟨by rfl, ?_⟩) hHeld ?_
    rotate_left
    · intro w' hSw
      obtain ⟨y0, y1, y2, y3, y4, y5, y6, y7, y8⟩ := HC.out w' (hSw.mono (fun _ _ h => h.elim))
      go_simp
      first | done | with_reducible rfl
    try simp only [Act.put, List.setIfInBounds_toArray, List.set_cons_zero, List.set_cons_succ]
    refine anyZ_pure (i := 1) (v := ?_) (some 23) rfl rfl (by kernel_rfl) (by kernel_rfl) (by kernel_rfl) (by kernel_rfl) (fun _ _ _ h => h) (Or.inl ⟨by rfl, ?_⟩) (fun _ => hHeld) ?_
    rotate_left
    · intro w' _
      go_simp
      first | done | with_reducible rfl
    try simp only [Act.put, List.setIfInBounds_toArray, List.set_cons_zero, List.set_cons_succ]
    refine anyZ_pure (i := 2) (v := ?_) (some 24) rfl rfl (by kernel_rfl) (by kernel_rfl) (by kernel_rfl) (by kernel_rfl) (fun _ _ _ h => h) (Or.inl ⟨by rfl, ?_⟩) (fun _ => hHeld) ?_
    rotate_left
    · intro w' _
      go_simp
      first | done | with_reducible rfl
    try simp only [Act.put, List.setIfInBounds_toArray, List.set_cons_zero, List.set_cons_succ]
    refine anyZ_read (i := 3) (v := ?_) (some 25) [11, 12] rfl rfl (by kernel_rfl) (by kernel_rfl) (by kernel_rfl) (by kernel_rfl) (by kernel_rfl) (by kernel_rfl) (fun _ _ _ h => h) (Or.inl ⟨by rfl, ?_⟩) hHeld ?_
    rotate_left
    · intro w' hSw
      obtain ⟨y0, y1, y2, y3, y4, y5, y6, y7, y8⟩ := HC.out w' (hSw.mono (fun _ _ h => h.elim))
      go_simp
      first | done | with_reducible rfl
    try simp only [Act.put, List.setIfInBounds_toArray, List.set_cons_zero, List.set_cons_succ]
    refine anyZ_read (i := 4) (v := ?_) (some 26) [8, 11, 12] rfl rfl (by kernel_rfl) (by kernel_rfl) (by kernel_rfl) (by kernel_rfl) (by kernel_rfl) (by kernel_rfl) (fun _ _ _ h => h) (Or.inl ⟨by rfl, ?_⟩) hHeld ?_
    rotate_left
    · intro w' hSw
      obtain ⟨y0, y1, y2, y3, y4, y5, y6, y7, y8⟩ := HC.out w' (hSw.mono (fun _ _ h => h.elim))
      go_simp
      first | done | with_reducible rfl
    try simp only [Act.put, List.setIfInBounds_toArray, List.set_cons_zero, List.set_cons_succ]
    refine anyZ_pure (i := 5) (v := ?_) (some 27) rfl rfl (by kernel_rfl) (by kernel_rfl) (by kernel_rfl) (by kernel_rfl) (fun _ _ _ h => h) (Or.inl ⟨by rfl, ?_⟩) (fun _ => hHeld) ?_
    rotate_left
    · intro w' _
      go_simp
      first | done | with_reducible rfl
    try simp only [Act.put, List.setIfInBounds_toArray, List.set_cons_zero, List.set_cons_succ]
    refine anyZ_pure (i := 6) (v := ?_) (some 28) rfl rfl (by kernel_rfl) (by kernel_rfl) (by kernel_rfl) (by kernel_rfl) (fun _ _ _ h => h) (Or.inl ⟨by rfl, ?_⟩) (fun _ => hHeld) ?_
    rotate_left
    · intro w' _
      go_simp
      first | done | with_reducible rfl
    try simp only [Act.put, List.setIfInBounds_toArray, List.set_cons_zero, List.set_cons_succ]
    refine anyZ_read (i := 7) (v := ?_) (some 29) [8, 11, 12] rfl rfl (by kernel_rfl) (by kernel_rfl) (by kernel_rfl) (by kernel_rfl) (by kernel_rfl) (by kernel_rfl) (fun _ _ _ h => h) (Or.inl ⟨by rfl, ?_⟩) hHeld ?_
    rotate_left
    · intro w' hSw
      obtain ⟨y0, y1, y2, y3, y4, y5, y6, y7, y8⟩ := HC.out w' (hSw.mono (fun _ _ h => h.elim))
      go_simp
      first | done | with_reducible rfl
    try simp only [Act.put, List.setIfInBounds_toArray, List.set_cons_zero, List.set_cons_succ]
    refine anyZ_pure (i := 9) (v := ?_) (some 31) rfl rfl (by kernel_rfl) (by kernel_rfl) (by kernel_rfl) (by kernel_rfl) (fun _ _ _ h => h) (Or.inl ⟨by rfl, ?_⟩) (fun _ => hHeld) ?_
    rotate_left
    · intro w' _
      go_simp
      first | done | with_reducible rfl
    try simp only [Act.put, List.setIfInBounds_toArray, List.set_cons_zero, List.set_cons_succ]
    refine anyZ_pure (i := 10) (v := ?_) (some 32) rfl rfl (by kernel_rfl) (by kernel_rfl) (by kernel_rfl) (by kernel_rfl) (fun _ _ _ h => h) (Or.inl ⟨by rfl, ?_⟩) (fun _ => hHeld) ?_
    rotate_left
    · intro w' _
      go_simp
      first | done | with_reducible rfl
    try simp only [Act.put, List.setIfInBounds_toArray, List.set_cons_zero, List.set_cons_succ]
    refine anyZ_ready (rs := [8]) (by kernel_rfl) (by simp) ?_
    refine AllZ.step rfl (fun K hK => ?_) AllZ.nil
    go_simp
    refine (CT.out _ (FW.out.trans hHeld (fun _ _ h => h))).mono ?_; rintro e w8 ⟨rfl, rfl⟩
    try go_simp
    refine hK.out _ _ (hHeld) (fun hHeld => ?_)
    clear hK K
    try change anyZ _ _ _ _ _ _ _ _ (Act.put _ (some 30) _) _
    try simp only [Act.put, List.setIfInBounds_toArray, List.set_cons_zero, List.set_cons_succ]
    refine anyZ_ready (rs := [11]) (by kernel_rfl) (by simp) ?_
    refine AllZ.step rfl (fun K hK => ?_) AllZ.nil
    go_simp
    refine hK.out _ _ (hHeld.alloc _) (fun hHeld => ?_)
    clear hK K
    try change anyZ _ _ _ _ _ _ _ _ (Act.put _ (some 33) _) _
    try simp only [Act.put, List.setIfInBounds_toArray, List.set_cons_zero, List.set_cons_succ]
    refine anyZ_ready (rs := [12]) (by kernel_rfl) (by simp) ?_
    refine AllZ.last rfl (by kernel_rfl) (fun K hK => ?_) AllZ.nil
    go_simp
    have CI := ints_any (l := [c, tp, (rl : Int)]) (n := 3) (ic := 3) (v := v) (bs := bs) (gw := gw) (wbx := wbx) (ib := W2.heap.size) (w := (W2.alloc (.cells #[.int .i64 c, .int .i64 tp, .int .i64 (rl : Int)] 3)).drew) ⟨HWW.out.1.fr hHeld (fun h => h), HWW.out.2.fr hHeld (fun _ _ h => h)⟩ (HC.out _ (hHeld.mono (fun _ _ h => h.elim))).2.2.2.2.2.2.2.2 (Bk.new _ _ _).drew (by have := HI.out; intro a ha; simp at ha; rcases ha with rfl | rfl | rfl; exact this.1; exact this.2.2.1; exact this.2.2.2) (by simp) (by have := HB.out; omega) rfl
    refine CI.mono ?_; rintro e wa ⟨rfl, va, hwa⟩
    clear CI
    have HWA : Hid (WrTo W gw v wa va (bs ++ [c, tp, (rl : Int)].flatMap eI)) := Lib.hid ⟨hwa.1, (hHeld.mono (T := (fun k => k = gw ∨ v.ownBlock = some k)) (fun _ _ h => h.elim)).trans hwa.2.1 (fun _ _ h => h), hwa.2.2.imp id (fun ⟨k, e, hk⟩ => ⟨k, e, Nat.le_trans hHeld.size hk⟩)⟩
    clear hwa
    try go_simp
    refine hK.out _ _ ?_
    clear hK K
    try change anyZ _ _ _ _ _ _ _ _ (Act.put _ (some 34) _) _
    try simp only [Act.put, List.setIfInBounds_toArray, List.set_cons_zero, List.set_cons_succ]
    refine anyZ_done (by kernel_rfl) ?_ _
    obtain ⟨hd, ehd⟩ : ∃ hd, [c, tp, (rl : Int)].flatMap eI = hd := ⟨_, rfl⟩
    have HL : Hid (hd = (if r0 = s then [c, tp, (rl : Int)].flatMap eI else []) ∧ hd.length ≤ 30) := Lib.hid ⟨by rw [if_pos HQ.out, ehd], by rw [← ehd]; exact eIs_len _ (by have := HI.out; intro a ha; simp at ha; rcases ha with rfl | rfl | rfl; exact this.1; exact this.2.2.1; exact this.2.2.2)⟩
    rw [ehd] at HWA
    clear hHeld ehd
    obtain ⟨y0, y1, y2, y3, y4, y5, y6, y7, y8⟩ := HC.out wa HWA.out.2.1
    clear y0 y2 y3 y4 y6 y7 y8
    have CI : Hid (Calls Try.prog 23 #[.slice (some ⟨wa.heap.size, 0, none⟩) 1 1, .pointer (some ⟨wbx, 0, none⟩)] (wa.alloc (.cells #[.int .i64 s] 3)) fun e w' => e = .returned (.tuple #[]) ∧ ∃ v', WrTo wa gw va w' v' (bs ++ hd ++ eI s)) := Lib.hid (by
      have fa : Fr (fun _ => False) wa (wa.alloc (.cells #[.int .i64 s] 3)) := (Fr.refl _ _).alloc _
      refine (ints_any (l := [s]) (n := 1) (ic := 1) (v := va) (bs := bs ++ hd) (gw := gw) (wbx := wbx) (ib := wa.heap.size) ⟨HWA.out.1.1.fr fa (fun h => h), HWA.out.1.2.fr fa (fun _ _ h => h)⟩ (HC.out _ (HWA.out.2.1.trans fa (fun _ _ h => h.elim))).2.2.2.2.2.2.2.2 (Bk.new _ _ _) (by have := HI.out; intro a ha; simp at ha; rcases ha with rfl; exact this.2.1) (by simp) (by rw [List.length_append]; have := HB.out; have := HL.out.2; omega) rfl).mono ?_
      rintro e wb ⟨rfl, vb, hwb⟩
      refine ⟨rfl, vb, ?_⟩
      have h1 : WrTo wa gw va wb vb (bs ++ hd ++ [s].flatMap eI) := ⟨hwb.1, (fa.mono (fun _ _ h => h.elim)).trans hwb.2.1 (fun _ _ h => h), hwb.2.2.imp id (fun ⟨k, e, hk⟩ => ⟨k, e, Nat.le_trans fa.size hk⟩)⟩
      rwa [show [s].flatMap eI = eI s from by simp] at h1)
    go_wp2_with fail
    refine CI.out.mono ?_; rintro e wb ⟨rfl, vb, h1⟩
    have HWB := Lib.hid (HWA.out.trans h1)
    have HLS : Hid ((eI s).length ≤ 10) := Lib.hid (eI_len HI.out.2.1)
    clear h1 y1 y5 CI
    obtain ⟨y0, y1, y2, y3, y4, y5, y6, y7, y8⟩ := HC.out wb HWB.out.2.1
    have CB := Lib.hid (wBytes_any gw vb (bs ++ hd ++ eI s) A n cap xs wb HWB.out.1 (by simp only [List.length_append]; have := HB.out; have := HL.out.2; have := HLS.out; omega) (HRD.out wb ((FW.out.mono (fun _ _ h => h.elim)).trans HWB.out.2.1 (fun _ _ h => h))) HNN.out (by have := HN8.out; omega) (fun ad e h0 => by
      obtain ⟨_, h2, h3⟩ := HAP.out ad e h0
      rintro (e2 | e2)
      · exact h3 (.inl e2)
      · have h4 := HWB.out.2.2.old (x := ad.block) (by have := FW.out.size; omega) e2
        exact h3 (.inr h4)))
    clear y0 y1 y3 y4 y5 y7 y8
    go_wp2_with fail
    refine CB.out.mono ?_; rintro e wc ⟨rfl, vc, hwc⟩
    have HWC : Hid (WrTo W gw v wc vc (bs ++ stepE t (c, s))) := Lib.hid (by
      have := HWB.out.trans hwc
      rw [HST.out, ← HL.out.1]
      unfold eB
      rw [HNN.out]
      simpa [List.append_assoc] using this)
    clear hwc CB y2 y6
    go_wp2
    go_ret
    exact ⟨rfl, vc, HWC.out.1, ((FW.out.mono (fun _ _ h => h.elim)).trans HWC.out.2.1 (fun _ _ h => h)), HWC.out.2.2.imp id (fun ⟨k, e, hk⟩ => ⟨k, e, Nat.le_trans FW.out.size hk⟩)⟩
  · have d0 : (s == r0) = false := by simp [Ne.symm hq]
    have HQ := Lib.hid hq
    clear hq
    go_enter Try.func26, Try.ntmps26
    go_wp2_with fail
    clear hW heb
    refine wp_region_Z [] (fun w' => Fr (fun _ => False) W w') (by kernel_rfl) ((Fr.refl _ _).drew) (fun hHeld => ?_)
    refine anyZ_read (i := 0) (v := ?_) (some 7) [1, 2, 3, 7, 8] rfl rfl (by kernel_rfl) (by kernel_rfl) (by kernel_rfl) (by kernel_rfl) (by kernel_rfl) (by kernel_rfl) (fun _ _ _ h => h) (Or.inl ⟨by rfl, ?_⟩) hHeld ?_
    rotate_left
    · intro w' hSw
      obtain ⟨y0, y1, y2, y3, y4, y5, y6, y7, y8⟩ := HC.out w' (hSw.mono (fun _ _ h => h.elim)); have hlk := HLK.out w' (FW.out.trans hSw (fun _ _ h => h))
      go_simp
      first | done | with_reducible rfl
    try simp only [Act.put, List.setIfInBounds_toArray, List.set_cons_zero, List.set_cons_succ]
    refine anyZ_pure (i := 1) (v := ?_) (some 8) rfl rfl (by kernel_rfl) (by kernel_rfl) (by kernel_rfl) (by kernel_rfl) (fun _ _ _ h => h) (Or.inl ⟨by rfl, ?_⟩) (fun _ => hHeld) ?_
    rotate_left
    · intro w' _
      go_simp
      first | done | with_reducible rfl
    try simp only [Act.put, List.setIfInBounds_toArray, List.set_cons_zero, List.set_cons_succ]
    refine anyZ_pure (i := 2) (v := ?_) (some 9) rfl rfl (by kernel_rfl) (by kernel_rfl) (by kernel_rfl) (by kernel_rfl) (fun _ _ _ h => h) (Or.inl ⟨by rfl, ?_⟩) (fun _ => hHeld) ?_
    rotate_left
    · intro w' _
      go_simp
      first | done | with_reducible rfl
    try simp only [Act.put, List.setIfInBounds_toArray, List.set_cons_zero, List.set_cons_succ]
    refine anyZ_read (i := 3) (v := ?_) (some 10) [7, 8] rfl rfl (by kernel_rfl) (by kernel_rfl) (by kernel_rfl) (by kernel_rfl) (by kernel_rfl) (by kernel_rfl) (fun _ _ _ h => h) (Or.inl ⟨by rfl, ?_⟩) hHeld ?_
    rotate_left
    · intro w' hSw
      obtain ⟨y0, y1, y2, y3, y4, y5, y6, y7, y8⟩ := HC.out w' (hSw.mono (fun _ _ h => h.elim)); have hlk := HLK.out w' (FW.out.trans hSw (fun _ _ h => h))
      go_simp
      first | done | with_reducible rfl
    try simp only [Act.put, List.setIfInBounds_toArray, List.set_cons_zero, List.set_cons_succ]
    refine anyZ_pure (i := 4) (v := ?_) (some 11) rfl rfl (by kernel_rfl) (by kernel_rfl) (by kernel_rfl) (by kernel_rfl) (fun _ _ _ h => h) (Or.inl ⟨by rfl, ?_⟩) (fun _ => hHeld) ?_
    rotate_left
    · intro w' _
      go_simp
      first | done | with_reducible rfl
    try simp only [Act.put, List.setIfInBounds_toArray, List.set_cons_zero, List.set_cons_succ]
    refine anyZ_pure (i := 5) (v := ?_) (some 12) rfl rfl (by kernel_rfl) (by kernel_rfl) (by kernel_rfl) (by kernel_rfl) (fun _ _ _ h => h) (Or.inl ⟨by rfl, ?_⟩) (fun _ => hHeld) ?_
    rotate_left
    · intro w' _
      go_simp
      first | done | with_reducible rfl
    try simp only [Act.put, List.setIfInBounds_toArray, List.set_cons_zero, List.set_cons_succ]
    refine anyZ_read (i := 6) (v := ?_) (some 13) [7, 8] rfl rfl (by kernel_rfl) (by kernel_rfl) (by kernel_rfl) (by kernel_rfl) (by kernel_rfl) (by kernel_rfl) (fun _ _ _ h => h) (Or.inl ⟨by rfl, ?_⟩) hHeld ?_
    rotate_left
    · intro w' hSw
      obtain ⟨y0, y1, y2, y3, y4, y5, y6, y7, y8⟩ := HC.out w' (hSw.mono (fun _ _ h => h.elim)); have hlk := HLK.out w' (FW.out.trans hSw (fun _ _ h => h))
      go_simp
      first | done | with_reducible rfl
    try simp only [Act.put, List.setIfInBounds_toArray, List.set_cons_zero, List.set_cons_succ]
    refine anyZ_read (i := 7) (v := ?_) (some 14) [8] rfl rfl (by kernel_rfl) (by kernel_rfl) (by kernel_rfl) (by kernel_rfl) (by kernel_rfl) (by kernel_rfl) (fun _ _ _ h => h) (Or.inl ⟨by rfl, ?_⟩) hHeld ?_
    rotate_left
    · intro w' hSw
      obtain ⟨y0, y1, y2, y3, y4, y5, y6, y7, y8⟩ := HC.out w' (hSw.mono (fun _ _ h => h.elim)); have hlk := HLK.out w' (FW.out.trans hSw (fun _ _ h => h))
      go_simp
      first | done | with_reducible rfl
    try simp only [Act.put, List.setIfInBounds_toArray, List.set_cons_zero, List.set_cons_succ]
    refine anyZ_pure (i := 8) (v := ?_) (some 6) rfl rfl (by kernel_rfl) (by kernel_rfl) (by kernel_rfl) (by kernel_rfl) (fun _ _ _ h => h) (Or.inl ⟨by rfl, ?_⟩) (fun _ => hHeld) ?_
    rotate_left
    · intro w' _
      go_simp
      first | done | with_reducible rfl
    try simp only [Act.put, List.setIfInBounds_toArray, List.set_cons_zero, List.set_cons_succ]
    refine anyZ_done (by kernel_rfl) ?_ _
    obtain ⟨W1, hW1⟩ : ∃ W1, W.drew = W1 := ⟨_, rfl⟩
    rw [hW1] at hHeld ⊢
    have FW1 := Lib.hid hHeld
    clear hHeld hW1
    go_wp2_with fail
    refine wp_region_Z [] (fun w' => Fr (fun _ => False) W w') (by kernel_rfl) (FW1.out.drew) (fun hHeld => ?_)
    refine anyZ_pure (i := 0) (v := ?_) (some 15) rfl rfl (by kernel_rfl) (by kernel_rfl) (by kernel_rfl) (by kernel_rfl) (fun _ _ _ h => h) (Or.inl ⟨by rfl, ?_⟩) (fun _ => hHeld) ?_
    rotate_left
    · intro w' _
      go_simp
      first | done | with_reducible rfl
    try simp only [Act.put, List.setIfInBounds_toArray, List.set_cons_zero, List.set_cons_succ]
    refine anyZ_pure (i := 1) (v := ?_) (some 16) rfl rfl (by kernel_rfl) (by kernel_rfl) (by kernel_rfl) (by kernel_rfl) (fun _ _ _ h => h) (Or.inl ⟨by rfl, ?_⟩) (fun _ => hHeld) ?_
    rotate_left
    · intro w' _
      go_simp
      first | done | with_reducible rfl
    try simp only [Act.put, List.setIfInBounds_toArray, List.set_cons_zero, List.set_cons_succ]
    refine anyZ_read (i := 2) (v := ?_) (some 17) [6] rfl rfl (by kernel_rfl) (by kernel_rfl) (by kernel_rfl) (by kernel_rfl) (by kernel_rfl) (by kernel_rfl) (fun _ _ _ h => h) (Or.inl ⟨by rfl, ?_⟩) hHeld ?_
    rotate_left
    · intro w' hSw
      obtain ⟨y0, y1, y2, y3, y4, y5, y6, y7, y8⟩ := HC.out w' (hSw.mono (fun _ _ h => h.elim))
      go_simp
      first | done | with_reducible rfl
    try simp only [Act.put, List.setIfInBounds_toArray, List.set_cons_zero, List.set_cons_succ]
    refine anyZ_pure (i := 3) (v := ?_) (some 18) rfl rfl (by kernel_rfl) (by kernel_rfl) (by kernel_rfl) (by kernel_rfl) (fun _ _ _ h => h) (Or.inl ⟨by rfl, ?_⟩) (fun _ => hHeld) ?_
    rotate_left
    · intro w' _
      go_simp
      first | done | with_reducible rfl
    try simp only [Act.put, List.setIfInBounds_toArray, List.set_cons_zero, List.set_cons_succ]
    refine anyZ_pure (i := 4) (v := ?_) (some 19) rfl rfl (by kernel_rfl) (by kernel_rfl) (by kernel_rfl) (by kernel_rfl) (fun _ _ _ h => h) (Or.inl ⟨by rfl, ?_⟩) (fun _ => hHeld) ?_
    rotate_left
    · intro w' _
      go_simp
      first | done | with_reducible rfl
    try simp only [Act.put, List.setIfInBounds_toArray, List.set_cons_zero, List.set_cons_succ]
    refine anyZ_read (i := 5) (v := ?_) (some 20) [6] rfl rfl (by kernel_rfl) (by kernel_rfl) (by kernel_rfl) (by kernel_rfl) (by kernel_rfl) (by kernel_rfl) (fun _ _ _ h => h) (Or.inl ⟨by rfl, ?_⟩) hHeld ?_
    rotate_left
    · intro w' hSw
      obtain ⟨y0, y1, y2, y3, y4, y5, y6, y7, y8⟩ := HC.out w' (hSw.mono (fun _ _ h => h.elim))
      go_simp
      first | done | with_reducible rfl
    try simp only [Act.put, List.setIfInBounds_toArray, List.set_cons_zero, List.set_cons_succ]
    refine anyZ_pure (i := 6) (v := ?_) (some 21) rfl rfl (by kernel_rfl) (by kernel_rfl) (by kernel_rfl) (by kernel_rfl) (fun _ _ _ h => h) (Or.inl ⟨by rfl, ?_⟩) (fun _ => hHeld) ?_
    rotate_left
    · intro w' _
      go_simp
      first | done | with_reducible rfl
    try simp only [Act.put, List.setIfInBounds_toArray, List.set_cons_zero, List.set_cons_succ]
    refine anyZ_done (by kernel_rfl) ?_ _
    obtain ⟨W2, hW2⟩ : ∃ W2, W1.drew = W2 := ⟨_, rfl⟩
    rw [hW2] at hHeld ⊢
    have FW2 := Lib.hid hHeld
    clear hHeld hW2

    have HWA : Hid (WrTo W gw v W2 v (bs ++ [])) := Lib.hid ⟨by rw [List.append_nil]; exact ⟨HWW.out.1.fr FW2.out (fun h => h), HWW.out.2.fr FW2.out (fun _ _ h => h)⟩, FW2.out.mono (fun _ _ h => h.elim), .inl rfl⟩
    have HL : Hid ([] = (if r0 = s then [c, tp, (rl : Int)].flatMap eI else []) ∧ ([] : List UInt8).length ≤ 30) := Lib.hid ⟨by rw [if_neg HQ.out], by simp⟩
    obtain ⟨hd, ehd⟩ : ∃ hd, ([] : List UInt8) = hd := ⟨_, rfl⟩
    obtain ⟨wa, hwa⟩ : ∃ wa, W2 = wa := ⟨_, rfl⟩
    obtain ⟨va, hva⟩ : ∃ va, v = va := ⟨_, rfl⟩
    replace HWA : Hid (WrTo W gw v wa va (bs ++ hd)) := Lib.hid (by rw [← hwa, ← hva, ← ehd]; exact HWA.out)
    replace HL : Hid (hd = (if r0 = s then [c, tp, (rl : Int)].flatMap eI else []) ∧ hd.length ≤ 30) := Lib.hid (by rw [← ehd]; exact HL.out)
    rw [hwa]
    clear hwa hva ehd
    obtain ⟨y0, y1, y2, y3, y4, y5, y6, y7, y8⟩ := HC.out wa HWA.out.2.1
    clear y0 y2 y3 y4 y6 y7 y8
    have CI : Hid (Calls Try.prog 23 #[.slice (some ⟨wa.heap.size, 0, none⟩) 1 1, .pointer (some ⟨wbx, 0, none⟩)] (wa.alloc (.cells #[.int .i64 s] 3)) fun e w' => e = .returned (.tuple #[]) ∧ ∃ v', WrTo wa gw va w' v' (bs ++ hd ++ eI s)) := Lib.hid (by
      have fa : Fr (fun _ => False) wa (wa.alloc (.cells #[.int .i64 s] 3)) := (Fr.refl _ _).alloc _
      refine (ints_any (l := [s]) (n := 1) (ic := 1) (v := va) (bs := bs ++ hd) (gw := gw) (wbx := wbx) (ib := wa.heap.size) ⟨HWA.out.1.1.fr fa (fun h => h), HWA.out.1.2.fr fa (fun _ _ h => h)⟩ (HC.out _ (HWA.out.2.1.trans fa (fun _ _ h => h.elim))).2.2.2.2.2.2.2.2 (Bk.new _ _ _) (by have := HI.out; intro a ha; simp at ha; rcases ha with rfl; exact this.2.1) (by simp) (by rw [List.length_append]; have := HB.out; have := HL.out.2; omega) rfl).mono ?_
      rintro e wb ⟨rfl, vb, hwb⟩
      refine ⟨rfl, vb, ?_⟩
      have h1 : WrTo wa gw va wb vb (bs ++ hd ++ [s].flatMap eI) := ⟨hwb.1, (fa.mono (fun _ _ h => h.elim)).trans hwb.2.1 (fun _ _ h => h), hwb.2.2.imp id (fun ⟨k, e, hk⟩ => ⟨k, e, Nat.le_trans fa.size hk⟩)⟩
      rwa [show [s].flatMap eI = eI s from by simp] at h1)
    go_wp2_with fail
    refine CI.out.mono ?_; rintro e wb ⟨rfl, vb, h1⟩
    have HWB := Lib.hid (HWA.out.trans h1)
    have HLS : Hid ((eI s).length ≤ 10) := Lib.hid (eI_len HI.out.2.1)
    clear h1 y1 y5 CI
    obtain ⟨y0, y1, y2, y3, y4, y5, y6, y7, y8⟩ := HC.out wb HWB.out.2.1
    have CB := Lib.hid (wBytes_any gw vb (bs ++ hd ++ eI s) A n cap xs wb HWB.out.1 (by simp only [List.length_append]; have := HB.out; have := HL.out.2; have := HLS.out; omega) (HRD.out wb ((FW.out.mono (fun _ _ h => h.elim)).trans HWB.out.2.1 (fun _ _ h => h))) HNN.out (by have := HN8.out; omega) (fun ad e h0 => by
      obtain ⟨_, h2, h3⟩ := HAP.out ad e h0
      rintro (e2 | e2)
      · exact h3 (.inl e2)
      · have h4 := HWB.out.2.2.old (x := ad.block) (by have := FW.out.size; omega) e2
        exact h3 (.inr h4)))
    clear y0 y1 y3 y4 y5 y7 y8
    go_wp2_with fail
    refine CB.out.mono ?_; rintro e wc ⟨rfl, vc, hwc⟩
    have HWC : Hid (WrTo W gw v wc vc (bs ++ stepE t (c, s))) := Lib.hid (by
      have := HWB.out.trans hwc
      rw [HST.out, ← HL.out.1]
      unfold eB
      rw [HNN.out]
      simpa [List.append_assoc] using this)
    clear hwc CB y2 y6
    go_wp2
    go_ret
    exact ⟨rfl, vc, HWC.out.1, ((FW.out.mono (fun _ _ h => h.elim)).trans HWC.out.2.1 (fun _ _ h => h)), HWC.out.2.2.imp id (fun ⟨k, e, hk⟩ => ⟨k, e, Nat.le_trans FW.out.size hk⟩)⟩
end Go.Proofs.Ytdfkoehcmgcoiaa
