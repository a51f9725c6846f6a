/- The reference's clock: Set, Due. -/
import Derived.Test.YtholaofgdahcbaaWq
namespace Go.Proofs.Ytholaofgdahcbaa
open Go.RowKit

/-- Is an alarm ahead of another one? -/
def befB (x c : Int × Int) : Bool := decide (c.2 < x.2) || (c.2 == x.2 && decide (c.1 < x.1))
def insL (l : List (Int × Int)) (x : Int × Int) : List (Int × Int) := l.takeWhile (befB x) ++ x :: l.dropWhile (befB x)
def setL (now : Int) (l : List (Int × Int)) (x : Int × Int) : List (Int × Int) := if setB now x.2 then insL (l.filter (fun c => c.1 != x.1)) x else l.filter (fun c => c.1 != x.1)
theorem ins_at {l : List (Int × Int)} {x : Int × Int} {i : Nat} (hi : i ≤ l.length) (h1 : ∀ j, j < i → befB x (l.getD j default) = true) (h2 : i = l.length ∨ befB x (l.getD i default) = false) : l.take i ++ x :: l.drop i = insL l x := by
  unfold insL
  induction l generalizing i with
  | nil => simp at hi; subst hi; rfl
  | cons c r ih =>
    cases i with
    | zero =>
      have : befB x c = false := by
        rcases h2 with h | h
        · simp at h
        · simpa using h
      simp [List.takeWhile_cons, List.dropWhile_cons, this]
    | succ i =>
      have hc : befB x c = true := by simpa using h1 0 (by omega)
      have := ih (i := i) (by simpa using hi) (fun j hj => by simpa [List.getD] using h1 (j + 1) (by omega)) (by
        rcases h2 with h | h
        · left; simpa using h
        · right; simpa [List.getD] using h)
      simp [List.takeWhile_cons, List.dropWhile_cons, hc, this]
theorem apc_ins (a b : List (Int × Int)) (x : Int × Int) : apc (a ++ x :: b) = apc a ++ acell x ++ apc b := by simp [apc]

set_option maxRecDepth 100000 in
set_option maxHeartbeats 4000000 in
theorem rset_any (g : Nat) (now id at_ : Int) (LV : Value) (l : List (Int × Int)) (w : World) (h : RC w g now LV l) (hq : l.length ≤ 1000000) (hd : (l.map Prod.fst).Nodup) :
    Calls Try.prog 10 #[.pointer (some ⟨g, 0, none⟩), .int .i64 id, .int .i64 at_] w fun e w' => e = .returned (.bool (setB now at_)) ∧ ∃ LV', RC w' g now LV' (setL now l (id, at_)) ∧ Fr (fun k => k = g) w w' ∧ (LV' = LV ∨ ∀ x, LV'.ownBlock = some x → w.heap.size ≤ x) := by
  have CD := Lib.hid (rdrop_any g now id LV l w h hq hd)
  have hlq : (l.filter (fun c => c.1 != id)).length ≤ 1000000 := Nat.le_trans (List.length_filter_le _ _) hq
  have HSL := Lib.hid (show setL now l (id, at_) = if setB now at_ then insL (l.filter (fun c => c.1 != id)) (id, at_) else l.filter (fun c => c.1 != id) from rfl)
  obtain ⟨l1, hl1⟩ : ∃ l1, l.filter (fun c => c.1 != id) = l1 := ⟨_, rfl⟩
  rw [hl1] at CD HSL hlq
  clear h hq hd hl1
  by_cases hs : setB now at_ = true
  · have hb : now < at_ ∧ at_ ≤ 1099511627776 := by simpa [setB] using hs
    obtain ⟨b1, b2⟩ := hb
    have b1' : ¬ at_ ≤ now := by omega
    have b2' : decide (at_ > 1099511627776) = false := decide_eq_false (by omega)
    rw [HSL.out, hs, if_pos rfl]
    clear hs HSL
    go_enter Try.func10, Try.ntmps10
    go_wp2_with fail
    refine CD.out.mono ?_; rintro e w1 ⟨rfl, LV1, hrc, hf1, hnew⟩
    have HF1 := Lib.hid hf1
    have HRC := Lib.hid hrc
    have c0 : w1.cell? ⟨g, 0, none⟩ = some (.int .i64 now) := hrc.blk.cell 0
    have HNR := Lib.hid (NewA.fresh w1)
    have HFA := Lib.hid (show Fr (fun _ => False) w1 (w1.alloc (.cells #[] 51)) from (Fr.refl _ _).alloc _)
    rcases hrc.row.2 with ⟨hv, h0⟩ | ⟨b, off, c, cur, hv, hbk, hlc, hcm, _⟩
    · subst hv
      obtain rfl := List.eq_nil_of_length_eq_zero h0
      have c1 : w1.cell? ⟨g, 1, none⟩ = some (.slice none 0 0) := hrc.blk.cell 1
      have HCA := Lib.hid (fun w' (hf : Fr (fun _ => False) w1 w') => show w'.cell? ⟨g, 1, none⟩ = some (.slice none 0 0) from (hrc.fr0 hf).blk.cell 1)
      have k0 := HCA.out _ HFA.out
      have HINS := Lib.hid (show (([] : List (Int × Int)).take 0) ++ (id, at_) :: (([] : List (Int × Int)).drop 0) = insL [] (id, at_) from rfl)
      clear hrc hf1 hnew h0 CD
      go_wp2_with fail
      refine wp_loop_rounds 1 ?_
      rw [rounds_succ]
      go_wp2_with (first
        | (at_builtin; (refine wpList_appendR Try.teA rfl (.tmp 67) (.tmp 73) rfl _ 0 [] rfl HNR.out.row (.slice none 0 0) 0 (apc (([] : List (Int × Int)).take 0)) rfl Sl.none (apc_one _) (by unfold maxLen; omega) (by omega) ?_; intro A8 c8 w8 hr8 hf8 hm8; have N8 := Lib.hid (HNR.out.step hr8 hf8 hm8); simp only [Nat.zero_add, List.nil_append] at N8 ⊢; clear hr8 hf8 hm8))
        | (at_builtin; (refine wpList_appendR Try.teA rfl (.tmp 74) (.tmp 78) rfl _ 0 (apc (([] : List (Int × Int)).take 0)) rfl (N8.out.row.fr0 ((Fr.refl _ w8).alloc _)) _ 1 (acell (id, at_)) rfl (Sl.at rfl rfl (fun j u hu => by rw [Nat.zero_add, (Bk.new w8 _ _).cell]; simpa [acell] using hu)) (fun u hu => apc_one [(id, at_)] u (by simpa [apc] using hu)) (by unfold maxLen; omega) (by omega) ?_; intro A9 c9 w9 hr9 hf9 hm9; have N9 := Lib.hid ((N8.out.fr0 ((Fr.refl _ w8).alloc _)).step hr9 hf9 hm9); have k1 := HCA.out w9 N9.out.fr; have z1 := (HRC.out.blk.fr N9.out.fr (fun h => h)).frozen 1; clear hr9 hf9 hm9))
        | (at_builtin; (refine wpList_appendR Try.teA rfl (.tmp 81) (.tmp 87) rfl _ (0 + 1) (apc (([] : List (Int × Int)).take 0) ++ acell (id, at_)) rfl N9.out.row _ 0 (apc (([] : List (Int × Int)).drop 0)) rfl Sl.none (apc_one _) (by unfold maxLen; omega) (by omega) ?_; intro A10 c10 w10 hr10 hf10 hm10; have N10 := Lib.hid (N9.out.step hr10 hf10 hm10); have k2 := HCA.out w10 N10.out.fr; have z2 := (HRC.out.blk.fr N10.out.fr (fun h => h)).frozen 1; clear k1 z1 hr10 hf10 hm10)))
      go_ret
      have n10 := N10.out
      rw [← apc_ins] at n10
      have hr := HRC.out.relist (l' := (([] : List (Int × Int)).take 0) ++ (id, at_) :: (([] : List (Int × Int)).drop 0)) (by simp) n10
      rw [HINS.out] at hr
      exact ⟨rfl, _, hr.1, HF1.out.trans hr.2.1 (fun _ _ e => e), .inr (fun x hx => Nat.le_trans HF1.out.size (n10.new x hx))⟩
    · subst hv
      obtain ⟨n, hn⟩ : ∃ n, l1.length = n := ⟨_, rfl⟩
      have HCA := Lib.hid (fun w' (hf : Fr (fun _ => False) w1 w') => show w'.cell? ⟨g, 1, none⟩ = some (.slice (some ⟨b, off, none⟩) n c) from by rw [← hn]; exact (hrc.fr0 hf).blk.cell 1)
      have HN := Lib.hid hn
      have c1 := HCA.out w1 (Fr.refl _ _)
      unfold maxLen at hcm
      rw [hn] at hlc hlq
      have hcm' : (c : Int) ≤ 9223372036854775807 := by omega
      have hnc : (n : Int) ≤ (c : Int) := by omega
      clear hbk hcm hn hf1 hnew CD hrc
      go_wp2_with fail
      go_loopw [7] (fun u wr => ∃ i : Nat, u = .int .i64 i ∧ i ≤ n ∧ wr = w1 ∧ Hid (∀ j, j < i → befB (id, at_) (l1.getD j default) = true)) (fun u _ => n - (intOf u).toNat)
      case atStart => exact ⟨0, rfl, Nat.zero_le _, rfl, Lib.hid (fun j hj => by omega)⟩
      case round =>
        obtain ⟨i, rfl, hi, rfl, HBF⟩ := hrel
        have hi0 : (0 : Int) ≤ (i : Int) := by omega
        have hiw : IntKind.i64.wrap ((i : Int) + 1) = (i : Int) + 1 := IntWalk.i64_in _ (by omega)
        by_cases hstop : i = n ∨ befB (id, at_) (l1.getD i default) = false
        · have HINS := Lib.hid (show l1.take i ++ (id, at_) :: l1.drop i = insL l1 (id, at_) from ins_at (by have := HN.out; omega) HBF.out (hstop.imp (fun e => by rw [HN.out]; exact e) (fun e => e)))
          have HS1 := Lib.hid (fun W (hf : Fr (fun _ => False) wr W) => aTake (l := l1) (HRC.out.row.fr0 hf) (k := i) (by have := HN.out; omega))
          have hkc : (i : Int) ≤ (c : Int) := by omega
          have hkn : (i : Int) ≤ (n : Int) := by omega
          have k0 := HCA.out _ HFA.out
          have HTEST := Lib.hid (show i < n → ∃ x y, wr.cell? ⟨b, off + i * 2, none⟩ = some (.int .i64 x) ∧ wr.cell? ⟨b, off + i * 2 + 1, none⟩ = some (.int .i64 y) ∧ (decide (y < at_) || (y == at_ && decide (x < id))) = false from fun hlt => by
            have := HRC.out.cell (i := i) (by rw [HN.out]; exact hlt)
            refine ⟨_, _, this.1, this.2, ?_⟩
            rcases hstop with e | e
            · omega
            · exact e)
          clear hstop HBF
          by_cases hlt : i < n
          · have hltz : (i : Int) < (n : Int) := by omega
            obtain ⟨x, y, m0, m1, ht⟩ := HTEST.out hlt
            have hck : ¬ c = i := by omega
            have HS2 := Lib.hid (fun W (hf : Fr (fun _ => False) wr W) => show Sl W 2 (.slice (some ⟨b, off + i * 2, none⟩) (n - i) (c - i)) (n - i) (apc (l1.drop i)) from by
              have := aDrop (l := l1) (HRC.out.row.fr0 hf) (k := i) (c' := c - i) (by have := HN.out; omega)
              rw [HN.out] at this; exact this)
            clear HTEST
            cases d1 : decide (y < at_) with
            | true => rw [d1] at ht; simp at ht
            | false =>
              rw [d1] at ht
              cases d2 : (y == at_) with
              | false =>
                clear ht
                go_wp2_with (first
                  | (at_builtin; (refine wpList_appendR Try.teA rfl (.tmp 67) (.tmp 73) rfl _ 0 [] rfl HNR.out.row (.slice (some ⟨b, off, none⟩) i c) i (apc (l1.take i)) rfl (HS1.out _ HFA.out) (apc_one _) (by unfold maxLen; omega) (by omega) ?_; intro A8 c8 w8 hr8 hf8 hm8; have N8 := Lib.hid (HNR.out.step hr8 hf8 hm8); simp only [Nat.zero_add, List.nil_append] at N8 ⊢; clear hr8 hf8 hm8))
                  | (at_builtin; (refine wpList_appendR Try.teA rfl (.tmp 74) (.tmp 78) rfl _ i (apc (l1.take i)) rfl (N8.out.row.fr0 ((Fr.refl _ w8).alloc _)) _ 1 (acell (id, at_)) rfl (Sl.at rfl rfl (fun j u hu => by rw [Nat.zero_add, (Bk.new w8 _ _).cell]; simpa [acell] using hu)) (fun u hu => apc_one [(id, at_)] u (by simpa [apc] using hu)) (by unfold maxLen; omega) (by omega) ?_; intro A9 c9 w9 hr9 hf9 hm9; have N9 := Lib.hid ((N8.out.fr0 ((Fr.refl _ w8).alloc _)).step hr9 hf9 hm9); have k1 := HCA.out w9 N9.out.fr; have z1 := (HRC.out.blk.fr N9.out.fr (fun h => h)).frozen 1; clear hr9 hf9 hm9))
                  | (at_builtin; (refine wpList_appendR Try.teA rfl (.tmp 81) (.tmp 87) rfl _ (i + 1) (apc (l1.take i) ++ acell (id, at_)) rfl N9.out.row _ (n - i) (apc (l1.drop i)) rfl (HS2.out _ N9.out.fr) (apc_one _) (by unfold maxLen; omega) (by omega) ?_; intro A10 c10 w10 hr10 hf10 hm10; have N10 := Lib.hid (N9.out.step hr10 hf10 hm10); have k2 := HCA.out w10 N10.out.fr; have z2 := (HRC.out.blk.fr N10.out.fr (fun h => h)).frozen 1; clear k1 z1 hr10 hf10 hm10)))
                go_ret
                have n10 := N10.out
                rw [← apc_ins] at n10
                have hr := HRC.out.relist (l' := (l1.take i) ++ (id, at_) :: (l1.drop i)) (by have := HN.out; simp; omega) n10
                rw [HINS.out] at hr
                exact ⟨rfl, _, hr.1, HF1.out.trans hr.2.1 (fun _ _ e => e), .inr (fun x hx => Nat.le_trans HF1.out.size (n10.new x hx))⟩
              | true =>
                rw [d2] at ht
                have d3 : decide (x < id) = false := by simpa using ht
                clear ht
                go_wp2_with (first
                  | (at_builtin; (refine wpList_appendR Try.teA rfl (.tmp 67) (.tmp 73) rfl _ 0 [] rfl HNR.out.row (.slice (some ⟨b, off, none⟩) i c) i (apc (l1.take i)) rfl (HS1.out _ HFA.out) (apc_one _) (by unfold maxLen; omega) (by omega) ?_; intro A8 c8 w8 hr8 hf8 hm8; have N8 := Lib.hid (HNR.out.step hr8 hf8 hm8); simp only [Nat.zero_add, List.nil_append] at N8 ⊢; clear hr8 hf8 hm8))
                  | (at_builtin; (refine wpList_appendR Try.teA rfl (.tmp 74) (.tmp 78) rfl _ i (apc (l1.take i)) rfl (N8.out.row.fr0 ((Fr.refl _ w8).alloc _)) _ 1 (acell (id, at_)) rfl (Sl.at rfl rfl (fun j u hu => by rw [Nat.zero_add, (Bk.new w8 _ _).cell]; simpa [acell] using hu)) (fun u hu => apc_one [(id, at_)] u (by simpa [apc] using hu)) (by unfold maxLen; omega) (by omega) ?_; intro A9 c9 w9 hr9 hf9 hm9; have N9 := Lib.hid ((N8.out.fr0 ((Fr.refl _ w8).alloc _)).step hr9 hf9 hm9); have k1 := HCA.out w9 N9.out.fr; have z1 := (HRC.out.blk.fr N9.out.fr (fun h => h)).frozen 1; clear hr9 hf9 hm9))
                  | (at_builtin; (refine wpList_appendR Try.teA rfl (.tmp 81) (.tmp 87) rfl _ (i + 1) (apc (l1.take i) ++ acell (id, at_)) rfl N9.out.row _ (n - i) (apc (l1.drop i)) rfl (HS2.out _ N9.out.fr) (apc_one _) (by unfold maxLen; omega) (by omega) ?_; intro A10 c10 w10 hr10 hf10 hm10; have N10 := Lib.hid (N9.out.step hr10 hf10 hm10); have k2 := HCA.out w10 N10.out.fr; have z2 := (HRC.out.blk.fr N10.out.fr (fun h => h)).frozen 1; clear k1 z1 hr10 hf10 hm10)))
                go_ret
                have n10 := N10.out
                rw [← apc_ins] at n10
                have hr := HRC.out.relist (l' := (l1.take i) ++ (id, at_) :: (l1.drop i)) (by have := HN.out; simp; omega) n10
                rw [HINS.out] at hr
                exact ⟨rfl, _, hr.1, HF1.out.trans hr.2.1 (fun _ _ e => e), .inr (fun x hx => Nat.le_trans HF1.out.size (n10.new x hx))⟩
          · have hltz : ¬ (i : Int) < (n : Int) := by omega
            have hie : i = n := by omega
            clear HTEST
            by_cases hck : c = i
            · subst hck
              have HS2 := Lib.hid (fun W => show Sl W 2 (.slice (some ⟨b, off, none⟩) 0 0) 0 (apc (l1.drop c)) from by rw [List.drop_eq_nil_of_le (by have := HN.out; omega)]; exact Sl.none)
              clear hie
              go_wp2_with (first
                | (at_builtin; (refine wpList_appendR Try.teA rfl (.tmp 67) (.tmp 73) rfl _ 0 [] rfl HNR.out.row (.slice (some ⟨b, off, none⟩) c c) c (apc (l1.take c)) rfl (HS1.out _ HFA.out) (apc_one _) (by unfold maxLen; omega) (by omega) ?_; intro A8 c8 w8 hr8 hf8 hm8; have N8 := Lib.hid (HNR.out.step hr8 hf8 hm8); simp only [Nat.zero_add, List.nil_append] at N8 ⊢; clear hr8 hf8 hm8))
                | (at_builtin; (refine wpList_appendR Try.teA rfl (.tmp 74) (.tmp 78) rfl _ c (apc (l1.take c)) rfl (N8.out.row.fr0 ((Fr.refl _ w8).alloc _)) _ 1 (acell (id, at_)) rfl (Sl.at rfl rfl (fun j u hu => by rw [Nat.zero_add, (Bk.new w8 _ _).cell]; simpa [acell] using hu)) (fun u hu => apc_one [(id, at_)] u (by simpa [apc] using hu)) (by unfold maxLen; omega) (by omega) ?_; intro A9 c9 w9 hr9 hf9 hm9; have N9 := Lib.hid ((N8.out.fr0 ((Fr.refl _ w8).alloc _)).step hr9 hf9 hm9); have k1 := HCA.out w9 N9.out.fr; have z1 := (HRC.out.blk.fr N9.out.fr (fun h => h)).frozen 1; clear hr9 hf9 hm9))
                | (at_builtin; (refine wpList_appendR Try.teA rfl (.tmp 81) (.tmp 87) rfl _ (c + 1) (apc (l1.take c) ++ acell (id, at_)) rfl N9.out.row _ 0 (apc (l1.drop c)) rfl (HS2.out _) (apc_one _) (by unfold maxLen; omega) (by omega) ?_; intro A10 c10 w10 hr10 hf10 hm10; have N10 := Lib.hid (N9.out.step hr10 hf10 hm10); have k2 := HCA.out w10 N10.out.fr; have z2 := (HRC.out.blk.fr N10.out.fr (fun h => h)).frozen 1; clear k1 z1 hr10 hf10 hm10)))
              go_ret
              have n10 := N10.out
              rw [← apc_ins] at n10
              have hr := HRC.out.relist (l' := (l1.take c) ++ (id, at_) :: (l1.drop c)) (by have := HN.out; simp; omega) n10
              rw [HINS.out] at hr
              exact ⟨rfl, _, hr.1, HF1.out.trans hr.2.1 (fun _ _ e => e), .inr (fun x hx => Nat.le_trans HF1.out.size (n10.new x hx))⟩
            · have HS2 := Lib.hid (fun W (hf : Fr (fun _ => False) wr W) => show Sl W 2 (.slice (some ⟨b, off + i * 2, none⟩) (n - i) (c - i)) (n - i) (apc (l1.drop i)) from by
                have := aDrop (l := l1) (HRC.out.row.fr0 hf) (k := i) (c' := c - i) (by have := HN.out; omega)
                rw [HN.out] at this; exact this)
              clear hie
              go_wp2_with (first
                | (at_builtin; (refine wpList_appendR Try.teA rfl (.tmp 67) (.tmp 73) rfl _ 0 [] rfl HNR.out.row (.slice (some ⟨b, off, none⟩) i c) i (apc (l1.take i)) rfl (HS1.out _ HFA.out) (apc_one _) (by unfold maxLen; omega) (by omega) ?_; intro A8 c8 w8 hr8 hf8 hm8; have N8 := Lib.hid (HNR.out.step hr8 hf8 hm8); simp only [Nat.zero_add, List.nil_append] at N8 ⊢; clear hr8 hf8 hm8))
                | (at_builtin; (refine wpList_appendR Try.teA rfl (.tmp 74) (.tmp 78) rfl _ i (apc (l1.take i)) rfl (N8.out.row.fr0 ((Fr.refl _ w8).alloc _)) _ 1 (acell (id, at_)) rfl (Sl.at rfl rfl (fun j u hu => by rw [Nat.zero_add, (Bk.new w8 _ _).cell]; simpa [acell] using hu)) (fun u hu => apc_one [(id, at_)] u (by simpa [apc] using hu)) (by unfold maxLen; omega) (by omega) ?_; intro A9 c9 w9 hr9 hf9 hm9; have N9 := Lib.hid ((N8.out.fr0 ((Fr.refl _ w8).alloc _)).step hr9 hf9 hm9); have k1 := HCA.out w9 N9.out.fr; have z1 := (HRC.out.blk.fr N9.out.fr (fun h => h)).frozen 1; clear hr9 hf9 hm9))
                | (at_builtin; (refine wpList_appendR Try.teA rfl (.tmp 81) (.tmp 87) rfl _ (i + 1) (apc (l1.take i) ++ acell (id, at_)) rfl N9.out.row _ (n - i) (apc (l1.drop i)) rfl (HS2.out _ N9.out.fr) (apc_one _) (by unfold maxLen; omega) (by omega) ?_; intro A10 c10 w10 hr10 hf10 hm10; have N10 := Lib.hid (N9.out.step hr10 hf10 hm10); have k2 := HCA.out w10 N10.out.fr; have z2 := (HRC.out.blk.fr N10.out.fr (fun h => h)).frozen 1; clear k1 z1 hr10 hf10 hm10)))
              go_ret
              have n10 := N10.out
              rw [← apc_ins] at n10
              have hr := HRC.out.relist (l' := (l1.take i) ++ (id, at_) :: (l1.drop i)) (by have := HN.out; simp; omega) n10
              rw [HINS.out] at hr
              exact ⟨rfl, _, hr.1, HF1.out.trans hr.2.1 (fun _ _ e => e), .inr (fun x hx => Nat.le_trans HF1.out.size (n10.new x hx))⟩
        · have hgo : i < n ∧ befB (id, at_) (l1.getD i default) = true := ⟨by omega, by
            cases e : befB (id, at_) (l1.getD i default)
            · exact absurd (.inr e) hstop
            · rfl⟩
          obtain ⟨hlt, hbt⟩ := hgo
          have hltz : (i : Int) < (n : Int) := by omega
          have m := HRC.out.cell (i := i) (by rw [HN.out]; exact hlt)
          have HB2 := Lib.hid (show ∀ j, j < i + 1 → befB (id, at_) (l1.getD j default) = true from fun j hj => by
            by_cases e : j = i
            · subst e; exact hbt
            · exact HBF.out j (by omega))
          have ht : (decide ((l1.getD i default).2 < at_) || ((l1.getD i default).2 == at_ && decide ((l1.getD i default).1 < id))) = true := hbt
          obtain ⟨m0, m1⟩ := m
          generalize (l1.getD i default).1 = x at *
          generalize (l1.getD i default).2 = y at *
          clear hstop hbt HBF
          cases d1 : decide (y < at_) with
          | true =>
            clear ht
            go_wp2
            go_roundw
            case rel => exact ⟨i + 1, by go_num, by omega, trivial, HB2⟩
            case measure => simp [intOf]; omega
          | false =>
            rw [d1] at ht
            have d23 : (y == at_) = true ∧ decide (x < id) = true := by simpa using ht
            obtain ⟨d2, d3⟩ := d23
            clear ht
            go_wp2
            go_roundw
            case rel => exact ⟨i + 1, by go_num, by omega, trivial, HB2⟩
            case measure => simp [intOf]; omega
  · have hs' : setB now at_ = false := by simpa using hs
    rw [HSL.out, hs', if_neg (by simp)]
    have hb : at_ ≤ now ∨ (now < at_ ∧ 1099511627776 < at_) := by simp [setB] at hs'; omega
    clear hs hs' HSL
    rcases hb with b1 | ⟨b1, b2⟩
    · go_enter Try.func10, Try.ntmps10
      go_wp2_with fail
      refine CD.out.mono ?_; rintro e w1 ⟨rfl, LV1, hrc, hf1, hnew⟩
      have c0 : w1.cell? ⟨g, 0, none⟩ = some (.int .i64 now) := hrc.blk.cell 0
      have HR := Lib.hid (And.intro hrc (And.intro hf1 hnew))
      clear hrc hf1 hnew CD
      go_wp2
      go_ret
      exact ⟨rfl, LV1, HR.out⟩
    · have b1' : ¬ at_ ≤ now := by omega
      have b2' : decide (at_ > 1099511627776) = true := decide_eq_true (by omega)
      go_enter Try.func10, Try.ntmps10
      go_wp2_with fail
      refine CD.out.mono ?_; rintro e w1 ⟨rfl, LV1, hrc, hf1, hnew⟩
      have c0 : w1.cell? ⟨g, 0, none⟩ = some (.int .i64 now) := hrc.blk.cell 0
      have HR := Lib.hid (And.intro hrc (And.intro hf1 hnew))
      clear hrc hf1 hnew CD
      go_wp2
      go_ret
      exact ⟨rfl, LV1, HR.out⟩
end Go.Proofs.Ytholaofgdahcbaa
