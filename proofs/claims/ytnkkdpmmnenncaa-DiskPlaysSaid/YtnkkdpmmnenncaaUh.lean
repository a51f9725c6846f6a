/- The disk's calls: Sync, Cut, Write, as a caller meets them. -/
import Derived.Test.YtnkkdpmmnenncaaUg
namespace Go.Proofs.Ytnkkdpmmnenncaa
open Go.RowKit Go.Maps

theorem DskM.to {w w' : World} {g : Nat} {s' : DS} {F : Nat → Prop} {m' : ML} (d : DskM w' g s' m') (h4 : ∀ k, F k → k < w.heap.size) (hw : ∀ k, WS g m' k → F k ∨ w.heap.size ≤ k)
    (hA : ∀ ad, m'.A = some ad → 0 < s'.keep.length → F ad.block ∨ w.heap.size ≤ ad.block) (hf : Fr F w w') : DskTo w g F w' s' := by
  refine ⟨fun k => (F k ∨ w.heap.size ≤ k) ∧ k < w'.heap.size, ⟨m', d, fun k hk => ⟨hw k hk, d.lt hk⟩, fun ad e h0 => ⟨hA ad e h0, RdB.lt (w := w') (e ▸ d.keep) h0⟩, fun k hk => hk.2⟩, hf, fun k hk => hk.1⟩
theorem Dsk.to0 {w w' : World} {g : Nat} {s : DS} {F : Nat → Prop} (h : Dsk w g s F) (hf : Fr (fun _ => False) w w') : DskTo w g F w' s :=
  ⟨F, h.fr0 hf, hf.mono (fun _ _ h => h.elim), fun _ h => .inl h⟩

def syncS (s : DS) : DS := if s.off then s else s.sync
def syncE (s : DS) : Int := if s.off then 5 else 0

set_option maxRecDepth 100000 in
set_option maxHeartbeats 4000000 in
theorem sync_any {g : Nat} {s : DS} {F : Nat → Prop} {w : World} (h : Dsk w g s F) (hq : s.q.length ≤ 1048576) :
    Calls Try.prog 15 #[.pointer (some ⟨g, 0, none⟩)] w fun e w' => e = .returned (.int .i64 (syncE s)) ∧ DskTo w g F w' (syncS s) := by
  have HD := Lib.hid h
  obtain ⟨m, hm, hF, hA, hl⟩ := h
  have c0 : w.cell? ⟨g, 0, none⟩ = some (.bool s.off) := hm.blk.cell 0
  have C1 := Lib.hid (isOff_any g s.off w c0)
  have H := Lib.hid hm
  have HF := Lib.hid hF
  have HA := Lib.hid hA
  have HL := Lib.hid hl
  clear hm hF hA hl c0
  by_cases ho : s.off = true
  · have e1 : syncE s = 5 := if_pos ho
    have e2 : syncS s = s := if_pos ho
    rw [e1, e2]
    clear e1 e2
    go_enter Try.func15, Try.ntmps15
    go_wp2_with fail
    refine C1.out.mono ?_; rintro e w1 ⟨rfl, rfl⟩
    go_wp2
    go_ret
    exact ⟨rfl, HD.out.to0 (Fr.refl _ _)⟩
  · have e1 : syncE s = 0 := if_neg ho
    have e2 : syncS s = s.sync := if_neg ho
    have ho' : s.off = false := by simpa using ho
    rw [e1, e2]
    clear e1 e2 ho
    obtain ⟨sA, sc, hsV⟩ := H.out.secs.slice
    rw [secs_len] at hsV
    have c7 : w.cell? ⟨g, 7, none⟩ = some (.slice sA s.q.length sc) := by rw [← hsV]; exact H.out.blk.cell 7
    have C2 := Lib.hid (count_any g s.q.length sc sA w c7)
    clear hsV c7
    go_enter Try.func15, Try.ntmps15
    go_wp2_with fail
    refine C1.out.mono ?_; rintro e w1 ⟨rfl, rfl⟩
    clear C1
    go_wp2_with fail
    refine C2.out.mono ?_; rintro e w2 ⟨rfl, rfl⟩
    clear C2
    go_wp2_with fail
    go_loopw [12] (fun i wr => ∃ j : Nat, j ≤ s.q.length ∧ i = .int .i64 j ∧ DskM wr g { s with kept := keepN s.sz s.q (fun _ => true) s.kept j } m ∧ Fr (fun x => x = m.kb) w wr) (fun i _ => s.q.length - (intOf i).toNat)
    case atStart => exact ⟨0, Nat.zero_le _, rfl, H.out, Fr.refl _ _⟩
    case round =>
      obtain ⟨j, hj, rfl, hd, hf⟩ := hrel
      have HDD := Lib.hid hd
      have HFF := Lib.hid hf
      clear hd hf
      by_cases hjk : j < s.q.length
      · have C3 := Lib.hid (keepWrite_any HDD.out hq j hjk)
        go_wp2_with fail
        refine C3.out.mono ?_; rintro e w3 ⟨rfl, h3, hf3⟩
        have H3 := Lib.hid h3
        have HF3 := Lib.hid (HFF.out.trans hf3 (fun _ _ h => h))
        clear C3 h3 hf3 HFF HDD
        go_wp2
        go_roundw
        case rel =>
          refine ⟨j + 1, by omega, by go_num, ?_, HF3.out⟩
          rw [keepN_yes rfl]
          exact H3.out
        case measure => simp [intOf]; omega
      · obtain rfl : j = s.q.length := by omega
        have C3 := Lib.hid (emptyM HDD.out)
        go_wp2_with fail
        refine C3.out.mono ?_; rintro e w3 ⟨rfl, m3, h3, hw3, hA3, hf3⟩
        have H3 := Lib.hid h3
        have HF3 := Lib.hid hf3
        have HW3 := Lib.hid hw3
        have HA3 := Lib.hid hA3
        clear C3 h3 hf3 hw3 hA3
        go_wp2
        go_ret
        refine ⟨rfl, H3.out.to HL.out (fun x hx => ?_) (fun ad e h0 => .inl (HA.out ad (HA3.out.symm.trans e) h0)) ?_⟩
        · rcases HW3.out x hx with h | h
          · exact .inl (HF.out x h)
          · have h5 := HFF.out.size
            exact .inr (by omega)
        · exact (HFF.out.mono (fun x _ h => HF.out x (.inr (.inl h)))).trans HF3.out (fun x _ h => HF.out x (.inl h))

theorem cut_any {g : Nat} {s : DS} {F : Nat → Prop} {w : World} (h : Dsk w g s F) (hq : s.q.length ≤ 1048576) (A : Option Addr) (n c : Nat) (xs : List Bool) (hr : RdB w A xs) (hn : xs.length = n) (hb : n ≤ 140737488355328) (hap : ∀ ad, A = some ad → 0 < xs.length → ¬ F ad.block) :
    Calls Try.prog 19 #[.pointer (some ⟨g, 0, none⟩), .slice A n c] w fun e w' => e = .returned (.tuple #[]) ∧ DskTo w g F w' (s.cut xs) := by
  obtain ⟨m, hm, hF, hA, hl⟩ := h
  refine (cutM hm hq A n c xs hr hn hb (fun ad e h0 h1 => hap ad e h0 (hF _ h1))).mono ?_
  rintro e w1 ⟨rfl, m1, d1, hw1, hA1, hf1⟩
  exact ⟨rfl, d1.to hl (fun k hk => (hw1 k hk).imp (hF k) id) (fun ad e => by rw [hA1] at e; cases e) (hf1.mono (fun x _ h => hF x h))⟩

theorem check_any {g : Nat} {s : DS} {m : ML} {w : World} (h : DskM w g s m) (x : Int) :
    Calls Try.prog 30 #[.pointer (some ⟨g, 0, none⟩), .int .i64 x] w fun e w' => e = .returned (.int .i64 (s.err x)) ∧ w = w' := by
  have c0 : w.cell? ⟨g, 0, none⟩ = some (.bool s.off) := h.blk.cell 0
  have c3 : w.cell? ⟨g, 3, none⟩ = some (.int .i64 (s.N : Int)) := h.blk.cell 3
  have C1 := Lib.hid (isOff_any g s.off w c0)
  clear h c0
  unfold DS.err
  generalize s.off = b at *
  cases b with
  | true =>
    go_enter Try.func30, Try.ntmps30
    go_wp2_with fail
    refine C1.out.mono ?_; rintro e w1 ⟨rfl, rfl⟩
    go_wp2
    go_ret
    exact ⟨rfl, rfl⟩
  | false =>
    by_cases h1 : x < 0
    · rw [if_pos (show x < 0 ∨ (s.N : Int) ≤ x from .inl h1)]
      go_enter Try.func30, Try.ntmps30
      go_wp2_with fail
      refine C1.out.mono ?_; rintro e w1 ⟨rfl, rfl⟩
      go_wp2
      go_ret
      exact ⟨rfl, rfl⟩
    · have h1' : 0 ≤ x := by omega
      have d1 : decide (x < 0) = false := by simpa using h1
      by_cases h2 : (s.N : Int) ≤ x
      · rw [if_pos (show x < 0 ∨ (s.N : Int) ≤ x from .inr h2)]
        have d2 : decide ((s.N : Int) ≤ x) = true := by simpa using h2
        clear h1
        go_enter Try.func30, Try.ntmps30
        go_wp2_with fail
        refine C1.out.mono ?_; rintro e w1 ⟨rfl, rfl⟩
        go_wp2
        go_ret
        exact ⟨rfl, rfl⟩
      · rw [if_neg (show ¬ (x < 0 ∨ (s.N : Int) ≤ x) from by omega)]
        have d2 : decide ((s.N : Int) ≤ x) = false := by simpa using h2
        have h2' : x < (s.N : Int) := by omega
        clear h1 h2
        go_enter Try.func30, Try.ntmps30
        go_wp2_with fail
        refine C1.out.mono ?_; rintro e w1 ⟨rfl, rfl⟩
        go_wp2
        go_ret
        exact ⟨rfl, rfl⟩
end Go.Proofs.Ytnkkdpmmnenncaa
