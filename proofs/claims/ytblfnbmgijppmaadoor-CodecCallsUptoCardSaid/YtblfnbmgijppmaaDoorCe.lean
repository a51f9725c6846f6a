/- A frame is read. -/
import Derived.Test.YtblfnbmgijppmaaDoorCd
namespace Go.Proofs.YtblfnbmgijppmaaDoor
open Go.RowKit

/-- An error that is a Fault in a block of its own. -/
def FaultAt (w : World) (fb : Nat) (er at_ : Nat) (what : ByteArray) : Prop := Bk w fb 61 #[.int .i64 er, .int .i64 at_, .string what]
def faultV (fb : Nat) : Value := .iface 73 (.pointer (some ⟨fb, 0, none⟩))

def sHead : ByteArray := ⟨#[104, 101, 97, 100]⟩
def sLength : ByteArray := ⟨#[108, 101, 110, 103, 116, 104]⟩
def sBody : ByteArray := ⟨#[98, 111, 100, 121]⟩

/-- What reading a frame comes to. -/
inductive RF where
  | bad (er at_ : Nat) (what : ByteArray)
  | good (body : List UInt8) (n : Nat)

def rdFrame (xs : List UInt8) : RF :=
  if xs.length < 8 then .bad 7 0 sHead
  else if crcOf (xs.take 4) ≠ le32 (xs.drop 4) then .bad 9 0 sHead
  else if 1048576 < le32 xs then .bad 10 0 sLength
  else if xs.length < 12 + le32 xs then .bad 7 8 sBody
  else if crcOf ((xs.drop 8).take (le32 xs)) ≠ le32 (xs.drop (8 + le32 xs)) then .bad 9 8 sBody
  else .good ((xs.drop 8).take (le32 xs)) (12 + le32 xs)

def RFPost (w : World) (r : RF) (e : Ending) (w' : World) : Prop :=
  match r with
  | .bad er at_ what => ∃ fb, e = .returned (.tuple #[.slice none 0 0, .int .i64 0, faultV fb]) ∧ FaultAt w' fb er at_ what ∧ Fr (fun _ => False) w w' ∧ w.heap.size ≤ fb
  | .good body n => ∃ A' c', e = .returned (.tuple #[.slice A' body.length c', .int .i64 n, .nilIface]) ∧ Own8 w' 5 (.slice A' body.length c') body ∧ Fresh w w' (.slice A' body.length c')

theorem Rd8.part {w : World} {b o : Nat} {xs : List UInt8} (h : Rd8 w (some ⟨b, o, none⟩) xs) (k m : Nat) : Rd8 w (some ⟨b, o + k, none⟩) ((xs.drop k).take m) := fun h0 => by
  simp at h0
  obtain ⟨ad, e, _, hc⟩ := h (by omega)
  injection e with e
  subst e
  refine ⟨_, rfl, rfl, fun j hj => ?_⟩
  simp at hj
  have := hc (k + j) (by omega)
  rw [Nat.add_assoc]
  simpa using this
theorem Rd8.tail {w : World} {b o : Nat} {xs : List UInt8} (h : Rd8 w (some ⟨b, o, none⟩) xs) (k : Nat) : Rd8 w (some ⟨b, o + k, none⟩) (xs.drop k) := by
  have := h.part k xs.length
  rwa [List.take_of_length_le (by simp)] at this
theorem Rd8.front {w : World} {b o : Nat} {xs : List UInt8} (h : Rd8 w (some ⟨b, o, none⟩) xs) (m : Nat) : Rd8 w (some ⟨b, o, none⟩) (xs.take m) := by
  have := h.part 0 m
  simpa using this

set_option maxRecDepth 100000 in
set_option maxHeartbeats 1000000 in
theorem rf_short (A : Option Addr) (n c : Nat) (xs : List UInt8) (w : World) (hn : xs.length = n) (hlt : (n : Int) < 8) :
    Calls Tryd.prog 19 #[.slice A n c] w (RFPost w (rdFrame xs)) := by
  have hE : rdFrame xs = .bad 7 0 sHead := by unfold rdFrame; rw [if_pos (by omega)]
  rw [hE]
  clear hE
  go_enter Tryd.func19, Tryd.ntmps19
  go_wp2
  go_ret3
  exact ⟨_, rfl, Bk.new _ _ _, (Fr.refl _ _).alloc _, Nat.le_refl _⟩

theorem sum_q (A : Option Addr) (n c : Nat) (xs : List UInt8) (w : World) (k : Nat) (ht : Tab w) (hr : Rd8 w A xs) (hn : xs.length = n) (hb : n ≤ 140737488355328) :
    Calls Tryd.prog 21 #[.slice A n c] (w.drewN k) fun e w' => e = .returned (.int .u32 (crcOf xs)) ∧ w' = w.drewN k :=
  (sum_any A n c xs (w.drewN k) ht hr hn hb).mono fun _ _ ⟨h1, h2⟩ => ⟨h1, h2.symm⟩
theorem word_q (b o n c : Nat) (xs : List UInt8) (w : World) (k : Nat) (hr : Rd8 w (some ⟨b, o, none⟩) xs) (hn : xs.length = n) (h4 : 4 ≤ n) (hb : n ≤ 70368744177664) :
    Calls Tryd.prog 43 #[.slice (some ⟨b, o, none⟩) n c] (w.drewN k) fun e w' => e = .returned (.int .u32 (le32 xs)) ∧ ∃ m, w' = (w.drewN k).drewN m :=
  (word_any b o n c xs (w.drewN k) hr hn h4 hb).mono fun _ _ ⟨h1, m, h2⟩ => ⟨h1, m, h2.symm⟩

set_option maxRecDepth 100000 in
set_option maxHeartbeats 1000000 in
theorem rf_head (b o n c : Nat) (xs : List UInt8) (w : World) (ht : Tab w) (hr : Rd8 w (some ⟨b, o, none⟩) xs) (hn : xs.length = n) (hnc : (n : Int) ≤ c) (hb : n ≤ 17592186044416) (hlt : 8 ≤ (n : Int))
    (hs : crcOf (xs.take 4) ≠ le32 (xs.drop 4)) :
    Calls Tryd.prog 19 #[.slice (some ⟨b, o, none⟩) n c] w (RFPost w (rdFrame xs)) := by
  have hE : rdFrame xs = .bad 9 0 sHead := by unfold rdFrame; rw [if_neg (by omega), if_pos hs]
  rw [hE]
  clear hE
  have hr1 := hr.front 4
  have hr2 := hr.tail 4
  have hl1 : (xs.take 4).length = 4 := by simp; omega
  have hl2 : (xs.drop 4).length = n - 4 := by simp; omega
  have hne : ((crcOf (xs.take 4) : Int) != (le32 (xs.drop 4) : Int)) = true := by rw [bne_iff_ne]; omega
  have i1 : (4 : Int) ≤ c := by omega
  have i2 : ¬ c = 4 := by omega
  go_enter Tryd.func19, Tryd.ntmps19
  go_wp2_with fail
  go_quiet (first
    | (go_at_call 21; exact Calls.quiet_of_same (sum_q _ 4 c (xs.take 4) w _ ht hr1 hl1 (by omega)))
    | (go_at_call 43; exact Calls.quiet_of (word_q _ _ _ _ (xs.drop 4) w _ hr2 hl2 (by omega) (by omega))))
  go_wp2
  go_ret3
  exact ⟨_, rfl, Bk.new _ _ _, ((Fr.refl _ _).drewN _).alloc _, Nat.le_refl _⟩

theorem Fr.of_drewN {S : Nat → Prop} {a w w' : World} (h : Fr S a w) {n : Nat} (e : w.drewN n = w') : Fr S a w' := by subst e; exact h.drewN n

set_option maxRecDepth 100000 in
set_option maxHeartbeats 1000000 in
theorem rf_long (b o n c : Nat) (xs : List UInt8) (w : World) (ht : Tab w) (hr : Rd8 w (some ⟨b, o, none⟩) xs) (hn : xs.length = n) (hnc : (n : Int) ≤ c) (hb : n ≤ 17592186044416) (hlt : 8 ≤ (n : Int))
    (hs : crcOf (xs.take 4) = le32 (xs.drop 4)) (hx : 1048576 < (le32 xs : Int)) :
    Calls Tryd.prog 19 #[.slice (some ⟨b, o, none⟩) n c] w (RFPost w (rdFrame xs)) := by
  have hE : rdFrame xs = .bad 10 0 sLength := by unfold rdFrame; rw [if_neg (by omega), if_neg (by omega), if_pos (by omega)]
  rw [hE]
  clear hE
  have hr1 := hr.front 4
  have hr2 := hr.tail 4
  have hl1 : (xs.take 4).length = 4 := by simp; omega
  have hl2 : (xs.drop 4).length = n - 4 := by simp; omega
  have hne : ((crcOf (xs.take 4) : Int) != (le32 (xs.drop 4) : Int)) = false := by rw [bne_eq_false_iff_eq]; omega
  have hwr := hr
  have hlm := le32_lt xs
  have i1 : (4 : Int) ≤ c := by omega
  have i2 : ¬ c = 4 := by omega
  clear hs
  generalize hm : le32 xs = m at *
  have HM := Lib.hid hm
  clear hm
  go_enter Tryd.func19, Tryd.ntmps19
  go_wp2_with fail
  go_quiet (first
    | (go_at_call 21; exact Calls.quiet_of_same (sum_q _ 4 c (xs.take 4) w _ ht hr1 hl1 (by omega)))
    | (go_at_call 43; exact Calls.quiet_of (word_q _ _ _ _ (xs.drop 4) w _ hr2 hl2 (by omega) (by omega))))
  go_wp2_with fail
  have hf0 : Fr (fun _ => False) w (w.drewN nq) := (Fr.refl _ _).drewN _
  generalize w.drewN nq = w0 at *
  refine (word_any b o n c xs w0 (hr.fr hf0 (fun _ _ _ h => h)) hn (by omega) (by omega)).mono ?_; rintro e w1 ⟨rfl, nq1, hq1⟩
  have hf1 := hf0.of_drewN hq1
  clear hq1
  rw [HM.out]
  go_wp2
  go_ret3
  exact ⟨_, rfl, Bk.new _ _ _, hf1.alloc _, hf1.size⟩

set_option maxRecDepth 100000 in
set_option maxHeartbeats 1000000 in
theorem rf_few (b o n c : Nat) (xs : List UInt8) (w : World) (ht : Tab w) (hr : Rd8 w (some ⟨b, o, none⟩) xs) (hn : xs.length = n) (hnc : (n : Int) ≤ c) (hb : n ≤ 17592186044416) (hlt : 8 ≤ (n : Int))
    (hs : crcOf (xs.take 4) = le32 (xs.drop 4)) (hx : (le32 xs : Int) ≤ 1048576) (hy : (n : Int) < 12 + (le32 xs : Int)) :
    Calls Tryd.prog 19 #[.slice (some ⟨b, o, none⟩) n c] w (RFPost w (rdFrame xs)) := by
  have hE : rdFrame xs = .bad 7 8 sBody := by unfold rdFrame; rw [if_neg (by omega), if_neg (by omega), if_neg (by omega), if_pos (by omega)]
  rw [hE]
  clear hE
  have hr1 := hr.front 4
  have hr2 := hr.tail 4
  have hl1 : (xs.take 4).length = 4 := by simp; omega
  have hl2 : (xs.drop 4).length = n - 4 := by simp; omega
  have hne : ((crcOf (xs.take 4) : Int) != (le32 (xs.drop 4) : Int)) = false := by rw [bne_eq_false_iff_eq]; omega
  have hwr := hr
  have hlm := le32_lt xs
  have i1 : (4 : Int) ≤ c := by omega
  have i2 : ¬ c = 4 := by omega
  clear hs
  generalize hm : le32 xs = m at *
  have HM := Lib.hid hm
  clear hm
  go_enter Tryd.func19, Tryd.ntmps19
  go_wp2_with fail
  go_quiet (first
    | (go_at_call 21; exact Calls.quiet_of_same (sum_q _ 4 c (xs.take 4) w _ ht hr1 hl1 (by omega)))
    | (go_at_call 43; exact Calls.quiet_of (word_q _ _ _ _ (xs.drop 4) w _ hr2 hl2 (by omega) (by omega))))
  go_wp2_with fail
  have hf0 : Fr (fun _ => False) w (w.drewN nq) := (Fr.refl _ _).drewN _
  generalize w.drewN nq = w0 at *
  refine (word_any b o n c xs w0 (hr.fr hf0 (fun _ _ _ h => h)) hn (by omega) (by omega)).mono ?_; rintro e w1 ⟨rfl, nq1, hq1⟩
  have hf1 := hf0.of_drewN hq1
  clear hq1
  rw [HM.out]
  go_wp2_with fail
  refine (word_any b o n c xs w1 (hr.fr hf1 (fun _ _ _ h => h)) hn (by omega) (by omega)).mono ?_; rintro e w2 ⟨rfl, nq2, hq2⟩
  have hf2 := hf1.of_drewN hq2
  clear hq2
  rw [HM.out]
  go_wp2
  go_ret3
  exact ⟨_, rfl, Bk.new _ _ _, hf2.alloc _, hf2.size⟩
set_option maxRecDepth 100000 in
set_option maxHeartbeats 1000000 in
theorem rf_sum (b o n c : Nat) (xs : List UInt8) (w : World) (ht : Tab w) (hr : Rd8 w (some ⟨b, o, none⟩) xs) (hn : xs.length = n) (hnc : (n : Int) ≤ c) (hb : n ≤ 17592186044416) (hlt : 8 ≤ (n : Int))
    (hs : crcOf (xs.take 4) = le32 (xs.drop 4)) (hx : (le32 xs : Int) ≤ 1048576) (hy : 12 + (le32 xs : Int) ≤ (n : Int)) (hz : crcOf ((xs.drop 8).take (le32 xs)) ≠ le32 (xs.drop (8 + le32 xs))) :
    Calls Tryd.prog 19 #[.slice (some ⟨b, o, none⟩) n c] w (RFPost w (rdFrame xs)) := by
  have hE : rdFrame xs = .bad 9 8 sBody := by unfold rdFrame; rw [if_neg (by omega), if_neg (by omega), if_neg (by omega), if_neg (by omega), if_pos hz]
  rw [hE]
  clear hE
  have hr1 := hr.front 4
  have hr2 := hr.tail 4
  have hl1 : (xs.take 4).length = 4 := by simp; omega
  have hl2 : (xs.drop 4).length = n - 4 := by simp; omega
  have hne : ((crcOf (xs.take 4) : Int) != (le32 (xs.drop 4) : Int)) = false := by rw [bne_eq_false_iff_eq]; omega
  have hwr := hr
  have hlm := le32_lt xs
  have i1 : (4 : Int) ≤ c := by omega
  have i2 : ¬ c = 4 := by omega
  clear hs
  generalize hm : le32 xs = m at *
  have HM := Lib.hid hm
  clear hm
  have hr3 := hr.part 8 m
  have hr4 := hr.tail (8 + m)
  have hl3 : ((xs.drop 8).take m).length = m := by simp; omega
  have hl4 : (xs.drop (8 + m)).length = n - (8 + m) := by simp; omega
  have i3 : (8 : Int) + m ≤ c := by omega
  have i4 : ¬ c = 8 := by omega
  have i5 : ¬ c = 8 + m := by omega
  have hne2 : ((crcOf ((xs.drop 8).take m) : Int) != (le32 (xs.drop (8 + m)) : Int)) = true := by rw [bne_iff_ne]; omega
  clear hz
  go_enter Tryd.func19, Tryd.ntmps19
  go_wp2_with fail
  go_quiet (first
    | (go_at_call 21; exact Calls.quiet_of_same (sum_q _ 4 c (xs.take 4) w _ ht hr1 hl1 (by omega)))
    | (go_at_call 43; exact Calls.quiet_of (word_q _ _ _ _ (xs.drop 4) w _ hr2 hl2 (by omega) (by omega))))
  go_wp2_with fail
  have hf0 : Fr (fun _ => False) w (w.drewN nq) := (Fr.refl _ _).drewN _
  generalize w.drewN nq = w0 at *
  refine (word_any b o n c xs w0 (hr.fr hf0 (fun _ _ _ h => h)) hn (by omega) (by omega)).mono ?_; rintro e w1 ⟨rfl, nq1, hq1⟩
  have hf1 := hf0.of_drewN hq1
  clear hq1
  rw [HM.out]
  go_wp2_with fail
  refine (word_any b o n c xs w1 (hr.fr hf1 (fun _ _ _ h => h)) hn (by omega) (by omega)).mono ?_; rintro e w2 ⟨rfl, nq2, hq2⟩
  have hf2 := hf1.of_drewN hq2
  clear hq2
  rw [HM.out]
  go_wp2_with fail
  have ht2 := ht.fr hf2 (fun h => h)
  have hr23 := hr3.fr hf2 (fun _ _ _ h => h)
  have hr24 := hr4.fr hf2 (fun _ _ _ h => h)
  go_quiet (first
    | (go_at_call 21; exact Calls.quiet_of_same (sum_q _ m (c - 8) ((xs.drop 8).take m) w2 _ ht2 hr23 hl3 (by omega)))
    | (go_at_call 43; exact Calls.quiet_of (word_q _ _ _ _ (xs.drop (8 + m)) w2 _ hr24 hl4 (by omega) (by omega))))
  go_wp2
  go_ret3
  exact ⟨_, rfl, Bk.new _ _ _, (hf2.drewN _).alloc _, hf2.size⟩

set_option maxRecDepth 100000 in
set_option maxHeartbeats 1000000 in
theorem rf_good (b o n c : Nat) (xs : List UInt8) (w : World) (ht : Tab w) (hr : Rd8 w (some ⟨b, o, none⟩) xs) (hn : xs.length = n) (hnc : (n : Int) ≤ c) (hb : n ≤ 17592186044416) (hlt : 8 ≤ (n : Int))
    (hs : crcOf (xs.take 4) = le32 (xs.drop 4)) (hx : (le32 xs : Int) ≤ 1048576) (hy : 12 + (le32 xs : Int) ≤ (n : Int)) (hz : crcOf ((xs.drop 8).take (le32 xs)) = le32 (xs.drop (8 + le32 xs))) :
    Calls Tryd.prog 19 #[.slice (some ⟨b, o, none⟩) n c] w (RFPost w (rdFrame xs)) := by
  have hE : rdFrame xs = .good ((xs.drop 8).take (le32 xs)) (12 + le32 xs) := by unfold rdFrame; rw [if_neg (by omega), if_neg (by omega), if_neg (by omega), if_neg (by omega), if_neg (by omega)]
  rw [hE]
  clear hE
  have hr1 := hr.front 4
  have hr2 := hr.tail 4
  have hl1 : (xs.take 4).length = 4 := by simp; omega
  have hl2 : (xs.drop 4).length = n - 4 := by simp; omega
  have hne : ((crcOf (xs.take 4) : Int) != (le32 (xs.drop 4) : Int)) = false := by rw [bne_eq_false_iff_eq]; omega
  have hwr := hr
  have hlm := le32_lt xs
  have i1 : (4 : Int) ≤ c := by omega
  have i2 : ¬ c = 4 := by omega
  clear hs
  generalize hm : le32 xs = m at *
  have HM := Lib.hid hm
  clear hm
  have hr3 := hr.part 8 m
  have hr4 := hr.tail (8 + m)
  have hl3 : ((xs.drop 8).take m).length = m := by simp; omega
  have hl4 : (xs.drop (8 + m)).length = n - (8 + m) := by simp; omega
  have i3 : (8 : Int) + m ≤ c := by omega
  have i4 : ¬ c = 8 := by omega
  have i5 : ¬ c = 8 + m := by omega
  have hne2 : ((crcOf ((xs.drop 8).take m) : Int) != (le32 (xs.drop (8 + m)) : Int)) = false := by rw [bne_eq_false_iff_eq]; omega
  clear hz
  go_enter Tryd.func19, Tryd.ntmps19
  go_wp2_with fail
  go_quiet (first
    | (go_at_call 21; exact Calls.quiet_of_same (sum_q _ 4 c (xs.take 4) w _ ht hr1 hl1 (by omega)))
    | (go_at_call 43; exact Calls.quiet_of (word_q _ _ _ _ (xs.drop 4) w _ hr2 hl2 (by omega) (by omega))))
  go_wp2_with fail
  have hf0 : Fr (fun _ => False) w (w.drewN nq) := (Fr.refl _ _).drewN _
  generalize w.drewN nq = w0 at *
  refine (word_any b o n c xs w0 (hr.fr hf0 (fun _ _ _ h => h)) hn (by omega) (by omega)).mono ?_; rintro e w1 ⟨rfl, nq1, hq1⟩
  have hf1 := hf0.of_drewN hq1
  clear hq1
  rw [HM.out]
  go_wp2_with fail
  refine (word_any b o n c xs w1 (hr.fr hf1 (fun _ _ _ h => h)) hn (by omega) (by omega)).mono ?_; rintro e w2 ⟨rfl, nq2, hq2⟩
  have hf2 := hf1.of_drewN hq2
  clear hq2
  rw [HM.out]
  go_wp2_with fail
  have ht2 := ht.fr hf2 (fun h => h)
  have hr23 := hr3.fr hf2 (fun _ _ _ h => h)
  have hr24 := hr4.fr hf2 (fun _ _ _ h => h)
  go_quiet (first
    | (go_at_call 21; exact Calls.quiet_of_same (sum_q _ m (c - 8) ((xs.drop 8).take m) w2 _ ht2 hr23 hl3 (by omega)))
    | (go_at_call 43; exact Calls.quiet_of (word_q _ _ _ _ (xs.drop (8 + m)) w2 _ hr24 hl4 (by omega) (by omega))))
  go_wp2_with fail
  have hf3 : Fr (fun _ => False) w (w2.drewN nq) := hf2.drewN _
  generalize w2.drewN nq = w3 at *
  refine (clone_any _ m _ ((xs.drop 8).take m) w3 (hr3.fr hf3 (fun _ _ _ h => h)) hl3 (by omega)).mono ?_; rintro e w4 ⟨A4, c4, rfl, ho4, hfr4⟩
  have hfin : Own8 w4 5 (.slice A4 ((xs.drop 8).take m).length c4) ((xs.drop 8).take m) ∧ Fresh w w4 (.slice A4 ((xs.drop 8).take m).length c4) := by
    rw [hl3]
    exact ⟨ho4, hf3.trans hfr4.1 (fun _ _ h => h), fun k hk => Nat.le_trans hf3.size (hfr4.2 k hk)⟩
  go_wp2
  go_ret3
  refine ⟨A4, c4, ?_, hfin⟩
  rw [hl3, show ((12 + m : Nat) : Int) = 8 + (m : Int) + 4 by omega]
  rfl

theorem readFrame_any (A : Option Addr) (n c : Nat) (xs : List UInt8) (w : World) (ht : Tab w) (hr : Rd8 w A xs) (hs : ∀ ad, A = some ad → ad.spot = none) (hn : xs.length = n) (hnc : (n : Int) ≤ c) (hb : n ≤ 17592186044416) :
    Calls Tryd.prog 19 #[.slice A n c] w (RFPost w (rdFrame xs)) := by
  by_cases h8 : n < 8
  · exact rf_short A n c xs w hn (by omega)
  · obtain ⟨ad, rfl, _, _⟩ := hr (by omega)
    obtain ⟨b, o, sp⟩ := ad
    cases hs _ rfl
    by_cases h1 : crcOf (xs.take 4) = le32 (xs.drop 4)
    · by_cases h2 : 1048576 < le32 xs
      · exact rf_long b o n c xs w ht hr hn hnc hb (by omega) h1 (by omega)
      · by_cases h3 : n < 12 + le32 xs
        · exact rf_few b o n c xs w ht hr hn hnc hb (by omega) h1 (by omega) (by omega)
        · by_cases h4 : crcOf ((xs.drop 8).take (le32 xs)) = le32 (xs.drop (8 + le32 xs))
          · exact rf_good b o n c xs w ht hr hn hnc hb (by omega) h1 (by omega) (by omega) h4
          · exact rf_sum b o n c xs w ht hr hn hnc hb (by omega) h1 (by omega) (by omega) h4
    · exact rf_head b o n c xs w ht hr hn hnc hb (by omega) h1
end Go.Proofs.YtblfnbmgijppmaaDoor
