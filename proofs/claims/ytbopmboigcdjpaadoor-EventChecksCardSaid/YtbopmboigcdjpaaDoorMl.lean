/- event: Name, a Broken's text, Status. -/
import Derived.Test.YtbopmboigcdjpaaDoorMk
import Derived.Test.YtbopmboigcdjpaaDoorFs
namespace Go.Proofs.YtbopmboigcdjpaaDoor
open Go.RowKit Go.Maps Go.Extern.Stop Go.Stop Go.Extern

def nameTab : List ByteArray := [⟨#[]⟩, ⟨#[115, 116, 97, 114, 116, 101, 100]⟩, ⟨#[115, 99, 104, 101, 100, 117, 108, 101, 100]⟩, ⟨#[100, 101, 99, 105, 100, 101, 115]⟩, ⟨#[100, 101, 99, 105, 100, 101, 100]⟩, ⟨#[109, 105, 115, 115, 101, 100]⟩, ⟨#[102, 97, 117, 108, 116, 121]⟩, ⟨#[97, 99, 116, 105, 118, 105, 116, 121]⟩, ⟨#[119, 111, 114, 107, 115]⟩, ⟨#[119, 111, 114, 107, 101, 100]⟩, ⟨#[98, 114, 111, 107, 101]⟩, ⟨#[108, 97, 112, 115, 101, 100]⟩, ⟨#[116, 105, 109, 101, 114]⟩, ⟨#[102, 105, 114, 101, 100]⟩, ⟨#[117, 110, 115, 101, 116]⟩, ⟨#[115, 105, 103, 110, 97, 108]⟩, ⟨#[99, 97, 110, 99, 101, 108]⟩, ⟨#[99, 104, 105, 108, 100]⟩, ⟨#[99, 104, 105, 108, 100, 101, 110, 100, 115]⟩, ⟨#[99, 111, 110, 116, 105, 110, 117, 101, 100]⟩, ⟨#[99, 111, 109, 112, 108, 101, 116, 101, 100]⟩, ⟨#[102, 97, 105, 108, 101, 100]⟩, ⟨#[99, 97, 110, 99, 101, 108, 101, 100]⟩, ⟨#[116, 101, 114, 109, 105, 110, 97, 116, 101, 100]⟩]
/-- What the variable names holds. -/
def NamT (w : World) : Prop := ∀ j, j < 24 → w.cell? ⟨1, j, none⟩ = some (.string (nameTab.getD j ⟨#[]⟩))
theorem NamT.fr {S : Nat → Prop} {w w' : World} (h : NamT w) (hf : Fr S w w') (hS : ¬ S 1) : NamT w' := fun j hj => by
  have h0 := h j hj
  rw [← h0]
  exact hf.cell (p := ⟨1, j, none⟩) (World.block_lt_of_cell? w _ h0) hS
def nameOf (k : Int) : ByteArray := if isKindB k = true then nameTab.getD k.toNat ⟨#[]⟩ else ⟨#[]⟩

set_option maxRecDepth 100000 in
theorem name_any (k : Int) (w : World) (hT : NamT w) : Calls Tryd.prog 21 #[.int .i64 k] w fun e w' => e = .returned (.string (nameOf k)) ∧ w = w' := by
  have CK := Lib.hid (isKind_any k)
  unfold nameOf
  by_cases hk : isKindB k = true
  · rw [if_pos hk]
    rw [hk] at CK
    have hr : 1 ≤ k ∧ k ≤ 23 := by unfold isKindB at hk; simp at hk; exact hk
    obtain ⟨j, rfl⟩ : ∃ j : Nat, k = (j : Int) := ⟨k.toNat, by omega⟩
    have c0 := hT j (by omega)
    have hj0 : (0 : Int) ≤ (j : Int) := by omega
    have hj1 : (j : Int) < 24 := by omega
    rw [Int.toNat_natCast]
    generalize nameTab.getD j ⟨#[]⟩ = s at *
    clear hk hT
    go_enter Tryd.func21, Tryd.ntmps21
    go_wp2_with fail
    refine (CK.out _).mono ?_; rintro e w1 ⟨rfl, rfl⟩
    go_wp2
    go_ret
    exact ⟨rfl, rfl⟩
  · rw [if_neg hk]
    have hk2 : isKindB k = false := by simpa using hk
    rw [hk2] at CK
    clear hk hk2 hT
    go_enter Tryd.func21, Tryd.ntmps21
    go_wp2_with fail
    refine (CK.out _).mono ?_; rintro e w1 ⟨rfl, rfl⟩
    go_wp2
    go_ret
    exact ⟨rfl, rfl⟩

def statusK (k : Int) : Int := if k = 19 then 6 else if k = 20 then 2 else if k = 21 then 3 else if k = 22 then 4 else if k = 23 then 5 else 1
set_option maxRecDepth 100000 in
set_option maxHeartbeats 2000000 in
theorem statusBehind_any (k : Int) (w : World) : Calls Tryd.prog 33 #[.int .i64 k] w fun e w' => e = .returned (.int .i64 (statusK k)) ∧ w = w' := by
  by_cases h1 : k = 19
  · subst h1
    go_enter Tryd.func33, Tryd.ntmps33
    go_wp2
    go_ret
    exact ⟨rfl, rfl⟩
  by_cases h2 : k = 20
  · subst h2
    go_enter Tryd.func33, Tryd.ntmps33
    go_wp2
    go_ret
    exact ⟨rfl, rfl⟩
  by_cases h3 : k = 21
  · subst h3
    go_enter Tryd.func33, Tryd.ntmps33
    go_wp2
    go_ret
    exact ⟨rfl, rfl⟩
  by_cases h4 : k = 22
  · subst h4
    go_enter Tryd.func33, Tryd.ntmps33
    go_wp2
    go_ret
    exact ⟨rfl, rfl⟩
  by_cases h5 : k = 23
  · subst h5
    go_enter Tryd.func33, Tryd.ntmps33
    go_wp2
    go_ret
    exact ⟨rfl, rfl⟩
  have e1 : (k == 19) = false := by simp [h1]
  have e2 : (k == 20) = false := by simp [h2]
  have e3 : (k == 21) = false := by simp [h3]
  have e4 : (k == 22) = false := by simp [h4]
  have e5 : (k == 23) = false := by simp [h5]
  have hs : statusK k = 1 := by unfold statusK; rw [if_neg h1, if_neg h2, if_neg h3, if_neg h4, if_neg h5]
  rw [hs]
  clear h1 h2 h3 h4 h5 hs
  go_enter Tryd.func33, Tryd.ntmps33
  go_wp2
  go_ret
  exact ⟨rfl, rfl⟩
/-- What Status tells of events. -/
def statusL (l : List Ev) : Int := match l.getLast? with
  | none => 0
  | some e => statusK e.k
theorem last_get {ps : List VL} {n : Nat} (h : ps.length = n + 1) : (evs ps).getLast? = some (ps.getD n default).e := by
  unfold evs
  rw [List.getLast?_map, List.getLast?_eq_getElem?, h]
  simp [List.getD, h]
set_option maxRecDepth 100000 in
set_option maxHeartbeats 2000000 in
theorem status_any (A : Option Addr) (n c : Nat) (ps : List VL) (F : Nat → Prop) (w : World) (h : Vs w A n ps F) (hn : n ≤ 1048576) :
    Calls Tryd.prog 12 #[.slice A n c] w fun e w' => e = .returned (.int .i64 (statusL (evs ps))) ∧ w = w' := by
  unfold statusL
  cases n with
  | zero =>
    have hp : ps = [] := List.eq_nil_of_length_eq_zero h.len
    subst hp
    clear h
    go_enter Tryd.func12, Tryd.ntmps12
    go_wp2
    go_ret
    exact ⟨rfl, rfl⟩
  | succ m =>
    rw [last_get h.len]
    simp only
    obtain ⟨b, off, rfl, -, hcs, -⟩ := h.at (i := m) (by omega)
    have q0 : w.cell? ⟨b, off + m * 7, none⟩ = some (.int .i64 (ps.getD m default).e.k) := hcs 0 _ rfl
    have CS := Lib.hid (statusBehind_any (ps.getD m default).e.k)
    generalize (ps.getD m default).e.k = k at *
    have w1 : IntKind.i64.wrap (((m + 1 : Nat) : Int) - 1) = (m : Int) := by rw [IntWalk.i64_in _ (by omega)]; omega
    have d1 : (((m + 1 : Nat) : Int) == 0) = false := by simp; omega
    have hm0 : (0 : Int) ≤ (m : Int) := by omega
    have hm1 : (m : Int) < ((m + 1 : Nat) : Int) := by omega
    clear h hcs
    go_enter Tryd.func12, Tryd.ntmps12
    go_wp2_with fail
    refine (CS.out _).mono ?_; rintro e w1 ⟨rfl, rfl⟩
    go_wp2
    go_ret
    exact ⟨rfl, rfl⟩

def sEvent : ByteArray := ⟨#[101, 118, 101, 110, 116, 32]⟩
def sColon : ByteArray := ⟨#[58, 32]⟩
def decB (i : Nat) : ByteArray := ⟨(Lib.decDigits i).toArray⟩
def brkText (i : Nat) (s : ByteArray) : ByteArray := sEvent ++ decB i ++ sColon ++ s
theorem decB_size {i : Nat} (h : i < 100) : (decB i).size ≤ 2 := by
  have : ∀ i, i < 100 → (decB i).size ≤ 2 := by decide +kernel
  exact this i h
set_option maxRecDepth 100000 in
set_option maxHeartbeats 2000000 in
theorem brkError_any (g i : Nat) (s : ByteArray) (w : World) (hi : i < 100) (hs : s.size ≤ 100) (c0 : w.cell? ⟨g, 0, none⟩ = some (.int .i64 (i : Int))) (c1 : w.cell? ⟨g, 1, none⟩ = some (.string s)) :
    Calls Tryd.prog 28 #[.pointer (some ⟨g, 0, none⟩)] w fun e w' => e = .returned (.string (brkText i s)) ∧ Fr (fun _ => False) w w' := by
  have CI := Lib.hid (fun n => Tryd.strconv_Itoa_small i hi (w.drewN n))
  have HT : Hid (brkText i s = sEvent ++ decB i ++ sColon ++ s) := Lib.hid rfl
  have z1 := decB_size hi
  unfold decB at *
  generalize brkText i s = txt at *
  generalize (⟨(Lib.decDigits i).toArray⟩ : ByteArray) = t1 at *
  unfold sEvent sColon at *
  have s1 : ¬ 9223372036854775807 < 6 + t1.size := by omega
  have s2 : ¬ 9223372036854775807 < 6 + t1.size + 2 := by omega
  have s3 : ¬ 9223372036854775807 < 6 + t1.size + 2 + s.size := by omega
  clear hi
  go_enter Tryd.func28, Tryd.ntmps28
  go_wp2_with fail
  go_quiet (first
    | (go_at_call 48; exact Calls.quiet_of_same ((CI.out _).mono fun _ _ ⟨h1, h2⟩ => ⟨h1, h2⟩)))
  go_wp2
  go_ret
  exact ⟨by rw [HT.out]; rfl, (Fr.refl _ _).drewN _⟩
end Go.Proofs.YtbopmboigcdjpaaDoor
