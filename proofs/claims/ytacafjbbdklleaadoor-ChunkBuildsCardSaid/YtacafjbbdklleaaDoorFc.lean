/- A fault's text. -/
import Derived.Test.YtacafjbbdklleaaDoorFb
import Derived.Sort.Grow
import Derived.Lib.QuietBelow
import Derived.BigQuiet
namespace Go.Proofs.YtacafjbbdklleaaDoor
open Go.RowKit

/-- The library's table of powers of ten holds what it must. -/
def PowT (w : World) : Prop := Lib.TabIs Tryd.prog w "internal/strconv.uint64pow10" .u64 Lib.pow10Tab
theorem Tryd.gPow : Tryd.prog.globalNamed "internal/strconv.uint64pow10" = some 2 := by kernel_rfl
theorem PowT.lt {w : World} (h : PowT w) : 2 < w.heap.size := by
  unfold PowT Lib.TabIs World.var? at h
  rw [Tryd.gPow] at h
  rcases Nat.lt_or_ge 2 w.heap.size with hlt | hge
  · exact hlt
  · simp [Array.getElem?_eq_none hge] at h
theorem PowT.fr {S : Nat → Prop} {w w' : World} (h : PowT w) (hb : Fr S w w') (hS : ¬ S 2) : PowT w' := by
  have hlt := h.lt
  unfold PowT Lib.TabIs World.var? at h ⊢
  rw [Tryd.gPow] at h ⊢
  simp only [Option.bind_some] at h ⊢
  rw [hb.block _ hlt hS]
  exact h
theorem fr_grow (w : World) (k : Nat) (os : Array Obj) : Fr (fun _ => False) w (Sort.grow (w.drewN k) os) :=
  ⟨rfl, rfl, rfl, by show w.heap.size ≤ (w.heap ++ os).size; simp, fun x hx _ => by
    show (w.heap ++ os)[x]? = w.heap[x]?
    rw [Array.getElem?_append_left hx]⟩
theorem itoa_any (n : Nat) (w : World) (h : n ≤ 9223372036854775807) (ht : PowT w) :
    Calls Tryd.prog 44 #[.int .i64 n] w fun e w' => e = .returned (.string (strOf (Lib.decDigits n))) ∧ Fr (fun _ => False) w w' :=
  (Tryd.strconv_Itoa n (by omega) (by omega) w ht).mono fun e w' ⟨he, k, os, hw⟩ => ⟨by rw [he, Lib.itoa, if_neg (by omega)]; rfl, hw ▸ fr_grow w k os⟩

theorem Fr.of_regrown (w : World) (d : Nat) (os : Array Obj) : Fr (fun _ => False) w (Sort.grow (redrawn w d) os) :=
  ⟨rfl, rfl, rfl, by show w.heap.size ≤ (w.heap ++ os).size; simp, fun x hx _ => by
    show (w.heap ++ os)[x]? = w.heap[x]?
    rw [Array.getElem?_append_left hx]⟩
def sIn : ByteArray := ⟨#[32, 105, 110, 32]⟩
def sAt : ByteArray := ⟨#[32, 97, 116, 32]⟩
/-- What a fault says. -/
def faultText (k : Int) (what : ByteArray) (p : Nat) : ByteArray := errText k ++ sIn ++ what ++ sAt ++ strOf (Lib.decDigits p)
theorem errText_size (k : Int) : (errText k).size ≤ 5 := by
  unfold errText; split; · decide
  split; · decide
  split <;> decide
set_option maxRecDepth 100000 in
set_option maxHeartbeats 1000000 in
theorem faultError_any (g : Nat) (k : Int) (p : Nat) (what : ByteArray) (w : World) (hk : Bad4 k) (hp : p ≤ 9223372036854775807) (hw : what.size ≤ 1000000) (ht : PowT w) (h0 : w.cell? ⟨g, 0, none⟩ = some (.int .i64 k)) (h1 : w.cell? ⟨g, 1, none⟩ = some (.int .i64 p)) (h2 : w.cell? ⟨g, 2, none⟩ = some (.string what)) :
    Calls Tryd.prog 28 #[.pointer (some ⟨g, 0, none⟩)] w fun e w' => e = .returned (.string (faultText k what p)) ∧ Fr (fun _ => False) w w' := by
  have C1 := Lib.hid (fun w => errno_any k w hk)
  have C2 := Lib.hid (fun w (h : PowT w) => itoa_any p w hp h)
  have HT : Hid (faultText k what p = errText k ++ sIn ++ what ++ sAt ++ strOf (Lib.decDigits p)) := Lib.hid rfl
  have z1 := errText_size k
  have z2 : (strOf (Lib.decDigits p)).size ≤ 20 := by rw [strOf_size]; exact dec_len hp
  generalize faultText k what p = txt at *
  generalize errText k = t1 at *
  generalize strOf (Lib.decDigits p) = t2 at *
  have k0 := cell_regrown h0
  have k1 := cell_regrown h1
  have k2 := cell_regrown h2
  have cE : ∀ d os, Calls Tryd.prog 27 #[.int .i64 k] (Sort.grow (redrawn w d) os) fun e w'' => e = .returned (.string t1) ∧ ∃ p : Regrown, w'' = Sort.grow (redrawn w p.d) p.os := fun d os =>
    Calls.regrown_of ((C1.out _).mono fun _ _ ⟨h, k⟩ => ⟨h, k ▸ Below.refl _ _⟩)
  have cI : ∀ d os, Calls Tryd.prog 44 #[.int .i64 p] (Sort.grow (redrawn w d) os) fun e w'' => e = .returned (.string t2) ∧ ∃ p : Regrown, w'' = Sort.grow (redrawn w p.d) p.os := fun d os =>
    Calls.regrown_of ((C2.out _ (ht.fr (Fr.of_below (below_regrown w d os)) (fun h => by have := ht.lt; have h' : w.heap.size ≤ 2 := h; omega))).mono fun _ _ ⟨h, k⟩ => ⟨h, k.below _ (Nat.le_refl _) (fun _ _ h => h)⟩)
  clear ht hk hp C1 C2 h0 h1 h2
  have s1 : ¬ 9223372036854775807 < t1.size + 4 := by omega
  have s2 : ¬ 9223372036854775807 < t1.size + 4 + what.size := by omega
  have s3 : ¬ 9223372036854775807 < t1.size + 4 + what.size + 4 := by omega
  have s4 : ¬ 9223372036854775807 < t1.size + 4 + what.size + 4 + t2.size := by omega
  clear z1 z2 hw
  unfold sIn sAt at *
  go_enter Tryd.func28, Tryd.ntmps28
  go_wp2
  refine wp_region_quiet_below (by kernel_rfl) (by kernel_rfl) ?_
  repeat (quiet_step (first | exact cE _ _ | exact cI _ _))
  refine wpQuiet_nil ?_
  intro _ hw'
  obtain ⟨⟨dq, osq⟩, hw''⟩ := hw'
  subst hw''
  go_wp2
  go_ret
  exact ⟨by rw [HT.out]; rfl, Fr.of_regrown w dq osq⟩
end Go.Proofs.YtacafjbbdklleaaDoor
