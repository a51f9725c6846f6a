/- A law's own table; what each law of dedup asks first. -/
import Derived.Test.YtdfkoehcmgcoiaaJl
import Derived.Test.YtdfkoehcmgcoiaaStr
namespace Go.Proofs.Ytdfkoehcmgcoiaa
open Go.RowKit Go.Maps

set_option maxRecDepth 100000 in
set_option maxHeartbeats 2000000 in
theorem len_any {g ba br : Nat} {F : Nat → Prop} {t : DT} {Da Dr : DV} {w : World} (h : TabM w g ba br F t Da Dr) :
    Calls Try.prog 16 #[.pointer (some ⟨g, 0, none⟩)] w fun e w' => e = .returned (.int .i64 (t.n : Nat)) ∧ w = w' := by
  have q1 : w.cell? ⟨g, 1, none⟩ = some (.map (some ba)) := h.blk.cell 1
  have hl : ∀ ty, (Builtin.len_ #[53] ty #[.map (some ba)]).run Try.prog w = .ok (.int .i64 (t.n : Nat)) w := fun ty => by
    have := World.ownsMap.len h.ma tKey ty
    rw [h.sa] at this
    exact this
  clear h
  go_enter Try.func16, Try.ntmps16
  go_wp2
  go_ret
  exact ⟨rfl, rfl⟩

abbrev BB : Nat := 140737488355328
theorem DT.small.put {t : DT} (h : t.small BB) (ok : t.ok) (c s : Int) {a : List UInt8} (ha : a.length ≤ BB) : (t.put c s a).small BB := by
  intro x y hy
  by_cases hk : t.kind c s = 0
  · by_cases hx : x = c
    · subst hx
      have hm := ((DT.put_mem ok a hk y).1 hy).1
      have e : (t.put x s a).ans x y = if y = s then a else t.ans x y := by
        unfold DT.put; rw [if_pos hk]; unfold DT.forget DT.keep; simp
      rw [e]
      split
      · exact ha
      · exact h x y (hm.resolve_left (by assumption))
    · rw [DT.put_ans_ne a hx]
      rw [DT.put_row_ne a hx] at hy
      exact h x y hy
  · have e : t.put c s a = t := by unfold DT.put; rw [if_neg hk]
    rw [e] at hy ⊢
    exact h x y hy

/-- A table of the law's own, whose first world was w. -/
structure RunT (w w1 : World) (g : Nat) (t : DT) (F : Nat → Prop) : Prop where
  fr : Fr (fun _ => False) w w1
  tb : Tab w1 g F t
  low : ∀ k, F k → w.heap.size ≤ k
  ok : t.ok
  sm : t.small BB
theorem RunT.lt {w w1 : World} {g : Nat} {t : DT} {F : Nat → Prop} (h : RunT w w1 g t F) {k : Nat} (hk : F k) : k < w1.heap.size := h.tb.lt hk
theorem RunT.on {w w1 w2 : World} {g : Nat} {t : DT} {F S : Nat → Prop} (h : RunT w w1 g t F) (hf : Fr S w1 w2) (hS : ∀ k, S k → w.heap.size ≤ k ∧ ¬ F k) : RunT w w2 g t F :=
  ⟨h.fr.trans hf (fun x hx e => by have := (hS x e).1; omega), h.tb.fr hf (fun k hk e => (hS k e).2 hk), h.low, h.ok, h.sm⟩
theorem RunT.on0 {w w1 w2 : World} {g : Nat} {t : DT} {F : Nat → Prop} (h : RunT w w1 g t F) (hf : Fr (fun _ => False) w1 w2) : RunT w w2 g t F := h.on hf (fun _ e => e.elim)
theorem RunT.putC {w w1 : World} {g : Nat} {t : DT} {F : Nat → Prop} (h : RunT w w1 g t F) {c s : Int} (hc : I64 c) (hs : I64 s) {A : Option Addr} {n cap : Nat} {a : List UInt8} (hr : Rd8 w1 A a) (hn : a.length = n) (hb : n ≤ BB) :
    Calls Try.prog 9 #[.pointer (some ⟨g, 0, none⟩), .int .i64 c, .int .i64 s, .slice A n cap] w1 fun e w' => e = .returned (.int .i64 (t.kind c s)) ∧ ∃ F', RunT w w' g (t.put c s a) F' ∧ Fr F w1 w' ∧ ∀ x, x < w1.heap.size → ¬ F x → ¬ F' x := by
  refine (put_any h.tb h.ok hc hs hr hn hb).mono ?_
  rintro e w' ⟨rfl, F', h1, h2, h3⟩
  refine ⟨rfl, F', ⟨h.fr.trans h2 (fun x hx e => by have := h.low x e; omega), h1, fun k hk => ?_, h.ok.put c s a, h.sm.put h.ok c s (by omega)⟩, h2, fun x hx hF hF' => ?_⟩
  · rcases h3 k hk with e | e
    · exact h.low k e
    · have := h.fr.size; omega
  · rcases h3 x hF' with e | e
    · exact hF e
    · omega
theorem RunT.lookC {w w1 : World} {g : Nat} {t : DT} {F : Nat → Prop} (h : RunT w w1 g t F) {c s : Int} (hc : I64 c) (hs : I64 s) :
    Calls Try.prog 10 #[.pointer (some ⟨g, 0, none⟩), .int .i64 c, .int .i64 s] w1 fun e w' => ∃ A' c', e = .returned (.tuple #[.int .i64 (t.kind c s), .slice A' (t.look c s).length c']) ∧ Own8 w' 5 (.slice A' (t.look c s).length c') (t.look c s) ∧ Fresh w1 w' (.slice A' (t.look c s).length c') ∧ RunT w w' g t F := by
  obtain ⟨ba, br, Da, Dr, hM⟩ := h.tb
  refine (look_any hM h.ok h.sm hc hs).mono ?_
  rintro e w' ⟨A', c', rfl, ho, hf⟩
  exact ⟨A', c', rfl, ho, hf, h.on0 hf.1⟩
theorem RunT.topC {w w1 : World} {g : Nat} {t : DT} {F : Nat → Prop} (h : RunT w w1 g t F) {c : Int} (hc : I64 c) :
    Calls Try.prog 11 #[.pointer (some ⟨g, 0, none⟩), .int .i64 c] w1 fun e w' => e = .returned (.int .i64 (t.top c)) ∧ w1 = w' := by
  obtain ⟨ba, br, Da, Dr, hM⟩ := h.tb
  exact top_any hM hc (by have := h.ok.len c; have := h.ok.w2; omega)
theorem RunT.lenC {w w1 : World} {g : Nat} {t : DT} {F : Nat → Prop} (h : RunT w w1 g t F) :
    Calls Try.prog 16 #[.pointer (some ⟨g, 0, none⟩)] w1 fun e w' => e = .returned (.int .i64 (t.n : Nat)) ∧ w1 = w' := by
  obtain ⟨ba, br, Da, Dr, hM⟩ := h.tb
  exact len_any hM
theorem RunT.made (win : Int) (w w0 : World) (hf : Fr (fun _ => False) w w0) (h1 : 1 ≤ win) (h2 : win ≤ 4096) :
    Calls Try.prog 8 #[.int .i64 win] w0 fun e w' => ∃ g F, e = .returned (.tuple #[.pointer (some ⟨g, 0, none⟩), .int .i64 0]) ∧ RunT w w' g (newT win) F ∧ ∀ k, F k → w0.heap.size ≤ k := by
  refine (newTable_yes win w0 h1 h2).mono ?_
  rintro e w' ⟨g, rfl, h3, h4⟩
  have := hf.size
  exact ⟨g, _, rfl, ⟨hf.trans h3 (fun _ _ h => h), h4, fun k hk => Nat.le_trans this hk.1, newT_ok h1 h2, fun c s h => by simp [newT] at h⟩, fun k hk => hk.1⟩

theorem rd8_lit (w : World) (b : UInt8) : Rd8 (w.alloc (.cells #[.int .u8 (b.toNat : Int)] 5 (1, 2))) (some ⟨w.heap.size, 0, none⟩) [b] := fun _ => by
  refine ⟨_, rfl, rfl, fun j hj => ?_⟩
  have : j = 0 := by simpa using hj
  subst this
  exact cell_of_row _ w.heap.size 0 #[.int .u8 (b.toNat : Int)] 5 (1, 2) (heap_alloc_new w _)
theorem conv_lit (w : World) (x : Value) : (convert 30 30 (.slice (some ⟨w.heap.size, 0, none⟩) 1 1)).run Try.prog (w.alloc (.cells #[x] 5)) = .ok (.slice (some ⟨w.heap.size, 0, none⟩) 1 1) (w.alloc (.cells #[x] 5 (1, 2))) :=
  Lib.run_convert_bytes_const (P := Try.prog) w 30 5 #[x] 1 1 Try.underlying30 Try.underlying5
theorem i1 : I64 1 := ⟨by omega, by omega⟩
theorem i5 : I64 5 := ⟨by omega, by omega⟩
theorem i7 : I64 7 := ⟨by omega, by omega⟩
def kt0 : DT := newT 2
def kt1 : DT := kt0.put 1 5 [120]
def kt2 : DT := kt1.put 1 5 [121]
def kt3 : DT := kt2.put 1 7 []
theorem kq0 : kt0.kind 1 5 = 0 := by decide +kernel
theorem kq1 : kt1.kind 1 5 = 1 := by decide +kernel
theorem kq2 : kt2.kind 1 5 = 1 ∧ kt2.look 1 5 = [120] ∧ kt2.kind 1 7 = 0 := by decide +kernel
theorem kq3 : kt3.kind 1 5 = 2 ∧ kt3.look 1 5 = [] ∧ kt3.n = 1 := by decide +kernel

set_option maxRecDepth 100000 in
set_option maxHeartbeats 4000000 in
theorem known_any (w : World) :
    Calls Try.prog 6 #[] w fun e w' => e = .returned (.bool true) ∧ Fr (fun _ => False) w w' := by
  have kc := conv_lit
  go_enter Try.func6, Try.ntmps6
  go_wp2_with fail
  refine (RunT.made 2 w w (Fr.refl _ _) (by omega) (by omega)).mono ?_; rintro e w1 ⟨g, F, rfl, h1, _⟩
  have H1 := Lib.hid (show RunT w w1 g kt0 F from h1)
  clear h1
  go_wp2_with fail
  have C1 := Lib.hid ((H1.out.on0 ((Fr.refl _ _).alloc (.cells #[.int .u8 120] 5 (1, 2)))).putC i1 i5 (cap := 1) (rd8_lit w1 120) rfl (by decide))
  rw [kq0] at C1
  clear H1
  refine C1.out.mono ?_; rintro e w2 ⟨rfl, F2, R2, _, _⟩
  have H2 := Lib.hid (show RunT w w2 g kt1 F2 from R2)
  clear C1 R2
  go_wp2_with fail
  have C2 := Lib.hid ((H2.out.on0 ((Fr.refl _ _).alloc (.cells #[.int .u8 121] 5 (1, 2)))).putC i1 i5 (cap := 1) (rd8_lit w2 121) rfl (by decide))
  rw [kq1] at C2
  clear H2
  refine C2.out.mono ?_; rintro e w3 ⟨rfl, F3, R3, _, _⟩
  have H3 := Lib.hid (show RunT w w3 g kt2 F3 from R3)
  clear C2 R3
  go_wp2_with fail
  have C3 := Lib.hid (H3.out.lookC i1 i5)
  rw [kq2.1, kq2.2.1] at C3
  refine C3.out.mono ?_; rintro e w4 ⟨A4, c4, rfl, ho4, hf4, R4⟩
  have H4 := Lib.hid R4
  have HO4 := Lib.hid ho4
  have HX4 : Hid (∀ k, (Value.slice A4 [(120 : UInt8)].length c4).ownBlock = some k → ¬ F3 k) := Lib.hid (fun k hk e => by have h1 := hf4.2 k hk; have h2 := H3.out.lt e; omega)
  clear C3 R4 ho4 hf4 H3
  go_wp2_with fail
  have C4 := Lib.hid (H4.out.putC i1 i7 (cap := 0) (Rd8.nil w4 none) rfl (by decide))
  rw [kq2.2.2] at C4
  refine C4.out.mono ?_; rintro e w5 ⟨rfl, F5, R5, hf5, hnF⟩
  have H5 := Lib.hid (show RunT w w5 g kt3 F5 from R5)
  have HO5 := Lib.hid (HO4.out.fr hf5 HX4.out)
  clear C4 R5 hf5 hnF HO4 HX4 H4
  go_wp2_with fail
  have C5 := Lib.hid (H5.out.lookC i1 i5)
  rw [kq3.1, kq3.2.1] at C5
  refine C5.out.mono ?_; rintro e w6 ⟨A6, c6, rfl, ho6, hf6, R6⟩
  have H6 := Lib.hid (show RunT w w6 g kt3 F5 from R6)
  have hst : (convert 30 9 (.slice A4 1 c4)).run Try.prog w6 = .ok (.string ⟨#[120]⟩) w6 := run_str8 (w := w6) Try.t8 Try.underlying5 Try.underlying9 c4 (HO5.out.fr hf6.1 (fun _ _ h => h)).rd rfl
  clear C5 R6 hf6 ho6 HO5 H5
  simp only [List.length_cons, List.length_nil, Nat.zero_add] at *
  have CL := Lib.hid H6.out.lenC
  rw [kq3.2.2] at CL
  go_wp2_with (go_at_call 16; refine CL.out.mono ?_; rintro e w7 ⟨rfl, rfl⟩)
  go_ret
  exact ⟨rfl, H6.out.fr⟩
end Go.Proofs.Ytdfkoehcmgcoiaa
