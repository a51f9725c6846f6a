/- The codec's writer, on: bytes.Clone, Bytes, Done. -/
import Derived.Test.YtdfkoehcmgcoiaaCa
namespace Go.Proofs.Ytdfkoehcmgcoiaa
open Go.RowKit

theorem foldN_nat (n : Nat) : foldN (n : Int) = 2 * n := by unfold foldN; rw [if_pos (by omega)]; omega

/-- A slice value that reads as xs, and lies apart from what S holds. -/
def Apart (S : Nat → Prop) (A : Option Addr) (n : Nat) : Prop := ∀ ad, A = some ad → 0 < n → ¬ S ad.block

set_option maxRecDepth 100000 in
set_option maxHeartbeats 1000000 in
theorem clone_any (A : Option Addr) (n c : Nat) (xs : List UInt8) (w : World) (hr : Rd8 w A xs) (hn : xs.length = n) (hb : n ≤ 140737488355328) :
    Calls Try.prog 20 #[.slice A n c] w fun e w' => ∃ A' c', e = .returned (.slice A' n c') ∧ Own8 w' 5 (.slice A' n c') xs ∧ Fresh w w' (.slice A' n c') := by
  rcases A with _ | ad
  · have h0 : xs = [] := by
      rcases Nat.eq_zero_or_pos xs.length with h0 | h0
      · exact List.eq_nil_of_length_eq_zero h0
      · obtain ⟨ad, h, _⟩ := hr h0; cases h
    subst h0
    simp at hn
    subst hn
    have hq := fun W => Lib.run_eql_slice_nil (P := Try.prog) W 30 5 none 0 c 0 0 Try.underlying30
    go_enter Try.func20, Try.ntmps20
    go_wp2
    go_ret
    exact ⟨none, 0, rfl, Own8.nil _ _, Fresh.nil _ _ (Fr.refl _ _)⟩
  · have hq := fun W => Lib.run_eql_slice_nil (P := Try.prog) W 30 5 (some ad) n c 0 0 Try.underlying30
    go_enter Try.func20, Try.ntmps20
    have hf0 : Fr (fun _ => False) w (w.alloc (.cells #[] 5)) := (Fr.refl _ _).alloc _
    go_wp2_with (at_builtin; (refine wpList_append8s _ rfl (.tmp 5) (.tmp 6) Try.t8 rfl _ [] rfl (Own8.fresh w _ #[] 0 rfl (by decide)) (some ad) n c xs rfl hn (hr.fr hf0 (fun _ _ _ h => h)) (by simp; omega) ?_; intro A1 c1 w1 ho1 hf1 hm1))
    go_ret
    simp only [List.length_nil, Nat.zero_add, List.nil_append, hn] at ho1 hm1 ⊢
    exact ⟨A1, c1, rfl, ho1, (Fresh.new w _ 0 0).step hf1 hm1⟩

set_option maxRecDepth 100000 in
set_option maxHeartbeats 1000000 in
theorem wDone_any (g : Nat) (v : Value) (bs : List UInt8) (w : World) (hw : Wr w g v bs) (hb : bs.length ≤ 140737488355328) :
    Calls Try.prog 28 #[.pointer (some ⟨g, 0, none⟩)] w fun e w' => ∃ A' c', e = .returned (.slice A' bs.length c') ∧ Own8 w' 5 (.slice A' bs.length c') bs ∧ Fresh w w' (.slice A' bs.length c') := by
  obtain ⟨A, c, rfl⟩ : ∃ A c, v = .slice A bs.length c := by
    rcases hw.2.form with ⟨rfl, rfl⟩ | ⟨g1, cap, rfl, _, _⟩
    · exact ⟨none, 0, rfl⟩
    · exact ⟨_, _, rfl⟩
  have hcell : w.cell? ⟨g, 0, none⟩ = some (.slice A bs.length c) := hw.1.cell 0
  have hfro : w.frozen? ⟨g, 0, none⟩ = false := hw.1.frozen 0
  go_enter Try.func28, Try.ntmps28
  go_wp2_with (go_at_call 20; refine (clone_any A _ c bs w hw.2.rd rfl hb).mono ?_; rintro e w' ⟨A', c', rfl, h1, h2⟩)
  go_ret
  exact ⟨A', c', rfl, h1, h2⟩

set_option maxRecDepth 100000 in
set_option maxHeartbeats 1000000 in
theorem wBytes_any (g : Nat) (v : Value) (bs : List UInt8) (A : Option Addr) (n c : Nat) (xs : List UInt8) (w : World) (hw : Wr w g v bs) (hb : bs.length ≤ 17592186044416) (hr : Rd8 w A xs) (hn : xs.length = n) (hnb : n ≤ 17592186044416)
    (hap : Apart (fun k => k = g ∨ v.ownBlock = some k) A n) :
    Calls Try.prog 27 #[.pointer (some ⟨g, 0, none⟩), .slice A n c] w fun e w' => e = .returned (.pointer (some ⟨g, 0, none⟩)) ∧ ∃ v', WrTo w g v w' v' (bs ++ (enc (2 * n) ++ xs)) := by
  have hcell : w.cell? ⟨g, 0, none⟩ = some v := hw.1.cell 0
  have hfro : w.frozen? ⟨g, 0, none⟩ = false := hw.1.frozen 0
  go_enter Try.func27, Try.ntmps27
  go_wp2_with (first
    | (go_at_call 24; refine (wInt_any g v n bs w (by omega) (by omega) hw (by omega)).mono ?_; rintro e w1 ⟨rfl, v1, h1⟩; rw [foldN_nat] at h1; clear hcell hfro; have hcell := h1.1.1.cell 0; have hfro := h1.1.1.frozen 0; simp at hcell)
    | (at_builtin; (refine wpList_append8s _ rfl (.tmp 13) (.tmp 14) Try.t8 rfl v1 _ rfl h1.1.2 A n c xs rfl hn (hr.fr h1.2.1 (by rw [hn]; exact hap)) (by have := enc_length10 (2 * n) (by omega); simp; omega) ?_; intro A2 c2 w2 ho2 hf2 hm2; clear hcell hfro; obtain ⟨hcell, hfro⟩ := wr_cell h1.1 hf2)))
  go_ret
  have h2 := h1.trans (wr_step h1.1 ho2 hf2 hm2)
  simp only [hn, List.append_assoc, List.length_append] at h2
  exact ⟨rfl, _, by simpa using h2⟩
end Go.Proofs.Ytdfkoehcmgcoiaa
