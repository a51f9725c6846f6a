/- The law's few with acts, whatever it says; the acts in memory. -/
import Derived.Test.YtainkckcipdknaaRowA
import Derived.Test.YtainkckcipdknaaQz
namespace Go.Proofs.Ytainkckcipdknaa
open Go.RowKit

theorem Acs.fr0 {w w' : World} {B : Nat} {A : Option Addr} {l : List Ac} (h : Acs w B A l) (hf : Fr (fun _ => False) w w') : Acs w' B A l := fun h0 => by
  obtain ⟨b, o, e, hc⟩ := h h0
  refine ⟨b, o, e, fun i hi => ?_⟩
  obtain ⟨h1, h2, h3, h4⟩ := hc i hi
  refine ⟨fun j hj => ?_, h2, h3.fr0 hf, h4⟩
  have h9 := h1 j hj
  have hlt : j < ((l.getD i default).cells).length := by unfold Ac.cells; simpa using hj
  rw [← h9]
  rw [List.getElem?_eq_getElem hlt] at h9
  exact hf.cell (p := ⟨b, o + i * 6 + j, none⟩) (World.block_lt_of_cell? w _ h9) (fun h => h)
theorem Acs.at {w : World} {B : Nat} {A : Option Addr} {l : List Ac} (h : Acs w B A l) {i : Nat} (hi : i < l.length) : ∃ b o, A = some ⟨b, o, none⟩ ∧ AcAt w B b (o + i * 6) (l.getD i default) := by
  obtain ⟨b, o, e, hc⟩ := h (by omega)
  exact ⟨b, o, e, hc i hi⟩

set_option maxRecDepth 100000 in
set_option maxHeartbeats 4000000 in
theorem few_qa (A : Option Addr) (n c : Nat) (ps : List EL) (G : Nat → Prop) (A3 : Option Addr) (n3 c3 B : Nat) (l : List Ac) (w : World) (h : Es w A n ps G) (hn : n ≤ 5000000000000) (hl : Acs w B A3 l) (hl3 : l.length = n3) (hn3 : n3 ≤ 1048576) :
    Calls Try.prog 9 #[.slice A n c, .slice A3 n3 c3] w fun e w' => ∃ q, e = .returned (.bool q) ∧ w = w' := by
  have HES := Lib.hid h
  have HAC := Lib.hid hl
  have HL3 := Lib.hid hl3
  have hnI : (n : Int) ≤ 5000000000000 := by omega
  have hn3I : (n3 : Int) ≤ 1048576 := by omega
  clear h hn hl hl3 hn3
  go_enter Try.func9, Try.ntmps9
  go_wp2_with fail
  go_loopw [6, 5] (fun u v wr => ∃ (k : Nat) (z : Int), u = .int .i64 (k : Int) ∧ v = .int .i64 z ∧ k ≤ n ∧ w = wr) (fun u _ _ => n - (intOf u).toNat)
  case atStart => exact ⟨0, _, rfl, rfl, Nat.zero_le _, rfl⟩
  case round =>
    obtain ⟨k, z, rfl, rfl, hk, rfl⟩ := hrel
    have hk0 : (0 : Int) ≤ (k : Int) := by omega
    by_cases hlt : k < n
    · have hlt' : (k : Int) < n := by omega
      obtain ⟨b, off, rfl, e0, e1, he⟩ := HES.out.at hlt
      unfold EL.bv at e1
      generalize (ps.getD k default).e.d.length = m at *
      generalize (ps.getD k default).A = A2 at *
      generalize (ps.getD k default).c = c2 at *
      clear he e0
      go_wp2
      refine ⟨⟨k + 1, _, by simp, rfl, by omega, trivial⟩, ?_⟩
      first | omega | (show _ < _; simp [intOf]; omega)
    · obtain rfl : k = n := by omega
      go_wp2_with fail
      go_loopw [7, 5] (fun u v wr => ∃ (i : Nat) (y : Int), u = .int .i64 (i : Int) ∧ v = .int .i64 y ∧ i ≤ n3 ∧ w = wr) (fun u _ _ => n3 - (intOf u).toNat)
      case atStart => exact ⟨0, _, rfl, rfl, Nat.zero_le _, rfl⟩
      case round =>
        obtain ⟨i, y, rfl, rfl, hi, rfl⟩ := hrel
        have hi0 : (0 : Int) ≤ (i : Int) := by omega
        by_cases hil : i < n3
        · have hilI : (i : Int) < (n3 : Int) := by omega
          obtain ⟨b, o, rfl, hat⟩ := HAC.out.at (i := i) (by rw [HL3.out]; exact hil)
          have c5 : w.cell? ⟨b, o + i * 6 + 5, none⟩ = some (.slice (l.getD i default).A (l.getD i default).n (l.getD i default).c) := hat.cs 5 (by omega)
          have HE := Lib.hid hat.es
          have hnb : ((l.getD i default).n : Int) ≤ 1048576 := by have := hat.ok.n1; omega
          generalize (l.getD i default).A = A4 at *
          generalize (l.getD i default).n = n4 at *
          generalize (l.getD i default).c = c4 at *
          generalize (l.getD i default).ps = ps4 at *
          clear hat
          go_wp2_with fail
          go_loopw [8, 5] (fun u v wr => ∃ (j : Nat) (x : Int), u = .int .i64 (j : Int) ∧ v = .int .i64 x ∧ j ≤ n4 ∧ w = wr) (fun u _ _ => n4 - (intOf u).toNat)
          case atStart => exact ⟨0, _, rfl, rfl, Nat.zero_le _, rfl⟩
          case round =>
            obtain ⟨j, x, rfl, rfl, hj, rfl⟩ := hrel
            have hj0 : (0 : Int) ≤ (j : Int) := by omega
            by_cases hjl : j < n4
            · have hjlI : (j : Int) < (n4 : Int) := by omega
              obtain ⟨b4, off4, rfl, e0, e1, he⟩ := HE.out.at hjl
              unfold EL.bv at e1
              generalize (ps4.getD j default).e.d.length = m at *
              generalize (ps4.getD j default).A = A2 at *
              generalize (ps4.getD j default).c = c2 at *
              clear he e0
              go_wp2
              refine ⟨⟨j + 1, _, by simp, rfl, by omega, trivial⟩, ?_⟩
              first | omega | (show _ < _; simp [intOf]; omega)
            · obtain rfl : j = n4 := by omega
              go_wp2
              refine ⟨⟨i + 1, _, by simp, rfl, by omega, trivial⟩, ?_⟩
              first | omega | (show _ < _; simp [intOf]; omega)
        · obtain rfl : i = n3 := by omega
          by_cases h150 : (i : Int) ≤ 150
          · by_cases hz : y ≤ 8192
            · go_wp2
              go_ret
              first | exact ⟨_, rfl, rfl⟩ | exact ⟨.inl rfl, rfl⟩ | exact ⟨.inr rfl, rfl⟩
            · have d0 : decide (y ≤ 8192) = false := decide_eq_false hz
              go_wp2
              go_ret
              first | exact ⟨_, rfl, rfl⟩ | exact ⟨.inl rfl, rfl⟩ | exact ⟨.inr rfl, rfl⟩
          · have d0 : decide ((i : Int) ≤ 150) = false := decide_eq_false h150
            go_wp2
            go_ret
            first | exact ⟨_, rfl, rfl⟩ | exact ⟨.inl rfl, rfl⟩ | exact ⟨.inr rfl, rfl⟩
end Go.Proofs.Ytainkckcipdknaa
