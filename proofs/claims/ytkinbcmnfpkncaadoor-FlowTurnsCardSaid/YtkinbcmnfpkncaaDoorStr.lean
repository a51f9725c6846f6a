/- Strings of bytes. -/
import Derived.Test.YtkinbcmnfpkncaaDoorMem
import Derived.Laws.BytesArg
import Derived.Lib.SlBytesConst
namespace Go.Proofs.YtkinbcmnfpkncaaDoor
open Go.RowKit

def strOf (xs : List UInt8) : ByteArray := ⟨xs.toArray⟩

theorem run_str8 {P : Program} {t e : TypeId} (hT : T8 P t e) (he : P.underlying e = some (.int .u8)) {s : TypeId} (hs : P.underlying s = some .string) {w : World} {A : Option Addr} {n : Nat} (c : Nat) {xs : List UInt8} (hr : Rd8 w A xs) (hn : xs.length = n) :
    (convert t s (.slice A n c)).run P w = .ok (.string (strOf xs)) w := by
  have e1 : strOfNums (xs.map fun b => (b.toNat : Int)) = strOf xs := by
    simp only [strOfNums, strOf, List.map_map]
    congr 1
    congr 1
    conv => rhs; rw [← List.map_id xs]
    refine List.map_congr_left fun b _ => ?_
    simp
  rcases A with _ | ad
  · have h0 : xs = [] := by
      rcases Nat.eq_zero_or_pos xs.length with h0 | h0
      · exact List.eq_nil_of_length_eq_zero h0
      · obtain ⟨ad, h, _⟩ := hr h0; cases h
    subst h0
    rw [run_convert_bytes_nil w t e hT.sl he n c s hs]
    rfl
  · by_cases h0 : 0 < xs.length
    · obtain ⟨ad', e, hsp, hc⟩ := hr h0
      injection e with e
      subst e
      obtain ⟨b, o, sp⟩ := ad
      cases hsp
      rw [run_convert_bytes_arg w t _ hT.sl he b o n c (xs.map fun b => (b.toNat : Int)) (by simpa using hn) (fun i hi => by
        rw [hc i (by omega)]
        simp [List.getD, show i < xs.length by omega]) s hs, e1]
    · have hx : xs = [] := List.eq_nil_of_length_eq_zero (by omega)
      subst hx
      simp at hn
      subst hn
      rw [run_convert_bytes_string w t s e _ 0 c hT.sl he hs, run_bytesToString w ad 0 c [] (by simp [loadCells, loadCellsFrom])]
      rfl

end Go.Proofs.YtkinbcmnfpkncaaDoor
