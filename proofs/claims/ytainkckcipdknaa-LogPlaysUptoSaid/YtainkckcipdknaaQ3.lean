/- LogPlays, walked. -/
import Derived.Test.YtainkckcipdknaaQ2
import Derived.Test.YtainkckcipdknaaQ1
import Derived.Test.YtainkckcipdknaaQw
import Derived.Test.YtainkckcipdknaaQi
namespace Go.Proofs.Ytainkckcipdknaa
open Go.RowKit

theorem step_any {w0 w : World} {g gr : Nat} {s : LG} {F G : Nat → Prop} {M : Nat} (q : Ac) (hp : PP w0 w g gr s s F G) (hs : Sm s M) (hM : M ≤ 4194304) (hq : q.ok) (hes : Es w0 q.A q.n q.ps (fun k => k < w0.heap.size)) :
    Calls Try.prog 13 #[.pointer (some ⟨g, 0, none⟩), .pointer (some ⟨gr, 0, none⟩), .agg #[.int .i64 q.op, .int .i64 q.ix, .bool q.own, .int .i64 q.tm, .bool q.know, .slice q.A q.n q.c]] w fun e w' => StepE w0 g gr (M + q.n) e w' := by
  by_cases h1 : q.op = 1
  · exact step_add q hp hs hM hq hes h1
  · by_cases h2 : q.op = 2
    · exact step_merge q hp hs hM hq hes h2
    · by_cases h3 : q.op = 3
      · exact step_comp q hp hs hM hq hes h3
      · by_cases h4 : q.op = 4
        · exact step_rest q hp hs hM hq hes h4
        · exact step_none q hp hs hM hq hes ⟨h1, h2, h3, h4⟩
theorem LG.get_all (s : LG) (h : s.ix + s.l.length ≤ 1125899906842623) : s.get 0 1125899906842624 = s.l := by
  unfold LG.get LG.lo
  rw [List.take_of_length_le (by omega), show ((0 : Int) - (s.ix : Int) - 1).toNat = 0 by omega, List.drop_zero]
/-- How many entries the first k acts have. -/
def enN (l : List Ac) (k : Nat) : Nat := ((l.take k).map Ac.n).sum
theorem enN_succ {l : List Ac} {k : Nat} (h : k < l.length) : enN l (k + 1) = enN l k + (l.getD k default).n := by
  unfold enN
  rw [List.take_add_one, List.map_append, List.sum_append]
  simp [List.getD, h]
theorem enN_le (l : List Ac) : ∀ k, enN l k ≤ asum l := by
  intro k
  unfold enN asum
  induction l generalizing k with
  | nil => simp
  | cons a r ih =>
    cases k with
    | zero => simp
    | succ k =>
      have := ih k
      simp only [List.take_succ_cons, List.map_cons, List.sum_cons]
      omega
end Go.Proofs.Ytainkckcipdknaa
