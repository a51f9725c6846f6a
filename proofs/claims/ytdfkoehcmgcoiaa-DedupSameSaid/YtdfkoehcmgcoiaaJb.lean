/- Tables of answers: how many they hold; windows of sums. -/
import Derived.Test.YtdfkoehcmgcoiaaJa
namespace Go.Proofs.Ytdfkoehcmgcoiaa

def sumL (f : Int → Nat) (l : List Int) : Nat := (l.map f).sum
theorem sumL_cons (f : Int → Nat) (a : Int) (l : List Int) : sumL f (a :: l) = f a + sumL f l := by simp [sumL]
theorem sumL_same {f f' : Int → Nat} : ∀ {l : List Int}, (∀ x ∈ l, f' x = f x) → sumL f' l = sumL f l
  | [], _ => rfl
  | a :: l, h => by rw [sumL_cons, sumL_cons, h a (by simp), sumL_same (fun x hx => h x (by simp [hx]))]
theorem sumL_one {f f' : Int → Nat} {c : Int} : ∀ {l : List Int}, l.Pairwise (· < ·) → c ∈ l → (∀ x, x ≠ c → f' x = f x) → sumL f' l + f c = sumL f l + f' c
  | [], _, h, _ => by simp at h
  | a :: l, hp, h, hf => by
    obtain ⟨p1, p2⟩ := List.pairwise_cons.1 hp
    rw [sumL_cons, sumL_cons]
    by_cases ha : a = c
    · subst ha
      rw [sumL_same (f := f) (f' := f') (fun x hx => hf x (fun e => by have := p1 x hx; omega))]
      omega
    · have := sumL_one p2 (by rcases List.mem_cons.1 h with e | e; exact absurd e.symm ha; exact e) hf
      rw [hf a ha]; omega
theorem sumL_append (f : Int → Nat) (a b : List Int) : sumL f (a ++ b) = sumL f a + sumL f b := by simp [sumL]
theorem sumL_ins (f : Int → Nat) (l : List Int) (c : Int) : sumL f (insS l c) = sumL f l + f c := by
  unfold insS
  rw [sumL_append, sumL_cons]
  have := congrArg (sumL f) (List.take_append_drop (posR l c) l)
  rw [sumL_append] at this
  omega
theorem sumL_le {f : Int → Nat} {k : Nat} : ∀ {l : List Int}, (∀ x ∈ l, f x ≤ k) → sumL f l ≤ l.length * k
  | [], _ => by simp [sumL]
  | a :: l, h => by
    have h1 := sumL_le (l := l) (fun x hx => h x (by simp [hx]))
    have h2 := h a (by simp)
    rw [sumL_cons, List.length_cons, Nat.add_mul]; omega
theorem le_sumL (f : Int → Nat) : ∀ {l : List Int} {x : Int}, x ∈ l → f x ≤ sumL f l
  | [], _, h => by simp at h
  | a :: l, x, h => by
    rw [sumL_cons]
    rcases List.mem_cons.1 h with rfl | h
    · omega
    · have := le_sumL f h; omega

namespace DT
variable {t : DT}
theorem n_eq : t.n = sumL (fun c => (t.row c).length) t.cs := rfl
theorem ok0.cs_len (h : t.ok0) : t.cs.length ≤ 1048577 := by
  have := rise_len (r := t.cs) (a := -1) (b := 1048576) h.csr (by omega) (fun x hx => by have := h.crng x hx; omega)
  omega
theorem ok.n_le (h : t.ok) : t.n ≤ 4294971392 := by
  have h1 := h.cs_len
  have h2 := sumL_le (l := t.cs) (f := fun c => (t.row c).length) (k := 4096) (fun x _ => by have := h.len x; have := h.w2; show (t.row x).length ≤ 4096; omega)
  rw [← n_eq] at h2
  have : t.cs.length * 4096 ≤ 1048577 * 4096 := Nat.mul_le_mul_right _ h1
  omega
theorem keep_n (h : t.ok0) {c s : Int} (a : List UInt8) : (t.keep c s a).n = t.n + 1 := by
  rw [n_eq, n_eq]
  have hcs : (t.keep c s a).cs = if c ∈ t.cs then t.cs else insS t.cs c := rfl
  have hne : ∀ x, x ≠ c → ((t.keep c s a).row x).length = (t.row x).length := fun x hx => by unfold DT.keep; simp [hx]
  have hc : ((t.keep c s a).row c).length = (t.row c).length + 1 := by unfold DT.keep; simp [ins_len]
  rw [hcs]
  by_cases hm : c ∈ t.cs
  · rw [if_pos hm]
    have := sumL_one (f := fun c => (t.row c).length) (f' := fun x => ((t.keep c s a).row x).length) h.csr hm hne
    simp only [hc] at this
    omega
  · rw [if_neg hm, sumL_ins]
    have h0 : t.row c = [] := by
      cases hr : t.row c with
      | nil => rfl
      | cons x r => exact absurd ((h.cl c).2 (by rw [hr]; simp)) hm
    have := sumL_same (l := t.cs) (f := fun c => (t.row c).length) (f' := fun x => ((t.keep c s a).row x).length) (fun x hx => hne x (fun e => hm (e ▸ hx)))
    rw [this]
    simp only [hc, h0, List.length_nil]
theorem keep_cs (h : t.ok0) {c s : Int} (a : List UInt8) : (t.keep c s a).cs.length = if t.row c = [] then t.cs.length + 1 else t.cs.length := by
  have hcs : (t.keep c s a).cs = if c ∈ t.cs then t.cs else insS t.cs c := rfl
  rw [hcs]
  by_cases hm : c ∈ t.cs
  · rw [if_pos hm, if_neg ((h.cl c).1 hm)]
  · rw [if_neg hm, if_pos, ins_len]
    cases hr : t.row c with
    | nil => rfl
    | cons x r => exact absurd ((h.cl c).2 (by rw [hr]; simp)) hm
/-- Some of the first ones of a client's row dropped. -/
def front (t : DT) (c : Int) (k : Nat) : DT := { t with row := fun x => if x = c then (t.row c).drop k else t.row x }
theorem forget_eq (t : DT) (c : Int) : t.forget c = t.front c (posR (t.row c) (t.least c)) := rfl
theorem front_n (h : t.ok0) {c : Int} {k : Nat} (hk : k ≤ (t.row c).length) : (t.front c k).n + k = t.n := by
  rw [n_eq, n_eq]
  have hcs : (t.front c k).cs = t.cs := rfl
  have hne : ∀ x, x ≠ c → ((t.front c k).row x).length = (t.row x).length := fun x hx => by unfold front; simp [hx]
  have hc : ((t.front c k).row c).length = (t.row c).length - k := by unfold front; simp
  rw [hcs]
  by_cases hm : c ∈ t.cs
  · have := sumL_one (f := fun c => (t.row c).length) (f' := fun x => ((t.front c k).row x).length) h.csr hm hne
    simp only [hc] at this
    omega
  · have h0 : t.row c = [] := by
      cases hr : t.row c with
      | nil => rfl
      | cons x r => exact absurd ((h.cl c).2 (by rw [hr]; simp)) hm
    rw [h0] at hk
    have : k = 0 := by simpa using hk
    subst this
    rw [sumL_same (l := t.cs) (f := fun c => (t.row c).length) (f' := fun x => ((t.front c 0).row x).length) (fun x hx => hne x (fun e => hm (e ▸ hx)))]
    rfl
end DT
end Go.Proofs.Ytdfkoehcmgcoiaa
