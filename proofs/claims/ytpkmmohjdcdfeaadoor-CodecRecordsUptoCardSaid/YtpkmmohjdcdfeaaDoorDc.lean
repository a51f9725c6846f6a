/- Items as bytes: what is written is read, and a front that is not whole is not. -/
import Derived.Test.YtpkmmohjdcdfeaaDoorDb
namespace Go.Proofs.YtpkmmohjdcdfeaaDoor

theorem toNat_ofNat' (n : Nat) (h : n < 256) : (UInt8.ofNat n).toNat = n := by rw [UInt8.toNat_ofNat']; exact Nat.mod_eq_of_lt h
theorem pow_lim {u i : Nat} (h : u * 128 ^ i < 18446744073709551616) (hu : 0 < i → 0 < u) : i ≤ 9 := by
  rcases Nat.lt_or_ge 9 i with h9 | h9
  · have h1 : 128 ^ 10 ≤ 128 ^ i := Nat.pow_le_pow_right (by omega) h9
    have h2 : 1 * 128 ^ i ≤ u * 128 ^ i := Nat.mul_le_mul_right _ (hu (by omega))
    omega
  · exact h9
theorem num_enc (u : Nat) : ∀ (f i acc : Nat) (r : List UInt8), f + i = 10 → u * 128 ^ i < 18446744073709551616 → (0 < i → 0 < u) →
    num f i acc (enc u ++ r) = .ok (acc + u * 128 ^ i) (i + (enc u).length) := by
  induction u using Nat.strongRecOn with
  | _ u ih =>
    intro f i acc r hf hu hp
    have hi := pow_lim hu hp
    obtain ⟨f, rfl⟩ : ∃ f', f = f' + 1 := ⟨f - 1, by omega⟩
    by_cases hlt : u < 128
    · rw [enc_lt u hlt]
      simp only [List.cons_append, List.nil_append, num, toNat_ofNat' u (by omega), List.length_cons, List.length_nil]
      rw [if_neg (by omega), if_neg]
      rintro (⟨h1, h2⟩ | ⟨rfl, h2⟩)
      · have := hp h1; omega
      · have : 2 * 128 ^ 9 ≤ u * 128 ^ 9 := Nat.mul_le_mul_right _ h2
        omega
    · have hge : 128 ≤ u := by omega
      rw [enc_ge u hge]
      simp only [List.cons_append, num, toNat_ofNat' (u % 128 + 128) (by omega), List.length_cons]
      rw [if_pos (by omega), show (u % 128 + 128) % 128 = u % 128 by omega]
      have hmul : u / 128 * 128 ^ (i + 1) + u % 128 * 128 ^ i = u * 128 ^ i := by
        rw [Nat.pow_succ, Nat.mul_comm (128 ^ i) 128, ← Nat.mul_assoc, ← Nat.add_mul]
        congr 1
        omega
      rw [ih (u / 128) (by omega) f (i + 1) _ r (by omega) (by omega) (fun _ => by omega)]
      congr 1 <;> omega
theorem num_front (u : Nat) : ∀ (f i acc j : Nat), f + i = 10 → u * 128 ^ i < 18446744073709551616 → (0 < i → 0 < u) → j < (enc u).length →
    num f i acc ((enc u).take j) = .bad 7 := by
  induction u using Nat.strongRecOn with
  | _ u ih =>
    intro f i acc j hf hu hp hj
    have hi := pow_lim hu hp
    obtain ⟨f, rfl⟩ : ∃ f', f = f' + 1 := ⟨f - 1, by omega⟩
    cases j with
    | zero => simp [num]
    | succ j =>
      by_cases hlt : u < 128
      · rw [enc_lt u hlt] at hj
        simp at hj
      · have hge : 128 ≤ u := by omega
        rw [enc_ge u hge] at hj ⊢
        simp only [List.length_cons] at hj
        simp only [List.take_succ_cons, num, toNat_ofNat' (u % 128 + 128) (by omega)]
        rw [if_pos (by omega)]
        have hmul : u / 128 * 128 ^ (i + 1) + u % 128 * 128 ^ i = u * 128 ^ i := by
          rw [Nat.pow_succ, Nat.mul_comm (128 ^ i) 128, ← Nat.mul_assoc, ← Nat.add_mul]
          congr 1
          omega
        exact ih (u / 128) (by omega) f (i + 1) _ j (by omega) (by omega) (fun _ => by omega) (by omega)

theorem rdNum_enc (u : Nat) (r : List UInt8) (h : u < 18446744073709551616) : rdNum (enc u ++ r) = .ok u (enc u).length := by
  unfold rdNum
  rw [num_enc u 10 0 0 r rfl (by simpa using h) (fun h => by omega)]
  simp
theorem rdNum_front (u j : Nat) (h : u < 18446744073709551616) (hj : j < (enc u).length) : rdNum ((enc u).take j) = .bad 7 := by
  unfold rdNum
  exact num_front u 10 0 0 j rfl (by simpa using h) (fun h => by omega) hj

def itEnc (x : It) : List UInt8 := if x.isB then enc (foldN x.bs.length) ++ x.bs else enc (foldN x.num)
def itsEnc (l : List It) : List UInt8 := l.flatMap itEnc
structure Fits (x : It) : Prop where
  lo : -9223372036854775808 ≤ x.num
  hi : x.num ≤ 9223372036854775807
  len : (x.bs.length : Int) ≤ 8192

theorem drop_at (p q : List UInt8) : (p ++ q).drop p.length = q := by simp
theorem stepI_whole (x : It) (hx : Fits x) (p r : List UInt8) (ok : Bool) : stepI (p ++ (itEnc x ++ r)) (ok, .at_ p.length) x = (ok, .at_ (p ++ itEnc x).length) := by
  cases hb : x.isB
  · have he : itEnc x = enc (foldN x.num) := by simp [itEnc, hb]
    have hs : stInt (p ++ (itEnc x ++ r)) sN (.at_ p.length) = (x.num, .at_ (p ++ itEnc x).length) := by
      unfold stInt
      simp only [drop_at]
      rw [he, rdNum_enc _ _ (foldN_lt _ hx.lo hx.hi)]
      simp [unfN_foldN]
    simp [stepI, hb, hs]
  · have he : itEnc x = enc (foldN x.bs.length) ++ x.bs := by simp [itEnc, hb]
    have hl := hx.len
    have hr : srRun (p ++ (itEnc x ++ r)) p.length 8192 = (.ok (p ++ itEnc x).length, x.bs) := by
      unfold srRun
      simp only [drop_at]
      rw [he, List.append_assoc, rdNum_enc _ _ (foldN_lt _ (by omega) (by omega))]
      simp only [unfN_foldN]
      rw [if_neg (by omega), if_neg (by omega), if_neg (by simp only [List.length_append]; omega)]
      rw [← List.append_assoc p, show p.length + (enc (foldN x.bs.length)).length = (p ++ enc (foldN x.bs.length)).length by simp, drop_at]
      simp
      omega
    have hs : stBytes (p ++ (itEnc x ++ r)) sB 8192 (.at_ p.length) = (x.bs, .at_ (p ++ itEnc x).length) := by
      unfold stBytes
      simp only [hr]
    simp [stepI, hb, hs]
theorem stepI_front (x : It) (hx : Fits x) (p : List UInt8) (j : Nat) (hj : j < (itEnc x).length) (ok : Bool) :
    ∃ ok' er a wh, stepI (p ++ (itEnc x).take j) (ok, .at_ p.length) x = (ok', .bad er a wh) := by
  cases hb : x.isB
  · have he : itEnc x = enc (foldN x.num) := by simp [itEnc, hb]
    rw [he] at hj
    have hs : stInt (p ++ (itEnc x).take j) sN (.at_ p.length) = (0, .bad 7 p.length sN) := by
      unfold stInt
      simp only [drop_at]
      rw [he, rdNum_front _ _ (foldN_lt _ hx.lo hx.hi) hj]
    exact ⟨(0 == x.num) && ok, 7, p.length, sN, by simp only [stepI, hb, hs, Bool.false_eq_true, if_false]⟩
  · have he : itEnc x = enc (foldN x.bs.length) ++ x.bs := by simp [itEnc, hb]
    have hl := hx.len
    rw [he, List.length_append] at hj
    have hr : (srRun (p ++ (itEnc x).take j) p.length 8192).1 = .bad 7 := by
      unfold srRun
      simp only [drop_at]
      rw [he]
      rcases Nat.lt_or_ge j (enc (foldN x.bs.length)).length with h1 | h1
      · rw [List.take_append_of_le_length (by omega), rdNum_front _ _ (foldN_lt _ (by omega) (by omega)) h1]
      · rw [List.take_append, List.take_of_length_le h1, rdNum_enc _ _ (foldN_lt _ (by omega) (by omega))]
        simp only [unfN_foldN]
        rw [if_neg (by omega), if_neg (by omega), if_pos (by simp only [List.length_append, List.length_take]; omega)]
    have hs : ∃ bs, stBytes (p ++ (itEnc x).take j) sB 8192 (.at_ p.length) = (bs, .bad 7 p.length sB) := by
      unfold stBytes
      simp only [hr]
      exact ⟨_, rfl⟩
    obtain ⟨bs, hs⟩ := hs
    exact ⟨(bs == x.bs) && ok, 7, p.length, sB, by simp only [stepI, hb, hs, if_true]⟩
theorem goI_bad (xs : List UInt8) : ∀ (l : List It) (ok : Bool) (er a : Int) (wh : ByteArray), ∃ ok' , l.foldl (stepI xs) (ok, .bad er a wh) = (ok', .bad er a wh)
  | [], ok, er, a, wh => ⟨ok, rfl⟩
  | x :: l, ok, er, a, wh => by
    have : ∃ ok1, stepI xs (ok, .bad er a wh) x = (ok1, .bad er a wh) := by
      unfold stepI
      split <;> exact ⟨_, rfl⟩
    obtain ⟨ok1, h1⟩ := this
    rw [List.foldl_cons, h1]
    exact goI_bad xs l ok1 er a wh
theorem itsEnc_cons (x : It) (l : List It) : itsEnc (x :: l) = itEnc x ++ itsEnc l := by simp [itsEnc]
theorem fold_whole : ∀ (l : List It) (p : List UInt8) (ok : Bool), (∀ x ∈ l, Fits x) → l.foldl (stepI (p ++ itsEnc l)) (ok, .at_ p.length) = (ok, .at_ (p ++ itsEnc l).length)
  | [], p, ok, _ => by simp [itsEnc]
  | x :: l, p, ok, h => by
    rw [List.foldl_cons, itsEnc_cons, stepI_whole x (h x (List.mem_cons_self ..)) p _ ok, ← List.append_assoc]
    exact fold_whole l (p ++ itEnc x) ok (fun y hy => h y (List.mem_cons_of_mem _ hy))
theorem fold_front : ∀ (l : List It) (p : List UInt8) (ok : Bool) (j : Nat), (∀ x ∈ l, Fits x) → j < (itsEnc l).length →
    ∃ ok' er a wh, l.foldl (stepI (p ++ (itsEnc l).take j)) (ok, .at_ p.length) = (ok', .bad er a wh)
  | [], p, ok, j, _, hj => by simp [itsEnc] at hj
  | x :: l, p, ok, j, h, hj => by
    rw [itsEnc_cons, List.length_append] at hj
    rw [List.foldl_cons, itsEnc_cons]
    rcases Nat.lt_or_ge j (itEnc x).length with h1 | h1
    · rw [List.take_append_of_le_length (by omega)]
      obtain ⟨ok', er, a, wh, e⟩ := stepI_front x (h x (List.mem_cons_self ..)) p j h1 ok
      rw [e]
      obtain ⟨ok2, e2⟩ := goI_bad (p ++ (itEnc x).take j) l ok' er a wh
      exact ⟨ok2, er, a, wh, e2⟩
    · rw [List.take_append, List.take_of_length_le h1, stepI_whole x (h x (List.mem_cons_self ..)) p _ ok, ← List.append_assoc]
      exact fold_front l (p ++ itEnc x) ok (j - (itEnc x).length) (fun y hy => h y (List.mem_cons_of_mem _ hy)) (by omega)
theorem whole_yes (l : List It) (h : ∀ x ∈ l, Fits x) : wholeOf (itsEnc l) l = true := by
  have := fold_whole l [] true h
  simp only [List.nil_append, List.length_nil] at this
  unfold wholeOf goI
  rw [this]
  simp [stEnd]
theorem whole_no (l : List It) (h : ∀ x ∈ l, Fits x) (j : Nat) (hj : j < (itsEnc l).length) : wholeOf ((itsEnc l).take j) l = false := by
  obtain ⟨ok', er, a, wh, e⟩ := fold_front l [] true j h hj
  simp only [List.nil_append, List.length_nil] at e
  unfold wholeOf goI
  rw [e]
  simp [stEnd]
theorem itEnc_le (x : It) (h0 : -9223372036854775808 ≤ x.num) (h1 : x.num ≤ 9223372036854775807) (h2 : (x.bs.length : Int) ≤ 140737488355328) : (itEnc x).length ≤ x.bs.length + 10 := by
  unfold itEnc
  split
  · have := enc_length10 (foldN x.bs.length) (foldN_lt _ (by omega) (by omega))
    rw [List.length_append]
    omega
  · have := enc_length10 (foldN x.num) (foldN_lt _ h0 h1)
    omega
end Go.Proofs.YtpkmmohjdcdfeaaDoor
