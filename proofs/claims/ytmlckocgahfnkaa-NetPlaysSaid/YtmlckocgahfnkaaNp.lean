/- The net's calls, whatever comes: what each answers, and the net behind it. -/
import Derived.Test.YtmlckocgahfnkaaNo
namespace Go.Proofs.Ytmlckocgahfnkaa
open Go.RowKit

theorem NtTo.same {w : World} {g : Nat} {s : NS} {F : Nat → Prop} (h : Nt w g s F) {w' : World} (hf : Fr (fun _ => False) w w') : NtTo w g F w' s := ⟨F, h.fr0 hf, hf.mono (fun _ _ h => h.elim), fun _ hk => .inl hk⟩
theorem Nt.into {w w' : World} {g : Nat} {s' : NS} {F : Nat → Prop} {m m' : NL} (hF : ∀ k, NB g m k → F k) (h : NetM w' g s' m') (hf : Fr (NW g m) w w') (hB : ∀ k, NB g m' k → NB g m k ∨ w.heap.size ≤ k) : NtTo w g F w' s' :=
  h.to (fun k hk => (hB k hk).imp (hF k) id) (hf.mono (fun k _ e => hF k (.inl e)))

theorem Nt.send {w : World} {g : Nat} {s : NS} {F : Nat → Prop} (h : Nt w g s F) (hs : (s.sent : Int) ≤ 4611686018427387904) (hq : s.l.length ≤ 1048576) (fr tw : Int) (A : Option Addr) (n c : Nat) (bs : List UInt8) (hr : Rd8 w A bs) (hn : bs.length = n) :
    Calls Try.prog 17 #[.pointer (some ⟨g, 0, none⟩), .int .i64 fr, .int .i64 tw, .slice A n c] w fun e w' => e = .returned (.int .i64 (s.err fr tw bs)) ∧ NtTo w g F w' (s.send fr tw bs) := by
  have h0 := h
  obtain ⟨m, hm, hF, hlt⟩ := h
  by_cases he : s.err fr tw bs = 0
  · rw [he]
    by_cases hj : s.joins fr tw = true
    · refine (send_go g s m fr tw A n c bs w hm hn hr he hj hs hq).mono ?_
      rintro e w' ⟨rfl, m', h1, h2, h3⟩
      exact ⟨rfl, Nt.into hF h1 h2 h3⟩
    · refine (send_cut g s m fr tw A n c bs w hm hn hr he (by simpa using hj) hs hq).mono ?_
      rintro e w' ⟨rfl, h1, h2⟩
      exact ⟨rfl, Nt.into hF h1 h2 (fun k hk => .inl hk)⟩
  · refine (send_bad g s m fr tw A n c bs w hm hn he).mono ?_
    rintro e w' ⟨rfl, rfl⟩
    refine ⟨rfl, ?_⟩
    rw [show s.send fr tw bs = s from if_neg he]
    exact NtTo.same h0 (Fr.refl _ _)
def NS.cutR (s : NS) (a b : Int) : Int := if s.cutErr a b then 1 else 0
def NS.cutS (s : NS) (a b : Int) : NS := if s.cutErr a b then s else s.cut a b
theorem Nt.cut {w : World} {g : Nat} {s : NS} {F : Nat → Prop} (h : Nt w g s F) (hq : s.l.length ≤ 1048576) (a b : Int) :
    Calls Try.prog 16 #[.pointer (some ⟨g, 0, none⟩), .int .i64 a, .int .i64 b] w fun e w' => e = .returned (.int .i64 (s.cutR a b)) ∧ NtTo w g F w' (s.cutS a b) := by
  have h0 := h
  obtain ⟨m, hm, hF, hlt⟩ := h
  by_cases he : s.cutErr a b = true
  · rw [show s.cutR a b = 1 from if_pos he, show s.cutS a b = s from if_pos he]
    refine (cut_bad g s m a b w hm he).mono ?_
    rintro e w' ⟨rfl, rfl⟩
    exact ⟨rfl, NtTo.same h0 (Fr.refl _ _)⟩
  · rw [show s.cutR a b = 0 from if_neg he, show s.cutS a b = s.cut a b from if_neg he]
    refine (cut_any g s m a b w hm hq (by simpa using he)).mono ?_
    rintro e w' ⟨rfl, m', h1, h2, h3⟩
    exact ⟨rfl, Nt.into hF h1 h2 (fun k hk => .inl (h3 k hk))⟩
def NS.wR (s : NS) (a : Int) : Int := if s.waits a then 0 else 2
def NS.againS (s : NS) (a : Int) : NS := if s.waits a then s.again a.toNat else s
def NS.dropS (s : NS) (a : Int) : NS := if s.waits a then s.drop a.toNat else s
theorem NS.waits_nat {s : NS} {a : Int} (h : s.waits a = true) : ∃ i : Nat, a = i ∧ i < s.l.length := by
  unfold NS.waits at h
  simp at h
  exact ⟨a.toNat, by omega, by omega⟩
theorem Nt.again {w : World} {g : Nat} {s : NS} {F : Nat → Prop} (h : Nt w g s F) (hq : s.l.length < 4096) (a : Int) :
    Calls Try.prog 19 #[.pointer (some ⟨g, 0, none⟩), .int .i64 a] w fun e w' => e = .returned (.int .i64 (s.wR a)) ∧ NtTo w g F w' (s.againS a) := by
  have h0 := h
  obtain ⟨m, hm, hF, hlt⟩ := h
  by_cases he : s.waits a = true
  · rw [show s.wR a = 0 from if_pos he, show s.againS a = s.again a.toNat from if_pos he]
    obtain ⟨i, rfl, hi⟩ := NS.waits_nat he
    rw [Int.toNat_natCast]
    refine (again_any g i s m w hm hi hq).mono ?_
    rintro e w' ⟨rfl, m', h1, h2, h3⟩
    exact ⟨rfl, Nt.into hF h1 h2 h3⟩
  · rw [show s.wR a = 2 from if_neg he, show s.againS a = s from if_neg he]
    refine (again_none g s m a w hm (by simpa using he)).mono ?_
    rintro e w' ⟨rfl, rfl⟩
    exact ⟨rfl, NtTo.same h0 (Fr.refl _ _)⟩
theorem Nt.drop {w : World} {g : Nat} {s : NS} {F : Nat → Prop} (h : Nt w g s F) (hq : s.l.length ≤ 1048576) (a : Int) :
    Calls Try.prog 23 #[.pointer (some ⟨g, 0, none⟩), .int .i64 a] w fun e w' => e = .returned (.int .i64 (s.wR a)) ∧ NtTo w g F w' (s.dropS a) := by
  have h0 := h
  obtain ⟨m, hm, hF, hlt⟩ := h
  by_cases he : s.waits a = true
  · rw [show s.wR a = 0 from if_pos he, show s.dropS a = s.drop a.toNat from if_pos he]
    obtain ⟨i, rfl, hi⟩ := NS.waits_nat he
    rw [Int.toNat_natCast]
    refine (drop_any g i s m w hm hi hq).mono ?_
    rintro e w' ⟨rfl, m', h1, h2, h3⟩
    exact ⟨rfl, Nt.into hF h1 h2 (fun k hk => .inl (h3 k hk))⟩
  · rw [show s.wR a = 2 from if_neg he, show s.dropS a = s from if_neg he]
    refine (drop_none g s m a w hm (by simpa using he)).mono ?_
    rintro e w' ⟨rfl, rfl⟩
    exact ⟨rfl, NtTo.same h0 (Fr.refl _ _)⟩
/-- The packet that Take tells: none is all zero. -/
def NS.takeK (s : NS) (a : Int) : Pk := if s.waits a then s.l.getD a.toNat default else ⟨0, 0, 0, []⟩
theorem Nt.take {w : World} {g : Nat} {s : NS} {F : Nat → Prop} (h : Nt w g s F) (hq : s.l.length ≤ 1048576) (a : Int) :
    Calls Try.prog 20 #[.pointer (some ⟨g, 0, none⟩), .int .i64 a] w fun e w' => ∃ k : KP, e = .returned (.tuple #[.agg #[.int .i64 k.pk.fr, .int .i64 k.pk.to, .int .i64 (k.pk.n : Int), .slice k.A k.pk.bs.length k.c], .int .i64 (s.wR a)]) ∧ k.pk = s.takeK a ∧
      Own8 w' 5 k.sl k.pk.bs ∧ (∀ x, k.sl.ownBlock = some x → w.heap.size ≤ x) ∧ ∃ F', (Nt w' g (s.dropS a) F' ∧ Fr F w w' ∧ ∀ x, F' x → F x ∨ w.heap.size ≤ x) ∧ ∀ x, k.sl.ownBlock = some x → ¬ F' x := by
  have h0 := h
  obtain ⟨m, hm, hF, hlt⟩ := h
  by_cases he : s.waits a = true
  · rw [show s.wR a = 0 from if_pos he, show s.dropS a = s.drop a.toNat from if_pos he, show s.takeK a = s.l.getD a.toNat default from if_pos he]
    obtain ⟨i, rfl, hi⟩ := NS.waits_nat he
    rw [Int.toNat_natCast]
    refine (take_any g i s m w hm hi hq).mono ?_
    rintro e w' ⟨k, m', rfl, hk, h1, h2, h3, h4, h5⟩
    refine ⟨k, rfl, hk, h1, h2, NB g m', ⟨⟨m', h3, fun _ hk => hk, fun _ hk => h3.lt hk⟩, h4.mono (fun k _ e => hF k (.inl e)), fun x hx => .inl (hF x (h5 x hx))⟩, fun x hx hB => ?_⟩
    have := h2 x hx
    have := hlt x (hF x (h5 x hB))
    omega
  · rw [show s.wR a = 2 from if_neg he, show s.dropS a = s from if_neg he, show s.takeK a = ⟨0, 0, 0, []⟩ from if_neg he]
    refine (take_none g s m a w hm (by simpa using he)).mono ?_
    rintro e w' ⟨rfl, h1⟩
    exact ⟨⟨⟨0, 0, 0, []⟩, none, 0⟩, rfl, rfl, Own8.nil _ _, fun x hx => by simp [KP.sl, Value.ownBlock] at hx, F, ⟨h0.fr0 h1, h1.mono (fun _ _ h => h.elim), fun _ hk => .inl hk⟩, fun x hx => by simp [KP.sl, Value.ownBlock] at hx⟩
theorem Nt.clear {w : World} {g : Nat} {s : NS} {F : Nat → Prop} (h : Nt w g s F) (hq : s.l.length ≤ 1048576) (k : Int) :
    Calls Try.prog 18 #[.pointer (some ⟨g, 0, none⟩), .int .i64 k] w fun e w' => e = .returned (.int .i64 ((s.l.length : Int) - ((s.clear k).l.length : Int))) ∧ NtTo w g F w' (s.clear k) := by
  obtain ⟨m, hm, hF, hlt⟩ := h
  refine (clear_any g s m k w hm hq).mono ?_
  rintro e w' ⟨m', rfl, h1, h2, h3⟩
  exact ⟨rfl, Nt.into hF h1 h2 (fun k hk => .inl (h3 k hk))⟩
theorem Nt.heal {w : World} {g : Nat} {s : NS} {F : Nat → Prop} (h : Nt w g s F) :
    Calls Try.prog 26 #[.pointer (some ⟨g, 0, none⟩)] w fun e w' => e = .returned (.tuple #[]) ∧ NtTo w g F w' s.heal := by
  obtain ⟨m, hm, hF, hlt⟩ := h
  refine (heal_any g s m w hm).mono ?_
  rintro e w' ⟨rfl, h1, h2⟩
  exact ⟨rfl, Nt.into hF h1 h2 (fun k hk => .inl hk)⟩
def NS.openB (s : NS) (a b : Int) : Bool := s.is a && s.is b && s.joins a b
theorem Nt.open {w : World} {g : Nat} {s : NS} {F : Nat → Prop} (h : Nt w g s F) (a b : Int) :
    Calls Try.prog 14 #[.pointer (some ⟨g, 0, none⟩), .int .i64 a, .int .i64 b] w fun e w' => e = .returned (.bool (s.openB a b)) ∧ Fr (fun _ => False) w w' := by
  obtain ⟨m, hm, hF, hlt⟩ := h
  exact open_any g s m a b w hm
theorem Nt.wait {w : World} {g : Nat} {s : NS} {F : Nat → Prop} (h : Nt w g s F) (hq : s.l.length ≤ 1048576) :
    Calls Try.prog 13 #[.pointer (some ⟨g, 0, none⟩)] w fun e w' => ∃ v ks, e = .returned v ∧ Told w w' v ks ∧ ks.map KP.pk = s.l ∧ Fr (fun _ => False) w w' := by
  obtain ⟨m, hm, hF, hlt⟩ := h
  exact wait_any g s m w hm hq

/-- From world w on a net was made and used; nothing that was there has turned. -/
structure RunN (w wi : World) (g : Nat) (s : NS) (F : Nat → Prop) : Prop where
  nt : Nt wi g s F
  low : ∀ k, F k → w.heap.size ≤ k
  fr : Fr (fun _ => False) w wi
theorem RunN.step {w w1 w2 : World} {g : Nat} {s s' : NS} {F : Nat → Prop} (h : RunN w w1 g s F) (k : NtTo w1 g F w2 s') : ∃ F', RunN w w2 g s' F' ∧ Fr F w1 w2 ∧ ∀ x, x < w1.heap.size → ¬ F x → ¬ F' x := by
  obtain ⟨F', h1, h2, h3⟩ := k
  refine ⟨F', ⟨h1, fun k hk => ?_, h.fr.trans h2 (fun x hx hF => ?_)⟩, h2, fun x hx hF hF' => ?_⟩
  · rcases h3 k hk with h4 | h4
    · exact h.low k h4
    · have := h.fr.size; omega
  · have := h.low x hF; omega
  · rcases h3 x hF' with h4 | h4
    · exact hF h4
    · omega
theorem RunN.on {w w1 w2 : World} {g : Nat} {s : NS} {F S : Nat → Prop} (h : RunN w w1 g s F) (hf : Fr S w1 w2) (hS : ∀ k, F k → ¬ S k) (hB : ∀ k, S k → w.heap.size ≤ k) : RunN w w2 g s F :=
  ⟨h.nt.fr hf hS, h.low, h.fr.trans hf (fun x hx hs => by have := hB x hs; omega)⟩
theorem RunN.on0 {w w1 w2 : World} {g : Nat} {s : NS} {F : Nat → Prop} (h : RunN w w1 g s F) (hf : Fr (fun _ => False) w1 w2) : RunN w w2 g s F := h.on hf (fun _ _ h => h) (fun _ h => h.elim)
theorem RunN.lt {w wi : World} {g : Nat} {s : NS} {F : Nat → Prop} (h : RunN w wi g s F) {k : Nat} (hk : F k) : k < wi.heap.size := h.nt.lt hk
end Go.Proofs.Ytmlckocgahfnkaa
