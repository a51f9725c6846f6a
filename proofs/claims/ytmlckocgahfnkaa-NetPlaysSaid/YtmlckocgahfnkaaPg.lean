/- Both nets, side by side; an act on both. -/
import Derived.Test.YtmlckocgahfnkaaPf
namespace Go.Proofs.Ytmlckocgahfnkaa
open Go.RowKit

/-- What is held may be held with more beside. -/
theorem wpAnyH_more {P : Program} {md : Region.Mode} {ops : Array Oper} {Q : Exit → Go.Act → World → Prop} {S S' : World → Prop} (hSS : ∀ w, S' w → S w) : ∀ (fuel : Nat) (listed : Array Bool) (a : Go.Act) (w : World), wpAnyH P md ops Q S' fuel listed a w → wpAnyH P md ops Q S fuel listed a w
  | 0, _, _, _, h => h
  | fuel + 1, _, _, _, h => ⟨h.1, fun i hi => wpOp_mono (fun a' w' h' => ⟨hSS _ h'.1, wpAnyH_more hSS fuel _ a' w' h'.2⟩) (h.2 i hi)⟩

theorem RtTo.same {w w' : World} {g : Nat} {s : NS} {F : Nat → Prop} (h : Rt w g s F) (hf : Fr (fun _ => False) w w') : RtTo w g F w' s := ⟨F, h.fr0 hf, hf.mono (fun _ _ h => h.elim), fun _ hk => .inl hk⟩
theorem Rt.into {S F : Nat → Prop} {w w' : World} {g : Nat} {s' : NS} {m m' : RL} (hF : ∀ k, RB g m k → F k) (h : RefM w' g s' m') (hf : Fr S w w') (hS : ∀ k, S k → RB g m k) (hB : ∀ k, RB g m' k → RB g m k ∨ w.heap.size ≤ k) : RtTo w g F w' s' :=
  h.to (fun k hk => (hB k hk).imp (hF k) id) (hf.mono (fun k _ e => hF k (hS k e)))
theorem Rt.send {w : World} {g : Nat} {s : NS} {F : Nat → Prop} (h : Rt w g s F) (hs : (s.sent : Int) ≤ 4611686018427387904) (hq : s.l.length ≤ 1048575) (hc : s.cuts.length ≤ 1048576) (fr tw : Int) (A : Option Addr) (n c : Nat) (bs : List UInt8) (hr : Rd8 w A bs) (hn : bs.length = n) :
    Calls Try.prog 21 #[.pointer (some ⟨g, 0, none⟩), .int .i64 fr, .int .i64 tw, .slice A n c] w fun e w' => e = .returned (.int .i64 (s.err fr tw bs)) ∧ RtTo w g F w' (s.send fr tw bs) := by
  have h0 := h
  obtain ⟨m, hm, hF, hlt⟩ := h
  by_cases he : s.err fr tw bs = 0
  · rw [he]
    by_cases hj : s.joins fr tw = true
    · refine (rsend_go g s m fr tw A n c bs w hm hn hr he hj hs hq hc).mono ?_
      rintro e w' ⟨rfl, m', h1, h2, h3⟩
      exact ⟨rfl, Rt.into hF h1 h2 (fun _ h => h) h3⟩
    · refine (rsend_cut g s m fr tw A n c bs w hm hn hr he (by simpa using hj) hs hq hc).mono ?_
      rintro e w' ⟨rfl, m', h1, h2, h3⟩
      exact ⟨rfl, Rt.into hF h1 h2 (fun _ h => h) h3⟩
  · refine (rsend_bad g s m fr tw A n c bs w hm hn he).mono ?_
    rintro e w' ⟨rfl, rfl⟩
    refine ⟨rfl, ?_⟩
    rw [show s.send fr tw bs = s from if_neg he]
    exact RtTo.same h0 (Fr.refl _ _)
theorem Rt.cut {w : World} {g : Nat} {s : NS} {F : Nat → Prop} (h : Rt w g s F) (hq : s.l.length ≤ 1048576) (hc : s.cuts.length ≤ 1048576) (a b : Int) :
    Calls Try.prog 25 #[.pointer (some ⟨g, 0, none⟩), .int .i64 a, .int .i64 b] w fun e w' => e = .returned (.int .i64 (s.cutR a b)) ∧ RtTo w g F w' (s.cutS a b) := by
  have h0 := h
  obtain ⟨m, hm, hF, hlt⟩ := h
  by_cases he : s.cutErr a b = true
  · rw [show s.cutR a b = 1 from if_pos he, show s.cutS a b = s from if_pos he]
    refine (rcut_bad g s m a b w hm he).mono ?_
    rintro e w' ⟨rfl, rfl⟩
    exact ⟨rfl, RtTo.same h0 (Fr.refl _ _)⟩
  · rw [show s.cutR a b = 0 from if_neg he, show s.cutS a b = s.cut a b from if_neg he]
    refine (rcut_any g s m a b w hm (by simpa using he) hq hc).mono ?_
    rintro e w' ⟨rfl, m', h1, h2, h3⟩
    exact ⟨rfl, Rt.into hF h1 h2 (fun _ h => h) h3⟩
theorem Rt.again {w : World} {g : Nat} {s : NS} {F : Nat → Prop} (h : Rt w g s F) (hq : s.l.length < 4096) (a : Int) :
    Calls Try.prog 24 #[.pointer (some ⟨g, 0, none⟩), .int .i64 a] w fun e w' => e = .returned (.int .i64 (s.wR a)) ∧ RtTo w g F w' (s.againS a) := by
  have h0 := h
  obtain ⟨m, hm, hF, hlt⟩ := h
  by_cases he : s.waits a = true
  · rw [show s.wR a = 0 from if_pos he, show s.againS a = s.again a.toNat from if_pos he]
    obtain ⟨i, rfl, hi⟩ := NS.waits_nat he
    rw [Int.toNat_natCast]
    refine (ragain_any g i s m w hm hi hq).mono ?_
    rintro e w' ⟨rfl, m', h1, h2, h3⟩
    exact ⟨rfl, Rt.into hF h1 h2 (fun _ h => .inl h) h3⟩
  · rw [show s.wR a = 2 from if_neg he, show s.againS a = s from if_neg he]
    refine (ragain_none g s m a w hm (by simpa using he)).mono ?_
    rintro e w' ⟨rfl, rfl⟩
    exact ⟨rfl, RtTo.same h0 (Fr.refl _ _)⟩
theorem Rt.take {w : World} {g : Nat} {s : NS} {F : Nat → Prop} (h : Rt w g s F) (hq : s.l.length ≤ 1048576) (a : Int) :
    Calls Try.prog 22 #[.pointer (some ⟨g, 0, none⟩), .int .i64 a] w fun e w' => ∃ k : KP, e = .returned (.tuple #[.agg #[.int .i64 k.pk.fr, .int .i64 k.pk.to, .int .i64 (k.pk.n : Int), .slice k.A k.pk.bs.length k.c], .int .i64 (s.wR a)]) ∧ k.pk = s.takeK a ∧
      Own8 w' 5 k.sl k.pk.bs ∧ RtTo w g F w' (s.dropS a) := by
  have h0 := h
  obtain ⟨m, hm, hF, hlt⟩ := h
  by_cases he : s.waits a = true
  · rw [show s.wR a = 0 from if_pos he, show s.dropS a = s.drop a.toNat from if_pos he, show s.takeK a = s.l.getD a.toNat default from if_pos he]
    obtain ⟨i, rfl, hi⟩ := NS.waits_nat he
    rw [Int.toNat_natCast]
    refine (rtake_any g i s m w hm hi hq).mono ?_
    rintro e w' ⟨k, rfl, hk, h1, m', h2, h3, h4⟩
    exact ⟨k, rfl, hk, h1, Rt.into hF h2 h3 (fun _ h => .inl h) h4⟩
  · rw [show s.wR a = 2 from if_neg he, show s.dropS a = s from if_neg he, show s.takeK a = ⟨0, 0, 0, []⟩ from if_neg he]
    refine (rtake_none g s m a w hm (by simpa using he)).mono ?_
    rintro e w' ⟨rfl, h1⟩
    exact ⟨⟨⟨0, 0, 0, []⟩, none, 0⟩, rfl, rfl, Own8.nil _ _, RtTo.same h0 h1⟩
theorem Rt.clear {w : World} {g : Nat} {s : NS} {F : Nat → Prop} (h : Rt w g s F) (hok : s.ok) (hq : s.l.length ≤ 1048576) (k : Int) :
    Calls Try.prog 27 #[.pointer (some ⟨g, 0, none⟩), .int .i64 k] w fun e w' => e = .returned (.int .i64 ((s.l.length : Int) - ((s.clear k).l.length : Int))) ∧ RtTo w g F w' (s.clear k) := by
  obtain ⟨m, hm, hF, hlt⟩ := h
  refine (rclear_any g s m k w hm hok hq).mono ?_
  rintro e w' ⟨rfl, m', h1, h2, h3⟩
  exact ⟨rfl, Rt.into hF h1 h2 (fun _ h => .inl h) h3⟩
theorem Rt.open {w : World} {g : Nat} {s : NS} {F : Nat → Prop} (h : Rt w g s F) (hc : s.cuts.length ≤ 1048576) (a b : Int) :
    Calls Try.prog 15 #[.pointer (some ⟨g, 0, none⟩), .int .i64 a, .int .i64 b] w fun e w' => e = .returned (.bool (s.openB a b)) ∧ Fr (fun _ => False) w w' := by
  obtain ⟨m, hm, hF, hlt⟩ := h
  exact ropen_any g s m a b w hm hc
/-- Its cuts forgotten. -/
theorem Rt.healed {w : World} {g : Nat} {s : NS} {F : Nat → Prop} (h : Rt w g s F) : RtTo w g F (w.setCell ⟨g, 3, none⟩ (.slice none 0 0)) s.heal := by
  obtain ⟨m, hm, hF, hlt⟩ := h
  have f4 := Bk.fr_set (w := w) (g := g) 3 (.slice none 0 0)
  refine Rt.into (m' := ⟨m.LV, .slice none 0 0, m.ks⟩) hF ⟨by simpa [rcells, NS.heal] using hm.blk.set 3 (.slice none 0 0), hm.row.fr f4 (fun x e e2 => hm.rowg (by rw [e, e2])), Row.nil _ _ _, hm.l, fun k hk => (hm.each k hk).fr f4 (fun x hx e => hm.gd hk (by rw [hx, e]))⟩ f4 (fun _ h => .inl h) (fun k hk => ?_)
  rcases hk with e | e | e | ⟨q, hq, e⟩
  · exact .inl (.inl e)
  · exact .inl (.inr (.inl e))
  · simp [Value.ownBlock] at e
  · exact .inl (.inr (.inr (.inr ⟨q, hq, e⟩)))

/-- Both nets, side by side. -/
structure Pair (w wi : World) (g : Nat) (s : NS) (F : Nat → Prop) (gr : Nat) (t : NS) (G : Nat → Prop) : Prop where
  run : RunN w wi g s F
  ref : Rt wi gr t G
  low : ∀ k, G k → w.heap.size ≤ k
  apart : ∀ k, F k → ¬ G k
theorem Rt.lt {w : World} {g : Nat} {s : NS} {F : Nat → Prop} (h : Rt w g s F) {k : Nat} (hk : F k) : k < w.heap.size := by
  obtain ⟨_, _, _, h3⟩ := h
  exact h3 k hk
theorem Pair.dstep {w wi w2 : World} {g gr : Nat} {s s' t : NS} {F F' G : Nat → Prop} (h : Pair w wi g s F gr t G) (r : RunN w w2 g s' F') (f : Fr F wi w2) (n : ∀ x, x < wi.heap.size → ¬ F x → ¬ F' x) : Pair w w2 g s' F' gr t G :=
  ⟨r, h.ref.fr f (fun k hG hF => h.apart k hF hG), h.low, fun k hF' hG => n k (h.ref.lt hG) (fun hF => h.apart k hF hG) hF'⟩
theorem Pair.rstep {w wi w2 : World} {g gr : Nat} {s t t' : NS} {F G : Nat → Prop} (h : Pair w wi g s F gr t G) (k : RtTo wi gr G w2 t') : ∃ G', Pair w w2 g s F gr t' G' ∧ Fr G wi w2 := by
  obtain ⟨G', h1, h2, h3⟩ := k
  refine ⟨G', ⟨h.run.on h2 (fun k hF hG => h.apart k hF hG) h.low, h1, fun k hk => ?_, fun k hF hG' => ?_⟩, h2⟩
  · rcases h3 k hk with e | e
    · exact h.low k e
    · have := h.run.fr.size; omega
  · rcases h3 k hG' with e | e
    · exact h.apart k hF e
    · have := h.run.lt hF; omega
theorem Pair.quiet {w wi w2 : World} {g gr : Nat} {s t : NS} {F G : Nat → Prop} (h : Pair w wi g s F gr t G) (hf : Fr (fun _ => False) wi w2) : Pair w w2 g s F gr t G :=
  ⟨h.run.on0 hf, h.ref.fr0 hf, h.low, h.apart⟩
theorem RunN.dropC {w w1 : World} {g : Nat} {s : NS} {F : Nat → Prop} (h : RunN w w1 g s F) (hq : s.l.length ≤ 1048576) (a : Int) :
    Calls Try.prog 23 #[.pointer (some ⟨g, 0, none⟩), .int .i64 a] w1 fun e w' => e = .returned (.int .i64 (s.wR a)) ∧ ∃ F', RunN w w' g (s.dropS a) F' ∧ Fr F w1 w' ∧ ∀ x, x < w1.heap.size → ¬ F x → ¬ F' x :=
  (h.nt.drop hq a).mono fun _ _ ⟨he, hd⟩ => ⟨he, h.step hd⟩
theorem RunN.healC {w w1 : World} {g : Nat} {s : NS} {F : Nat → Prop} (h : RunN w w1 g s F) :
    Calls Try.prog 26 #[.pointer (some ⟨g, 0, none⟩)] w1 fun e w' => e = .returned (.tuple #[]) ∧ ∃ F', RunN w w' g s.heal F' ∧ Fr F w1 w' ∧ ∀ x, x < w1.heap.size → ¬ F x → ¬ F' x :=
  h.nt.heal.mono fun _ _ ⟨he, hd⟩ => ⟨he, h.step hd⟩

/-- The net behind an act. -/
def NS.stp (s : NS) (q : NAct) : NS :=
  if q.op = 1 then s.send q.a q.b q.bs else if q.op = 2 then s.dropS q.a else if q.op = 3 then s.dropS q.a else if q.op = 4 then s.againS q.a else if q.op = 5 then s.cutS q.a q.b else if q.op = 6 then s.heal else if q.op = 7 then s.clear q.a else s
/-- What holds of the net behind k acts. -/
structure PInv (s : NS) (k : Nat) : Prop where
  ok : s.ok
  sent : s.sent ≤ k
  l : s.l.length ≤ k
  cuts : s.cuts.length ≤ k
theorem PInv.new (N : Nat) : PInv (NS.new N) 0 := ⟨fun p hp => by simp [NS.new] at hp, Nat.le_refl _, Nat.le_refl _, Nat.le_refl _⟩
theorem PInv.up {s : NS} {k : Nat} (h : PInv s k) : PInv s (k + 1) := ⟨h.ok, by have := h.sent; omega, by have := h.l; omega, by have := h.cuts; omega⟩
theorem PInv.sub {s : NS} {k : Nat} (h : PInv s k) (l : List Pk) (hl : ∀ p ∈ l, p ∈ s.l) (hn : l.length ≤ s.l.length) : PInv { s with l := l } (k + 1) := ⟨fun p hp => h.ok p (hl p hp), by have := h.sent; show s.sent ≤ _; omega, by have := h.l; show l.length ≤ _; omega, by have := h.cuts; show s.cuts.length ≤ _; omega⟩
theorem NS.err_zero {s : NS} {f t : Int} {bs : List UInt8} (h : s.err f t bs = 0) : s.is f = true ∧ s.is t = true := by
  unfold NS.err at h
  cases h1 : s.is f <;> cases h2 : s.is t <;> simp [h1, h2] at h ⊢
theorem PInv.send {s : NS} {k : Nat} (h : PInv s k) (f t : Int) (bs : List UInt8) : PInv (s.send f t bs) (k + 1) := by
  unfold NS.send
  split
  · rename_i he
    obtain ⟨h1, h2⟩ := NS.err_zero he
    refine ⟨fun p hp => ?_, by have := h.sent; show s.sent + 1 ≤ _; omega, ?_, by have := h.cuts; show s.cuts.length ≤ _; omega⟩
    · cases hj : s.joins f t
      · simp only [hj] at hp; exact h.ok p hp
      · simp only [hj, if_true] at hp
        rcases List.mem_append.1 hp with hp | hp
        · exact h.ok p hp
        · simp at hp; subst hp; exact ⟨h1, h2⟩
    · have := h.l
      show (if s.joins f t = true then s.l ++ [⟨f, t, s.sent, bs⟩] else s.l).length ≤ _
      split
      · simp; omega
      · omega
  · exact h.up
theorem PInv.drop {s : NS} {k : Nat} (h : PInv s k) (a : Int) : PInv (s.dropS a) (k + 1) := by
  unfold NS.dropS
  split
  · exact h.sub _ (fun p hp => List.mem_of_mem_eraseIdx hp) (by rw [List.length_eraseIdx]; split <;> omega)
  · exact h.up
theorem PInv.again {s : NS} {k : Nat} (h : PInv s k) (a : Int) : PInv (s.againS a) (k + 1) := by
  unfold NS.againS
  split
  · rename_i hw
    obtain ⟨i, rfl, hi⟩ := NS.waits_nat hw
    rw [Int.toNat_natCast]
    refine ⟨fun p hp => ?_, by have := h.sent; show s.sent ≤ _; omega, ?_, by have := h.cuts; show s.cuts.length ≤ _; omega⟩
    · have hp' : p ∈ s.l.take (s.past i) ++ s.l.getD i default :: s.l.drop (s.past i) := hp
      rcases List.mem_append.1 hp' with hp | hp
      · exact h.ok p (List.mem_of_mem_take hp)
      · rcases List.mem_cons.1 hp with rfl | hp
        · exact h.ok _ (getD_mem hi)
        · exact h.ok p (List.mem_of_mem_drop hp)
    · have := h.l
      have := s.past_le i hi
      show (s.l.take (s.past i) ++ s.l.getD i default :: s.l.drop (s.past i)).length ≤ _
      simp; omega
  · exact h.up
theorem PInv.cut {s : NS} {k : Nat} (h : PInv s k) (a b : Int) : PInv (s.cutS a b) (k + 1) := by
  unfold NS.cutS
  split
  · exact h.up
  · refine ⟨fun p hp => h.ok p (List.mem_filter.1 hp).1, by have := h.sent; show s.sent ≤ _; omega, ?_, ?_⟩
    · have := h.l
      have := List.length_filter_le (fun p : Pk => !(decide (pr p.fr p.to = pr a b))) s.l
      show (s.l.filter _).length ≤ _
      omega
    · have := h.cuts
      show (if s.joins a b = true then s.cuts ++ [(a, b)] else s.cuts).length ≤ _
      split
      · simp; omega
      · omega
theorem PInv.clear {s : NS} {k : Nat} (h : PInv s k) (a : Int) : PInv (s.clear a) (k + 1) := h.sub _ (fun p hp => (List.mem_filter.1 hp).1) (List.length_filter_le _ _)
theorem PInv.heal {s : NS} {k : Nat} (h : PInv s k) : PInv s.heal (k + 1) := ⟨h.ok, by have := h.sent; show s.sent ≤ _; omega, by have := h.l; show s.l.length ≤ _; omega, by show 0 ≤ _; omega⟩
theorem PInv.stp {s : NS} {k : Nat} (h : PInv s k) (q : NAct) : PInv (s.stp q) (k + 1) := by
  unfold NS.stp
  split
  · exact h.send _ _ _
  split
  · exact h.drop _
  split
  · exact h.drop _
  split
  · exact h.again _
  split
  · exact h.cut _ _
  split
  · exact h.heal
  split
  · exact h.clear _
  · exact h.up

theorem Pks.one {w : World} {T : TypeId} {b : Nat} {q : KP} (ho : Own8 w 5 q.sl q.pk.bs) (h : Bk w b T #[.int .i64 q.pk.fr, .int .i64 q.pk.to, .int .i64 (q.pk.n : Int), .slice q.A q.pk.bs.length q.c]) : Pks w (some ⟨b, 0, none⟩) 1 1 [q] :=
  ⟨Sl.at rfl rfl (fun j u hu => by rw [Nat.zero_add, h.cell]; simpa [kpc, KP.cells, KP.sl] using hu), rfl, fun k hk => by
    simp at hk; subst hk
    exact ⟨ho.rd, fun ad e h0 => by
      obtain ⟨ad', e', hs, hc⟩ := ho.rd h0
      rw [e'] at e; injection e with e; subst e
      exact World.block_lt_of_cell? w ⟨ad'.block, ad'.off + 0, none⟩ (hc 0 h0)⟩⟩
/-- What a call of step is handed. -/
structure Hnd (w wi : World) (g : Nat) (s : NS) (F : Nat → Prop) (gr : Nat) (G : Nat → Prop) (k : Nat) (A : Option Addr) (bs : List UInt8) : Prop where
  two : Pair w wi g s F gr s G
  inv : PInv s k
  hk : k ≤ 200
  rd : Rd8 wi A bs
  lt : ∀ ad, A = some ad → 0 < bs.length → ad.block < w.heap.size
theorem Hnd.q0 {w wi w' : World} {g : Nat} {s : NS} {F : Nat → Prop} {gr : Nat} {G : Nat → Prop} {k : Nat} {A : Option Addr} {bs : List UInt8} (h : Hnd w wi g s F gr G k A bs) (hf : Fr (fun _ => False) wi w') : Hnd w w' g s F gr G k A bs :=
  ⟨h.two.quiet hf, h.inv, h.hk, h.rd.fr hf (fun _ _ _ h => h), h.lt⟩
theorem Hnd.rd2 {w wi w2 : World} {g : Nat} {s : NS} {F : Nat → Prop} {gr : Nat} {G : Nat → Prop} {k : Nat} {A : Option Addr} {bs : List UInt8} (h : Hnd w wi g s F gr G k A bs) (hf : Fr F wi w2) : Rd8 w2 A bs :=
  h.rd.fr hf (fun ad e h0 hF => by have h1 := h.lt ad e h0; have h2 := h.two.run.low _ hF; omega)

set_option maxRecDepth 100000 in
set_option maxHeartbeats 4000000 in
theorem step_send {w wi : World} {g gr k : Nat} {s : NS} {F G : Nat → Prop} {A : Option Addr} {bs : List UInt8} (h : Hnd w wi g s F gr G k A bs) (a b : Int) (n c : Nat) (hn : bs.length = n) :
    Calls Try.prog 11 #[.pointer (some ⟨g, 0, none⟩), .pointer (some ⟨gr, 0, none⟩), .agg #[.int .i64 1, .int .i64 a, .int .i64 b, .slice A n c]] wi fun e w' => e = .returned (.bool true) ∧ ∃ F' G', Pair w w' g (s.stp ⟨1, a, b, A, c, bs⟩) F' gr (s.stp ⟨1, a, b, A, c, bs⟩) G' := by
  have hst : s.stp ⟨1, a, b, A, c, bs⟩ = s.send a b bs := rfl
  rw [hst]
  clear hst
  obtain ⟨W, hW⟩ : ∃ W, wi.alloc (.cells #[.int .i64 1, .int .i64 a, .int .i64 b, .slice A n c] 35) = W := ⟨_, rfl⟩
  obtain ⟨ga, hga⟩ : ∃ ga, wi.heap.size = ga := ⟨_, rfl⟩
  have fW : Fr (fun _ => False) wi W := by rw [← hW]; exact (Fr.refl _ _).alloc _
  have bW : Bk W ga 35 #[.int .i64 1, .int .i64 a, .int .i64 b, .slice A n c] := by rw [← hW, ← hga]; exact Bk.new _ _ _
  have HY := Lib.hid (h.q0 fW)
  have ngF : ¬ F ga := fun e => by have := h.two.run.lt e; omega
  have ngG : ¬ G ga := fun e => by have := h.two.ref.lt e; omega
  have CL := Lib.hid (fun w' (hf : Fr (fun x => F x ∨ G x) W w') => have hb := bW.fr hf (fun h => h.elim ngF ngG); show w'.cell? ⟨ga, 0, none⟩ = some (.int .i64 1) ∧ w'.cell? ⟨ga, 1, none⟩ = some (.int .i64 a) ∧ w'.cell? ⟨ga, 2, none⟩ = some (.int .i64 b) ∧ w'.cell? ⟨ga, 3, none⟩ = some (.slice A n c) from ⟨hb.cell 0, hb.cell 1, hb.cell 2, hb.cell 3⟩)
  obtain ⟨p0, p1, p2, p3⟩ := CL.out W (Fr.refl _ _)
  have hl := h.inv.l
  have hsn := h.inv.sent
  have hcu := h.inv.cuts
  have hk := h.hk
  clear h fW bW ngF ngG
  have CS := Lib.hid (fun (w' : World) (hf : Fr (fun _ => False) W w') => (HY.out.two.quiet hf).run.sendC (by omega) (by omega) a b A n c bs (HY.out.q0 hf).rd hn)
  have CS2 := Lib.hid (fun (w' : World) (F' : Nat → Prop) (s' : NS) (hP : Pair w w' g s' F' gr s G) (hf : Fr F W w') => hP.ref.send (by omega) (by omega) (by omega) a b A n c bs (HY.out.rd2 hf) hn)
  go_enter Try.func11, Try.ntmps11
  go_wp2_with fail
  clear hW hga p0 p1 p2 p3
  refine wp_region_held_drew (S := fun w' => Fr (fun x => F x ∨ G x) W w') (by kernel_rfl) ((Fr.refl _ _).drew) (fun hHeld => ?_)
  refine wpAnyH_takeD (i := 0) (v := ?_) (some 17) rfl rfl (by kernel_rfl) (by kernel_rfl) (by kernel_rfl) (fun _ _ _ h => h) (Or.inl ⟨by rfl, ?_⟩) (by assumption) ?_
  rotate_left
  · intro w' hSw
    go_simp
    first | done | with_reducible rfl
  try simp only [Go.Act.put, List.setIfInBounds_toArray, List.set_cons_zero, List.set_cons_succ]
  refine wpAnyH_takeD (i := 1) (v := ?_) (some 18) rfl rfl (by kernel_rfl) (by kernel_rfl) (by kernel_rfl) (fun _ _ _ h => h) (Or.inl ⟨by rfl, ?_⟩) (by assumption) ?_
  rotate_left
  · intro w' hSw
    go_simp
    first | done | with_reducible rfl
  try simp only [Go.Act.put, List.setIfInBounds_toArray, List.set_cons_zero, List.set_cons_succ]
  refine wpAnyH_takeD (i := 2) (v := ?_) (some 19) rfl rfl (by kernel_rfl) (by kernel_rfl) (by kernel_rfl) (fun _ _ _ h => h) (Or.inl ⟨by rfl, ?_⟩) (by assumption) ?_
  rotate_left
  · intro w' hSw
    obtain ⟨q0, q1, q2, q3⟩ := CL.out w' hSw
    go_simp
    first | done | with_reducible rfl
  try simp only [Go.Act.put, List.setIfInBounds_toArray, List.set_cons_zero, List.set_cons_succ]
  refine wpAnyH_takeD (i := 3) (v := ?_) (some 20) rfl rfl (by kernel_rfl) (by kernel_rfl) (by kernel_rfl) (fun _ _ _ h => h) (Or.inl ⟨by rfl, ?_⟩) (by assumption) ?_
  rotate_left
  · intro w' hSw
    go_simp
    first | done | with_reducible rfl
  try simp only [Go.Act.put, List.setIfInBounds_toArray, List.set_cons_zero, List.set_cons_succ]
  refine wpAnyH_takeD (i := 4) (v := ?_) (some 21) rfl rfl (by kernel_rfl) (by kernel_rfl) (by kernel_rfl) (fun _ _ _ h => h) (Or.inl ⟨by rfl, ?_⟩) (by assumption) ?_
  rotate_left
  · intro w' hSw
    obtain ⟨q0, q1, q2, q3⟩ := CL.out w' hSw
    go_simp
    first | done | with_reducible rfl
  try simp only [Go.Act.put, List.setIfInBounds_toArray, List.set_cons_zero, List.set_cons_succ]
  refine wpAnyH_takeD (i := 5) (v := ?_) (some 22) rfl rfl (by kernel_rfl) (by kernel_rfl) (by kernel_rfl) (fun _ _ _ h => h) (Or.inl ⟨by rfl, ?_⟩) (by assumption) ?_
  rotate_left
  · intro w' hSw
    go_simp
    first | done | with_reducible rfl
  try simp only [Go.Act.put, List.setIfInBounds_toArray, List.set_cons_zero, List.set_cons_succ]
  refine wpAnyH_takeD (i := 6) (v := ?_) (some 23) rfl rfl (by kernel_rfl) (by kernel_rfl) (by kernel_rfl) (fun _ _ _ h => h) (Or.inl ⟨by rfl, ?_⟩) (by assumption) ?_
  rotate_left
  · intro w' hSw
    obtain ⟨q0, q1, q2, q3⟩ := CL.out w' hSw
    go_simp
    first | done | with_reducible rfl
  try simp only [Go.Act.put, List.setIfInBounds_toArray, List.set_cons_zero, List.set_cons_succ]
  refine wpAnyH_takeD (i := 8) (v := ?_) (some 25) rfl rfl (by kernel_rfl) (by kernel_rfl) (by kernel_rfl) (fun _ _ _ h => h) (Or.inl ⟨by rfl, ?_⟩) (by assumption) ?_
  rotate_left
  · intro w' hSw
    go_simp
    first | done | with_reducible rfl
  try simp only [Go.Act.put, List.setIfInBounds_toArray, List.set_cons_zero, List.set_cons_succ]
  refine wpAnyH_takeD (i := 9) (v := ?_) (some 26) rfl rfl (by kernel_rfl) (by kernel_rfl) (by kernel_rfl) (fun _ _ _ h => h) (Or.inl ⟨by rfl, ?_⟩) (by assumption) ?_
  rotate_left
  · intro w' hSw
    go_simp
    first | done | with_reducible rfl
  try simp only [Go.Act.put, List.setIfInBounds_toArray, List.set_cons_zero, List.set_cons_succ]
  refine wpAnyH_takeD (i := 10) (v := ?_) (some 27) rfl rfl (by kernel_rfl) (by kernel_rfl) (by kernel_rfl) (fun _ _ _ h => h) (Or.inl ⟨by rfl, ?_⟩) (by assumption) ?_
  rotate_left
  · intro w' hSw
    obtain ⟨q0, q1, q2, q3⟩ := CL.out w' hSw
    go_simp
    first | done | with_reducible rfl
  try simp only [Go.Act.put, List.setIfInBounds_toArray, List.set_cons_zero, List.set_cons_succ]
  refine wpAnyH_takeD (i := 11) (v := ?_) (some 28) rfl rfl (by kernel_rfl) (by kernel_rfl) (by kernel_rfl) (fun _ _ _ h => h) (Or.inl ⟨by rfl, ?_⟩) (by assumption) ?_
  rotate_left
  · intro w' hSw
    go_simp
    first | done | with_reducible rfl
  try simp only [Go.Act.put, List.setIfInBounds_toArray, List.set_cons_zero, List.set_cons_succ]
  refine wpAnyH_takeD (i := 12) (v := ?_) (some 29) rfl rfl (by kernel_rfl) (by kernel_rfl) (by kernel_rfl) (fun _ _ _ h => h) (Or.inl ⟨by rfl, ?_⟩) (by assumption) ?_
  rotate_left
  · intro w' hSw
    obtain ⟨q0, q1, q2, q3⟩ := CL.out w' hSw
    go_simp
    first | done | with_reducible rfl
  try simp only [Go.Act.put, List.setIfInBounds_toArray, List.set_cons_zero, List.set_cons_succ]
  refine wpAnyH_takeD (i := 13) (v := ?_) (some 30) rfl rfl (by kernel_rfl) (by kernel_rfl) (by kernel_rfl) (fun _ _ _ h => h) (Or.inl ⟨by rfl, ?_⟩) (by assumption) ?_
  rotate_left
  · intro w' hSw
    go_simp
    first | done | with_reducible rfl
  try simp only [Go.Act.put, List.setIfInBounds_toArray, List.set_cons_zero, List.set_cons_succ]
  refine wpAnyH_takeD (i := 14) (v := ?_) (some 31) rfl rfl (by kernel_rfl) (by kernel_rfl) (by kernel_rfl) (fun _ _ _ h => h) (Or.inl ⟨by rfl, ?_⟩) (by assumption) ?_
  rotate_left
  · intro w' hSw
    obtain ⟨q0, q1, q2, q3⟩ := CL.out w' hSw
    go_simp
    first | done | with_reducible rfl
  try simp only [Go.Act.put, List.setIfInBounds_toArray, List.set_cons_zero, List.set_cons_succ]
  refine wpAnyH_ready (rs := [7]) (by kernel_rfl) (by simp) ?_
  refine AllReadyH.cons rfl (fun K hK => ?_) AllReadyH.nil
  go_simp
  refine (CS.out _ ((Fr.refl _ _).drew)).mono ?_; rintro e w4 ⟨rfl, F4, R4, f4, n4⟩
  have f4' : Fr F W w4 := ((Fr.refl _ _).drew).trans f4 (fun _ _ h => h)
  have HP4 := Lib.hid ((HY.out.two.quiet ((Fr.refl _ _).drew)).dstep R4 f4 n4)
  have C2 := Lib.hid (CS2.out _ _ _ HP4.out f4')
  try go_simp
  refine hK.out _ _ (f4'.mono (fun _ _ h => .inl h)) (fun hHeld => ?_)
  clear hK K
  try change wpAnyH _ _ _ _ _ _ _ (Go.Act.put _ (some 24) _) _
  try simp only [Go.Act.put, List.setIfInBounds_toArray, List.set_cons_zero, List.set_cons_succ]
  clear R4 f4 n4 CS f4' CS2
  refine wpAnyH_ready (rs := [15]) (by kernel_rfl) (by simp) ?_
  refine AllReadyH.cons rfl (fun K hK => ?_) AllReadyH.nil
  go_simp
  refine C2.out.mono ?_; rintro e w6 ⟨rfl, k6⟩
  obtain ⟨G6, hP6, f6⟩ := HP4.out.rstep k6
  have HZ := Lib.hid hP6
  try go_simp
  refine hK.out _ _ (hHeld.trans f6 (fun _ _ h => .inr h)) (fun hHeld => ?_)
  clear hK K
  try change wpAnyH _ _ _ _ _ _ _ (Go.Act.put _ (some 32) _) _
  try simp only [Go.Act.put, List.setIfInBounds_toArray, List.set_cons_zero, List.set_cons_succ]
  have hzz : (s.err a b bs == s.err a b bs) = true := by simp
  clear k6 hP6 f6 C2 HP4 HY CL hl hsn hcu hk
  generalize s.err a b bs = z at *
  refine wpAnyH_takeD (i := 16) (v := ?_) (some 33) rfl rfl (by kernel_rfl) (by kernel_rfl) (by kernel_rfl) (fun _ _ _ h => h) (Or.inl ⟨by rfl, ?_⟩) (by assumption) ?_
  rotate_left
  · intro w' hSw
    go_simp
    first | done | with_reducible rfl
  try simp only [Go.Act.put, List.setIfInBounds_toArray, List.set_cons_zero, List.set_cons_succ]
  refine wpAnyH_takeD (i := 17) (v := ?_) (some 6) rfl rfl (by kernel_rfl) (by kernel_rfl) (by kernel_rfl) (fun _ _ _ h => h) (Or.inl ⟨by rfl, ?_⟩) (by assumption) ?_
  rotate_left
  · intro w' hSw
    go_simp
    first | done | with_reducible rfl
  try simp only [Go.Act.put, List.setIfInBounds_toArray, List.set_cons_zero, List.set_cons_succ]
  refine wpAnyH_done (by kernel_rfl) ?_ _
  clear hHeld
  go_wp2
  go_ret
  exact ⟨rfl, _, _, HZ.out⟩

set_option maxRecDepth 100000 in
set_option maxHeartbeats 4000000 in
theorem step_again {w wi : World} {g gr k : Nat} {s : NS} {F G : Nat → Prop} {A : Option Addr} {bs : List UInt8} (h : Hnd w wi g s F gr G k A bs) (a b : Int) (n c : Nat) (hn : bs.length = n) :
    Calls Try.prog 11 #[.pointer (some ⟨g, 0, none⟩), .pointer (some ⟨gr, 0, none⟩), .agg #[.int .i64 4, .int .i64 a, .int .i64 b, .slice A n c]] wi fun e w' => e = .returned (.bool true) ∧ ∃ F' G', Pair w w' g (s.stp ⟨4, a, b, A, c, bs⟩) F' gr (s.stp ⟨4, a, b, A, c, bs⟩) G' := by
  have hst : s.stp ⟨4, a, b, A, c, bs⟩ = s.againS a := rfl
  rw [hst]
  clear hst
  obtain ⟨W, hW⟩ : ∃ W, wi.alloc (.cells #[.int .i64 4, .int .i64 a, .int .i64 b, .slice A n c] 35) = W := ⟨_, rfl⟩
  obtain ⟨ga, hga⟩ : ∃ ga, wi.heap.size = ga := ⟨_, rfl⟩
  have fW : Fr (fun _ => False) wi W := by rw [← hW]; exact (Fr.refl _ _).alloc _
  have bW : Bk W ga 35 #[.int .i64 4, .int .i64 a, .int .i64 b, .slice A n c] := by rw [← hW, ← hga]; exact Bk.new _ _ _
  have HY := Lib.hid (h.q0 fW)
  have ngF : ¬ F ga := fun e => by have := h.two.run.lt e; omega
  have ngG : ¬ G ga := fun e => by have := h.two.ref.lt e; omega
  have CL := Lib.hid (fun w' (hf : Fr (fun x => F x ∨ G x) W w') => have hb := bW.fr hf (fun h => h.elim ngF ngG); show w'.cell? ⟨ga, 0, none⟩ = some (.int .i64 4) ∧ w'.cell? ⟨ga, 1, none⟩ = some (.int .i64 a) ∧ w'.cell? ⟨ga, 2, none⟩ = some (.int .i64 b) ∧ w'.cell? ⟨ga, 3, none⟩ = some (.slice A n c) from ⟨hb.cell 0, hb.cell 1, hb.cell 2, hb.cell 3⟩)
  obtain ⟨p0, p1, p2, p3⟩ := CL.out W (Fr.refl _ _)
  have hl := h.inv.l
  have hsn := h.inv.sent
  have hcu := h.inv.cuts
  have hk := h.hk
  clear h fW bW ngF ngG
  have CS := Lib.hid (fun (w' : World) (hf : Fr (fun _ => False) W w') => (HY.out.two.quiet hf).run.againC (by omega) a)
  have CS2 := Lib.hid (fun (w' : World) (F' : Nat → Prop) (s' : NS) (hP : Pair w w' g s' F' gr s G) (hf : Fr F W w') => hP.ref.again (by omega) a)
  go_enter Try.func11, Try.ntmps11
  go_wp2_with fail
  clear hW hga p0 p1 p2 p3
  refine wp_region_held_drew (S := fun w' => Fr (fun x => F x ∨ G x) W w') (by kernel_rfl) ((Fr.refl _ _).drew) (fun hHeld => ?_)
  refine wpAnyH_takeD (i := 0) (v := ?_) (some 77) rfl rfl (by kernel_rfl) (by kernel_rfl) (by kernel_rfl) (fun _ _ _ h => h) (Or.inl ⟨by rfl, ?_⟩) (by assumption) ?_
  rotate_left
  · intro w' hSw
    go_simp
    first | done | with_reducible rfl
  try simp only [Go.Act.put, List.setIfInBounds_toArray, List.set_cons_zero, List.set_cons_succ]
  refine wpAnyH_takeD (i := 1) (v := ?_) (some 78) rfl rfl (by kernel_rfl) (by kernel_rfl) (by kernel_rfl) (fun _ _ _ h => h) (Or.inl ⟨by rfl, ?_⟩) (by assumption) ?_
  rotate_left
  · intro w' hSw
    go_simp
    first | done | with_reducible rfl
  try simp only [Go.Act.put, List.setIfInBounds_toArray, List.set_cons_zero, List.set_cons_succ]
  refine wpAnyH_takeD (i := 2) (v := ?_) (some 79) rfl rfl (by kernel_rfl) (by kernel_rfl) (by kernel_rfl) (fun _ _ _ h => h) (Or.inl ⟨by rfl, ?_⟩) (by assumption) ?_
  rotate_left
  · intro w' hSw
    obtain ⟨q0, q1, q2, q3⟩ := CL.out w' hSw
    go_simp
    first | done | with_reducible rfl
  try simp only [Go.Act.put, List.setIfInBounds_toArray, List.set_cons_zero, List.set_cons_succ]
  refine wpAnyH_takeD (i := 4) (v := ?_) (some 81) rfl rfl (by kernel_rfl) (by kernel_rfl) (by kernel_rfl) (fun _ _ _ h => h) (Or.inl ⟨by rfl, ?_⟩) (by assumption) ?_
  rotate_left
  · intro w' hSw
    go_simp
    first | done | with_reducible rfl
  try simp only [Go.Act.put, List.setIfInBounds_toArray, List.set_cons_zero, List.set_cons_succ]
  refine wpAnyH_takeD (i := 5) (v := ?_) (some 82) rfl rfl (by kernel_rfl) (by kernel_rfl) (by kernel_rfl) (fun _ _ _ h => h) (Or.inl ⟨by rfl, ?_⟩) (by assumption) ?_
  rotate_left
  · intro w' hSw
    go_simp
    first | done | with_reducible rfl
  try simp only [Go.Act.put, List.setIfInBounds_toArray, List.set_cons_zero, List.set_cons_succ]
  refine wpAnyH_takeD (i := 6) (v := ?_) (some 83) rfl rfl (by kernel_rfl) (by kernel_rfl) (by kernel_rfl) (fun _ _ _ h => h) (Or.inl ⟨by rfl, ?_⟩) (by assumption) ?_
  rotate_left
  · intro w' hSw
    obtain ⟨q0, q1, q2, q3⟩ := CL.out w' hSw
    go_simp
    first | done | with_reducible rfl
  try simp only [Go.Act.put, List.setIfInBounds_toArray, List.set_cons_zero, List.set_cons_succ]
  refine wpAnyH_ready (rs := [3]) (by kernel_rfl) (by simp) ?_
  refine AllReadyH.cons rfl (fun K hK => ?_) AllReadyH.nil
  go_simp
  refine (CS.out _ ((Fr.refl _ _).drew)).mono ?_; rintro e w4 ⟨rfl, F4, R4, f4, n4⟩
  have f4' : Fr F W w4 := ((Fr.refl _ _).drew).trans f4 (fun _ _ h => h)
  have HP4 := Lib.hid ((HY.out.two.quiet ((Fr.refl _ _).drew)).dstep R4 f4 n4)
  have C2 := Lib.hid (CS2.out _ _ _ HP4.out f4')
  try go_simp
  refine hK.out _ _ (f4'.mono (fun _ _ h => .inl h)) (fun hHeld => ?_)
  clear hK K
  try change wpAnyH _ _ _ _ _ _ _ (Go.Act.put _ (some 80) _) _
  try simp only [Go.Act.put, List.setIfInBounds_toArray, List.set_cons_zero, List.set_cons_succ]
  clear R4 f4 n4 CS f4' CS2
  refine wpAnyH_ready (rs := [7]) (by kernel_rfl) (by simp) ?_
  refine AllReadyH.cons rfl (fun K hK => ?_) AllReadyH.nil
  go_simp
  refine C2.out.mono ?_; rintro e w6 ⟨rfl, k6⟩
  obtain ⟨G6, hP6, f6⟩ := HP4.out.rstep k6
  have HZ := Lib.hid hP6
  try go_simp
  refine hK.out _ _ (hHeld.trans f6 (fun _ _ h => .inr h)) (fun hHeld => ?_)
  clear hK K
  try change wpAnyH _ _ _ _ _ _ _ (Go.Act.put _ (some 84) _) _
  try simp only [Go.Act.put, List.setIfInBounds_toArray, List.set_cons_zero, List.set_cons_succ]
  have hzz : (s.wR a == s.wR a) = true := by simp
  clear k6 hP6 f6 C2 HP4 HY CL hl hsn hcu hk
  generalize s.wR a = z at *
  refine wpAnyH_takeD (i := 8) (v := ?_) (some 85) rfl rfl (by kernel_rfl) (by kernel_rfl) (by kernel_rfl) (fun _ _ _ h => h) (Or.inl ⟨by rfl, ?_⟩) (by assumption) ?_
  rotate_left
  · intro w' hSw
    go_simp
    first | done | with_reducible rfl
  try simp only [Go.Act.put, List.setIfInBounds_toArray, List.set_cons_zero, List.set_cons_succ]
  refine wpAnyH_takeD (i := 9) (v := ?_) (some 6) rfl rfl (by kernel_rfl) (by kernel_rfl) (by kernel_rfl) (fun _ _ _ h => h) (Or.inl ⟨by rfl, ?_⟩) (by assumption) ?_
  rotate_left
  · intro w' hSw
    go_simp
    first | done | with_reducible rfl
  try simp only [Go.Act.put, List.setIfInBounds_toArray, List.set_cons_zero, List.set_cons_succ]
  refine wpAnyH_done (by kernel_rfl) ?_ _
  clear hHeld
  go_wp2
  go_ret
  exact ⟨rfl, _, _, HZ.out⟩

set_option maxRecDepth 100000 in
set_option maxHeartbeats 4000000 in
theorem step_cut {w wi : World} {g gr k : Nat} {s : NS} {F G : Nat → Prop} {A : Option Addr} {bs : List UInt8} (h : Hnd w wi g s F gr G k A bs) (a b : Int) (n c : Nat) (hn : bs.length = n) :
    Calls Try.prog 11 #[.pointer (some ⟨g, 0, none⟩), .pointer (some ⟨gr, 0, none⟩), .agg #[.int .i64 5, .int .i64 a, .int .i64 b, .slice A n c]] wi fun e w' => e = .returned (.bool true) ∧ ∃ F' G', Pair w w' g (s.stp ⟨5, a, b, A, c, bs⟩) F' gr (s.stp ⟨5, a, b, A, c, bs⟩) G' := by
  have hst : s.stp ⟨5, a, b, A, c, bs⟩ = s.cutS a b := rfl
  rw [hst]
  clear hst
  obtain ⟨W, hW⟩ : ∃ W, wi.alloc (.cells #[.int .i64 5, .int .i64 a, .int .i64 b, .slice A n c] 35) = W := ⟨_, rfl⟩
  obtain ⟨ga, hga⟩ : ∃ ga, wi.heap.size = ga := ⟨_, rfl⟩
  have fW : Fr (fun _ => False) wi W := by rw [← hW]; exact (Fr.refl _ _).alloc _
  have bW : Bk W ga 35 #[.int .i64 5, .int .i64 a, .int .i64 b, .slice A n c] := by rw [← hW, ← hga]; exact Bk.new _ _ _
  have HY := Lib.hid (h.q0 fW)
  have ngF : ¬ F ga := fun e => by have := h.two.run.lt e; omega
  have ngG : ¬ G ga := fun e => by have := h.two.ref.lt e; omega
  have CL := Lib.hid (fun w' (hf : Fr (fun x => F x ∨ G x) W w') => have hb := bW.fr hf (fun h => h.elim ngF ngG); show w'.cell? ⟨ga, 0, none⟩ = some (.int .i64 5) ∧ w'.cell? ⟨ga, 1, none⟩ = some (.int .i64 a) ∧ w'.cell? ⟨ga, 2, none⟩ = some (.int .i64 b) ∧ w'.cell? ⟨ga, 3, none⟩ = some (.slice A n c) from ⟨hb.cell 0, hb.cell 1, hb.cell 2, hb.cell 3⟩)
  obtain ⟨p0, p1, p2, p3⟩ := CL.out W (Fr.refl _ _)
  have hl := h.inv.l
  have hsn := h.inv.sent
  have hcu := h.inv.cuts
  have hk := h.hk
  clear h fW bW ngF ngG
  have CS := Lib.hid (fun (w' : World) (hf : Fr (fun _ => False) W w') => (HY.out.two.quiet hf).run.cutC (by omega) a b)
  have CS2 := Lib.hid (fun (w' : World) (F' : Nat → Prop) (s' : NS) (hP : Pair w w' g s' F' gr s G) (hf : Fr F W w') => hP.ref.cut (by omega) (by omega) a b)
  go_enter Try.func11, Try.ntmps11
  go_wp2_with fail
  clear hW hga p0 p1 p2 p3
  refine wp_region_held_drew (S := fun w' => Fr (fun x => F x ∨ G x) W w') (by kernel_rfl) ((Fr.refl _ _).drew) (fun hHeld => ?_)
  refine wpAnyH_takeD (i := 0) (v := ?_) (some 88) rfl rfl (by kernel_rfl) (by kernel_rfl) (by kernel_rfl) (fun _ _ _ h => h) (Or.inl ⟨by rfl, ?_⟩) (by assumption) ?_
  rotate_left
  · intro w' hSw
    go_simp
    first | done | with_reducible rfl
  try simp only [Go.Act.put, List.setIfInBounds_toArray, List.set_cons_zero, List.set_cons_succ]
  refine wpAnyH_takeD (i := 1) (v := ?_) (some 89) rfl rfl (by kernel_rfl) (by kernel_rfl) (by kernel_rfl) (fun _ _ _ h => h) (Or.inl ⟨by rfl, ?_⟩) (by assumption) ?_
  rotate_left
  · intro w' hSw
    go_simp
    first | done | with_reducible rfl
  try simp only [Go.Act.put, List.setIfInBounds_toArray, List.set_cons_zero, List.set_cons_succ]
  refine wpAnyH_takeD (i := 2) (v := ?_) (some 90) rfl rfl (by kernel_rfl) (by kernel_rfl) (by kernel_rfl) (fun _ _ _ h => h) (Or.inl ⟨by rfl, ?_⟩) (by assumption) ?_
  rotate_left
  · intro w' hSw
    obtain ⟨q0, q1, q2, q3⟩ := CL.out w' hSw
    go_simp
    first | done | with_reducible rfl
  try simp only [Go.Act.put, List.setIfInBounds_toArray, List.set_cons_zero, List.set_cons_succ]
  refine wpAnyH_takeD (i := 3) (v := ?_) (some 91) rfl rfl (by kernel_rfl) (by kernel_rfl) (by kernel_rfl) (fun _ _ _ h => h) (Or.inl ⟨by rfl, ?_⟩) (by assumption) ?_
  rotate_left
  · intro w' hSw
    go_simp
    first | done | with_reducible rfl
  try simp only [Go.Act.put, List.setIfInBounds_toArray, List.set_cons_zero, List.set_cons_succ]
  refine wpAnyH_takeD (i := 4) (v := ?_) (some 92) rfl rfl (by kernel_rfl) (by kernel_rfl) (by kernel_rfl) (fun _ _ _ h => h) (Or.inl ⟨by rfl, ?_⟩) (by assumption) ?_
  rotate_left
  · intro w' hSw
    obtain ⟨q0, q1, q2, q3⟩ := CL.out w' hSw
    go_simp
    first | done | with_reducible rfl
  try simp only [Go.Act.put, List.setIfInBounds_toArray, List.set_cons_zero, List.set_cons_succ]
  refine wpAnyH_takeD (i := 6) (v := ?_) (some 94) rfl rfl (by kernel_rfl) (by kernel_rfl) (by kernel_rfl) (fun _ _ _ h => h) (Or.inl ⟨by rfl, ?_⟩) (by assumption) ?_
  rotate_left
  · intro w' hSw
    go_simp
    first | done | with_reducible rfl
  try simp only [Go.Act.put, List.setIfInBounds_toArray, List.set_cons_zero, List.set_cons_succ]
  refine wpAnyH_takeD (i := 7) (v := ?_) (some 95) rfl rfl (by kernel_rfl) (by kernel_rfl) (by kernel_rfl) (fun _ _ _ h => h) (Or.inl ⟨by rfl, ?_⟩) (by assumption) ?_
  rotate_left
  · intro w' hSw
    go_simp
    first | done | with_reducible rfl
  try simp only [Go.Act.put, List.setIfInBounds_toArray, List.set_cons_zero, List.set_cons_succ]
  refine wpAnyH_takeD (i := 8) (v := ?_) (some 96) rfl rfl (by kernel_rfl) (by kernel_rfl) (by kernel_rfl) (fun _ _ _ h => h) (Or.inl ⟨by rfl, ?_⟩) (by assumption) ?_
  rotate_left
  · intro w' hSw
    obtain ⟨q0, q1, q2, q3⟩ := CL.out w' hSw
    go_simp
    first | done | with_reducible rfl
  try simp only [Go.Act.put, List.setIfInBounds_toArray, List.set_cons_zero, List.set_cons_succ]
  refine wpAnyH_takeD (i := 9) (v := ?_) (some 97) rfl rfl (by kernel_rfl) (by kernel_rfl) (by kernel_rfl) (fun _ _ _ h => h) (Or.inl ⟨by rfl, ?_⟩) (by assumption) ?_
  rotate_left
  · intro w' hSw
    go_simp
    first | done | with_reducible rfl
  try simp only [Go.Act.put, List.setIfInBounds_toArray, List.set_cons_zero, List.set_cons_succ]
  refine wpAnyH_takeD (i := 10) (v := ?_) (some 98) rfl rfl (by kernel_rfl) (by kernel_rfl) (by kernel_rfl) (fun _ _ _ h => h) (Or.inl ⟨by rfl, ?_⟩) (by assumption) ?_
  rotate_left
  · intro w' hSw
    obtain ⟨q0, q1, q2, q3⟩ := CL.out w' hSw
    go_simp
    first | done | with_reducible rfl
  try simp only [Go.Act.put, List.setIfInBounds_toArray, List.set_cons_zero, List.set_cons_succ]
  refine wpAnyH_ready (rs := [5]) (by kernel_rfl) (by simp) ?_
  refine AllReadyH.cons rfl (fun K hK => ?_) AllReadyH.nil
  go_simp
  refine (CS.out _ ((Fr.refl _ _).drew)).mono ?_; rintro e w4 ⟨rfl, F4, R4, f4, n4⟩
  have f4' : Fr F W w4 := ((Fr.refl _ _).drew).trans f4 (fun _ _ h => h)
  have HP4 := Lib.hid ((HY.out.two.quiet ((Fr.refl _ _).drew)).dstep R4 f4 n4)
  have C2 := Lib.hid (CS2.out _ _ _ HP4.out f4')
  try go_simp
  refine hK.out _ _ (f4'.mono (fun _ _ h => .inl h)) (fun hHeld => ?_)
  clear hK K
  try change wpAnyH _ _ _ _ _ _ _ (Go.Act.put _ (some 93) _) _
  try simp only [Go.Act.put, List.setIfInBounds_toArray, List.set_cons_zero, List.set_cons_succ]
  clear R4 f4 n4 CS f4' CS2
  refine wpAnyH_ready (rs := [11]) (by kernel_rfl) (by simp) ?_
  refine AllReadyH.cons rfl (fun K hK => ?_) AllReadyH.nil
  go_simp
  refine C2.out.mono ?_; rintro e w6 ⟨rfl, k6⟩
  obtain ⟨G6, hP6, f6⟩ := HP4.out.rstep k6
  have HZ := Lib.hid hP6
  try go_simp
  refine hK.out _ _ (hHeld.trans f6 (fun _ _ h => .inr h)) (fun hHeld => ?_)
  clear hK K
  try change wpAnyH _ _ _ _ _ _ _ (Go.Act.put _ (some 99) _) _
  try simp only [Go.Act.put, List.setIfInBounds_toArray, List.set_cons_zero, List.set_cons_succ]
  have hzz : (s.cutR a b == s.cutR a b) = true := by simp
  clear k6 hP6 f6 C2 HP4 HY CL hl hsn hcu hk
  generalize s.cutR a b = z at *
  refine wpAnyH_takeD (i := 12) (v := ?_) (some 100) rfl rfl (by kernel_rfl) (by kernel_rfl) (by kernel_rfl) (fun _ _ _ h => h) (Or.inl ⟨by rfl, ?_⟩) (by assumption) ?_
  rotate_left
  · intro w' hSw
    go_simp
    first | done | with_reducible rfl
  try simp only [Go.Act.put, List.setIfInBounds_toArray, List.set_cons_zero, List.set_cons_succ]
  refine wpAnyH_takeD (i := 13) (v := ?_) (some 6) rfl rfl (by kernel_rfl) (by kernel_rfl) (by kernel_rfl) (fun _ _ _ h => h) (Or.inl ⟨by rfl, ?_⟩) (by assumption) ?_
  rotate_left
  · intro w' hSw
    go_simp
    first | done | with_reducible rfl
  try simp only [Go.Act.put, List.setIfInBounds_toArray, List.set_cons_zero, List.set_cons_succ]
  refine wpAnyH_done (by kernel_rfl) ?_ _
  clear hHeld
  go_wp2
  go_ret
  exact ⟨rfl, _, _, HZ.out⟩

set_option maxRecDepth 100000 in
set_option maxHeartbeats 4000000 in
theorem step_clear {w wi : World} {g gr k : Nat} {s : NS} {F G : Nat → Prop} {A : Option Addr} {bs : List UInt8} (h : Hnd w wi g s F gr G k A bs) (a b : Int) (n c : Nat) (hn : bs.length = n) :
    Calls Try.prog 11 #[.pointer (some ⟨g, 0, none⟩), .pointer (some ⟨gr, 0, none⟩), .agg #[.int .i64 7, .int .i64 a, .int .i64 b, .slice A n c]] wi fun e w' => e = .returned (.bool true) ∧ ∃ F' G', Pair w w' g (s.stp ⟨7, a, b, A, c, bs⟩) F' gr (s.stp ⟨7, a, b, A, c, bs⟩) G' := by
  have hst : s.stp ⟨7, a, b, A, c, bs⟩ = s.clear a := rfl
  rw [hst]
  clear hst
  obtain ⟨W, hW⟩ : ∃ W, wi.alloc (.cells #[.int .i64 7, .int .i64 a, .int .i64 b, .slice A n c] 35) = W := ⟨_, rfl⟩
  obtain ⟨ga, hga⟩ : ∃ ga, wi.heap.size = ga := ⟨_, rfl⟩
  have fW : Fr (fun _ => False) wi W := by rw [← hW]; exact (Fr.refl _ _).alloc _
  have bW : Bk W ga 35 #[.int .i64 7, .int .i64 a, .int .i64 b, .slice A n c] := by rw [← hW, ← hga]; exact Bk.new _ _ _
  have HY := Lib.hid (h.q0 fW)
  have ngF : ¬ F ga := fun e => by have := h.two.run.lt e; omega
  have ngG : ¬ G ga := fun e => by have := h.two.ref.lt e; omega
  have CL := Lib.hid (fun w' (hf : Fr (fun x => F x ∨ G x) W w') => have hb := bW.fr hf (fun h => h.elim ngF ngG); show w'.cell? ⟨ga, 0, none⟩ = some (.int .i64 7) ∧ w'.cell? ⟨ga, 1, none⟩ = some (.int .i64 a) ∧ w'.cell? ⟨ga, 2, none⟩ = some (.int .i64 b) ∧ w'.cell? ⟨ga, 3, none⟩ = some (.slice A n c) from ⟨hb.cell 0, hb.cell 1, hb.cell 2, hb.cell 3⟩)
  obtain ⟨p0, p1, p2, p3⟩ := CL.out W (Fr.refl _ _)
  have hl := h.inv.l
  have hsn := h.inv.sent
  have hcu := h.inv.cuts
  have hk := h.hk
  clear h fW bW ngF ngG
  have CS := Lib.hid (fun (w' : World) (hf : Fr (fun _ => False) W w') => (HY.out.two.quiet hf).run.clearC (by omega) a)
  have CS2 := Lib.hid (fun (w' : World) (F' : Nat → Prop) (s' : NS) (hP : Pair w w' g s' F' gr s G) (hf : Fr F W w') => hP.ref.clear HY.out.inv.ok (by omega) a)
  go_enter Try.func11, Try.ntmps11
  go_wp2_with fail
  clear hW hga p0 p1 p2 p3
  refine wp_region_held_drew (S := fun w' => Fr (fun x => F x ∨ G x) W w') (by kernel_rfl) ((Fr.refl _ _).drew) (fun hHeld => ?_)
  refine wpAnyH_takeD (i := 0) (v := ?_) (some 110) rfl rfl (by kernel_rfl) (by kernel_rfl) (by kernel_rfl) (fun _ _ _ h => h) (Or.inl ⟨by rfl, ?_⟩) (by assumption) ?_
  rotate_left
  · intro w' hSw
    go_simp
    first | done | with_reducible rfl
  try simp only [Go.Act.put, List.setIfInBounds_toArray, List.set_cons_zero, List.set_cons_succ]
  refine wpAnyH_takeD (i := 1) (v := ?_) (some 111) rfl rfl (by kernel_rfl) (by kernel_rfl) (by kernel_rfl) (fun _ _ _ h => h) (Or.inl ⟨by rfl, ?_⟩) (by assumption) ?_
  rotate_left
  · intro w' hSw
    go_simp
    first | done | with_reducible rfl
  try simp only [Go.Act.put, List.setIfInBounds_toArray, List.set_cons_zero, List.set_cons_succ]
  refine wpAnyH_takeD (i := 2) (v := ?_) (some 112) rfl rfl (by kernel_rfl) (by kernel_rfl) (by kernel_rfl) (fun _ _ _ h => h) (Or.inl ⟨by rfl, ?_⟩) (by assumption) ?_
  rotate_left
  · intro w' hSw
    obtain ⟨q0, q1, q2, q3⟩ := CL.out w' hSw
    go_simp
    first | done | with_reducible rfl
  try simp only [Go.Act.put, List.setIfInBounds_toArray, List.set_cons_zero, List.set_cons_succ]
  refine wpAnyH_takeD (i := 4) (v := ?_) (some 114) rfl rfl (by kernel_rfl) (by kernel_rfl) (by kernel_rfl) (fun _ _ _ h => h) (Or.inl ⟨by rfl, ?_⟩) (by assumption) ?_
  rotate_left
  · intro w' hSw
    go_simp
    first | done | with_reducible rfl
  try simp only [Go.Act.put, List.setIfInBounds_toArray, List.set_cons_zero, List.set_cons_succ]
  refine wpAnyH_takeD (i := 5) (v := ?_) (some 115) rfl rfl (by kernel_rfl) (by kernel_rfl) (by kernel_rfl) (fun _ _ _ h => h) (Or.inl ⟨by rfl, ?_⟩) (by assumption) ?_
  rotate_left
  · intro w' hSw
    go_simp
    first | done | with_reducible rfl
  try simp only [Go.Act.put, List.setIfInBounds_toArray, List.set_cons_zero, List.set_cons_succ]
  refine wpAnyH_takeD (i := 6) (v := ?_) (some 116) rfl rfl (by kernel_rfl) (by kernel_rfl) (by kernel_rfl) (fun _ _ _ h => h) (Or.inl ⟨by rfl, ?_⟩) (by assumption) ?_
  rotate_left
  · intro w' hSw
    obtain ⟨q0, q1, q2, q3⟩ := CL.out w' hSw
    go_simp
    first | done | with_reducible rfl
  try simp only [Go.Act.put, List.setIfInBounds_toArray, List.set_cons_zero, List.set_cons_succ]
  refine wpAnyH_ready (rs := [3]) (by kernel_rfl) (by simp) ?_
  refine AllReadyH.cons rfl (fun K hK => ?_) AllReadyH.nil
  go_simp
  refine (CS.out _ ((Fr.refl _ _).drew)).mono ?_; rintro e w4 ⟨rfl, F4, R4, f4, n4⟩
  have f4' : Fr F W w4 := ((Fr.refl _ _).drew).trans f4 (fun _ _ h => h)
  have HP4 := Lib.hid ((HY.out.two.quiet ((Fr.refl _ _).drew)).dstep R4 f4 n4)
  have C2 := Lib.hid (CS2.out _ _ _ HP4.out f4')
  try go_simp
  refine hK.out _ _ (f4'.mono (fun _ _ h => .inl h)) (fun hHeld => ?_)
  clear hK K
  try change wpAnyH _ _ _ _ _ _ _ (Go.Act.put _ (some 113) _) _
  try simp only [Go.Act.put, List.setIfInBounds_toArray, List.set_cons_zero, List.set_cons_succ]
  clear R4 f4 n4 CS f4' CS2
  refine wpAnyH_ready (rs := [7]) (by kernel_rfl) (by simp) ?_
  refine AllReadyH.cons rfl (fun K hK => ?_) AllReadyH.nil
  go_simp
  refine C2.out.mono ?_; rintro e w6 ⟨rfl, k6⟩
  obtain ⟨G6, hP6, f6⟩ := HP4.out.rstep k6
  have HZ := Lib.hid hP6
  try go_simp
  refine hK.out _ _ (hHeld.trans f6 (fun _ _ h => .inr h)) (fun hHeld => ?_)
  clear hK K
  try change wpAnyH _ _ _ _ _ _ _ (Go.Act.put _ (some 117) _) _
  try simp only [Go.Act.put, List.setIfInBounds_toArray, List.set_cons_zero, List.set_cons_succ]
  have hzz : (((s.l.length : Int) - ((s.clear a).l.length : Int)) == ((s.l.length : Int) - ((s.clear a).l.length : Int))) = true := by simp
  clear k6 hP6 f6 C2 HP4 HY CL hl hsn hcu hk
  generalize ((s.l.length : Int) - ((s.clear a).l.length : Int)) = z at *
  refine wpAnyH_takeD (i := 8) (v := ?_) (some 118) rfl rfl (by kernel_rfl) (by kernel_rfl) (by kernel_rfl) (fun _ _ _ h => h) (Or.inl ⟨by rfl, ?_⟩) (by assumption) ?_
  rotate_left
  · intro w' hSw
    go_simp
    first | done | with_reducible rfl
  try simp only [Go.Act.put, List.setIfInBounds_toArray, List.set_cons_zero, List.set_cons_succ]
  refine wpAnyH_takeD (i := 9) (v := ?_) (some 6) rfl rfl (by kernel_rfl) (by kernel_rfl) (by kernel_rfl) (fun _ _ _ h => h) (Or.inl ⟨by rfl, ?_⟩) (by assumption) ?_
  rotate_left
  · intro w' hSw
    go_simp
    first | done | with_reducible rfl
  try simp only [Go.Act.put, List.setIfInBounds_toArray, List.set_cons_zero, List.set_cons_succ]
  refine wpAnyH_done (by kernel_rfl) ?_ _
  clear hHeld
  go_wp2
  go_ret
  exact ⟨rfl, _, _, HZ.out⟩

set_option maxRecDepth 100000 in
set_option maxHeartbeats 4000000 in
theorem step_heal {w wi : World} {g gr k : Nat} {s : NS} {F G : Nat → Prop} {A : Option Addr} {bs : List UInt8} (h : Hnd w wi g s F gr G k A bs) (a b : Int) (n c : Nat) (hn : bs.length = n) :
    Calls Try.prog 11 #[.pointer (some ⟨g, 0, none⟩), .pointer (some ⟨gr, 0, none⟩), .agg #[.int .i64 6, .int .i64 a, .int .i64 b, .slice A n c]] wi fun e w' => e = .returned (.bool true) ∧ ∃ F' G', Pair w w' g (s.stp ⟨6, a, b, A, c, bs⟩) F' gr (s.stp ⟨6, a, b, A, c, bs⟩) G' := by
  have hst : s.stp ⟨6, a, b, A, c, bs⟩ = s.heal := rfl
  rw [hst]
  clear hst
  obtain ⟨W, hW⟩ : ∃ W, wi.alloc (.cells #[.int .i64 6, .int .i64 a, .int .i64 b, .slice A n c] 35) = W := ⟨_, rfl⟩
  obtain ⟨ga, hga⟩ : ∃ ga, wi.heap.size = ga := ⟨_, rfl⟩
  have fW : Fr (fun _ => False) wi W := by rw [← hW]; exact (Fr.refl _ _).alloc _
  have bW : Bk W ga 35 #[.int .i64 6, .int .i64 a, .int .i64 b, .slice A n c] := by rw [← hW, ← hga]; exact Bk.new _ _ _
  have HY := Lib.hid (h.q0 fW)
  have ngF : ¬ F ga := fun e => by have := h.two.run.lt e; omega
  have ngG : ¬ G ga := fun e => by have := h.two.ref.lt e; omega
  have CL := Lib.hid (fun w' (hf : Fr (fun x => F x ∨ G x) W w') => have hb := bW.fr hf (fun h => h.elim ngF ngG); show w'.cell? ⟨ga, 0, none⟩ = some (.int .i64 6) ∧ w'.cell? ⟨ga, 1, none⟩ = some (.int .i64 a) ∧ w'.cell? ⟨ga, 2, none⟩ = some (.int .i64 b) ∧ w'.cell? ⟨ga, 3, none⟩ = some (.slice A n c) from ⟨hb.cell 0, hb.cell 1, hb.cell 2, hb.cell 3⟩)
  obtain ⟨p0, p1, p2, p3⟩ := CL.out W (Fr.refl _ _)
  have hl := h.inv.l
  have hsn := h.inv.sent
  have hcu := h.inv.cuts
  have hk := h.hk
  clear h fW bW ngF ngG
  have CS := Lib.hid (HY.out.two.run.healC)
  go_enter Try.func11, Try.ntmps11
  go_wp2_with fail
  clear hW hga p0 p1 p2 p3
  refine CS.out.mono ?_; rintro e w4 ⟨rfl, F4, R4, f4, n4⟩
  have hP4 := HY.out.two.dstep R4 f4 n4
  obtain ⟨G6, hP6, _⟩ := hP4.rstep hP4.ref.healed
  have HZ := Lib.hid hP6
  obtain ⟨m4, hm4, hG4, hl4⟩ := hP4.ref
  have rf4 : w4.frozen? ⟨gr, 3, none⟩ = false := hm4.blk.frozen 3
  have r4 : w4.cell? ⟨gr, 3, none⟩ = some m4.CV := hm4.cells rfl
  clear R4 f4 n4 CS hP4 hm4 hG4 hl4 hP6 HY CL
  obtain ⟨w6, hw6⟩ : ∃ w6, w4.setCell ⟨gr, 3, none⟩ (.slice none 0 0) = w6 := ⟨_, rfl⟩
  rw [hw6] at HZ
  go_wp2
  go_ret
  exact ⟨rfl, _, _, HZ.out⟩

set_option maxRecDepth 100000 in
set_option maxHeartbeats 4000000 in
theorem step_none {w wi : World} {g gr k : Nat} {s : NS} {F G : Nat → Prop} {A : Option Addr} {bs : List UInt8} (h : Hnd w wi g s F gr G k A bs) (op a b : Int) (n c : Nat) (hn : bs.length = n) (h1 : op ≠ 1) (h2 : op ≠ 2) (h3 : op ≠ 3) (h4 : op ≠ 4) (h5 : op ≠ 5) (h6 : op ≠ 6) (h7 : op ≠ 7) :
    Calls Try.prog 11 #[.pointer (some ⟨g, 0, none⟩), .pointer (some ⟨gr, 0, none⟩), .agg #[.int .i64 op, .int .i64 a, .int .i64 b, .slice A n c]] wi fun e w' => e = .returned (.bool true) ∧ ∃ F' G', Pair w w' g (s.stp ⟨op, a, b, A, c, bs⟩) F' gr (s.stp ⟨op, a, b, A, c, bs⟩) G' := by
  have hst : s.stp ⟨op, a, b, A, c, bs⟩ = s := by unfold NS.stp; simp only; rw [if_neg h1, if_neg h2, if_neg h3, if_neg h4, if_neg h5, if_neg h6, if_neg h7]
  rw [hst]
  clear hst
  obtain ⟨W, hW⟩ : ∃ W, wi.alloc (.cells #[.int .i64 op, .int .i64 a, .int .i64 b, .slice A n c] 35) = W := ⟨_, rfl⟩
  obtain ⟨ga, hga⟩ : ∃ ga, wi.heap.size = ga := ⟨_, rfl⟩
  have fW : Fr (fun _ => False) wi W := by rw [← hW]; exact (Fr.refl _ _).alloc _
  have bW : Bk W ga 35 #[.int .i64 op, .int .i64 a, .int .i64 b, .slice A n c] := by rw [← hW, ← hga]; exact Bk.new _ _ _
  have HY := Lib.hid (h.q0 fW)
  have ngF : ¬ F ga := fun e => by have := h.two.run.lt e; omega
  have ngG : ¬ G ga := fun e => by have := h.two.ref.lt e; omega
  have CL := Lib.hid (fun w' (hf : Fr (fun x => F x ∨ G x) W w') => have hb := bW.fr hf (fun h => h.elim ngF ngG); show w'.cell? ⟨ga, 0, none⟩ = some (.int .i64 op) ∧ w'.cell? ⟨ga, 1, none⟩ = some (.int .i64 a) ∧ w'.cell? ⟨ga, 2, none⟩ = some (.int .i64 b) ∧ w'.cell? ⟨ga, 3, none⟩ = some (.slice A n c) from ⟨hb.cell 0, hb.cell 1, hb.cell 2, hb.cell 3⟩)
  obtain ⟨p0, p1, p2, p3⟩ := CL.out W (Fr.refl _ _)
  have hl := h.inv.l
  have hsn := h.inv.sent
  have hcu := h.inv.cuts
  have hk := h.hk
  clear h fW bW ngF ngG
  have e1 : (op == 1) = false := by simpa using h1
  have e2 : (op == 2) = false := by simpa using h2
  have e3 : (op == 3) = false := by simpa using h3
  have e4 : (op == 4) = false := by simpa using h4
  have e5 : (op == 5) = false := by simpa using h5
  have e6 : (op == 6) = false := by simpa using h6
  have e7 : (op == 7) = false := by simpa using h7
  clear h1 h2 h3 h4 h5 h6 h7
  go_enter Try.func11, Try.ntmps11
  go_wp2
  go_ret
  exact ⟨rfl, _, _, HY.out.two⟩

set_option maxRecDepth 100000 in
set_option maxHeartbeats 4000000 in
theorem step_drop {w wi : World} {g gr k : Nat} {s : NS} {F G : Nat → Prop} {A : Option Addr} {bs : List UInt8} (h : Hnd w wi g s F gr G k A bs) (a b : Int) (n c : Nat) (hn : bs.length = n) :
    Calls Try.prog 11 #[.pointer (some ⟨g, 0, none⟩), .pointer (some ⟨gr, 0, none⟩), .agg #[.int .i64 3, .int .i64 a, .int .i64 b, .slice A n c]] wi fun e w' => e = .returned (.bool true) ∧ ∃ F' G', Pair w w' g (s.stp ⟨3, a, b, A, c, bs⟩) F' gr (s.stp ⟨3, a, b, A, c, bs⟩) G' := by
  have hst : s.stp ⟨3, a, b, A, c, bs⟩ = s.dropS a := rfl
  rw [hst]
  clear hst
  obtain ⟨W, hW⟩ : ∃ W, wi.alloc (.cells #[.int .i64 3, .int .i64 a, .int .i64 b, .slice A n c] 35) = W := ⟨_, rfl⟩
  obtain ⟨ga, hga⟩ : ∃ ga, wi.heap.size = ga := ⟨_, rfl⟩
  have fW : Fr (fun _ => False) wi W := by rw [← hW]; exact (Fr.refl _ _).alloc _
  have bW : Bk W ga 35 #[.int .i64 3, .int .i64 a, .int .i64 b, .slice A n c] := by rw [← hW, ← hga]; exact Bk.new _ _ _
  have HY := Lib.hid (h.q0 fW)
  have ngF : ¬ F ga := fun e => by have := h.two.run.lt e; omega
  have ngG : ¬ G ga := fun e => by have := h.two.ref.lt e; omega
  have CL := Lib.hid (fun w' (hf : Fr (fun x => F x ∨ G x) W w') => have hb := bW.fr hf (fun h => h.elim ngF ngG); show w'.cell? ⟨ga, 0, none⟩ = some (.int .i64 3) ∧ w'.cell? ⟨ga, 1, none⟩ = some (.int .i64 a) ∧ w'.cell? ⟨ga, 2, none⟩ = some (.int .i64 b) ∧ w'.cell? ⟨ga, 3, none⟩ = some (.slice A n c) from ⟨hb.cell 0, hb.cell 1, hb.cell 2, hb.cell 3⟩)
  obtain ⟨p0, p1, p2, p3⟩ := CL.out W (Fr.refl _ _)
  have hl := h.inv.l
  have hsn := h.inv.sent
  have hcu := h.inv.cuts
  have hk := h.hk
  clear h fW bW ngF ngG
  have CS := Lib.hid (HY.out.two.ref.take (by omega) a)
  go_enter Try.func11, Try.ntmps11
  go_wp2_with fail
  clear hW hga p0 p1 p2 p3
  refine CS.out.mono ?_; rintro e w4 ⟨K, rfl, hKe, hoe, k4⟩
  clear hKe hoe
  obtain ⟨G4, hP4, f4⟩ := HY.out.two.rstep k4
  have fa : Fr (fun _ => False) w4 (w4.alloc (.cells #[.int .i64 K.pk.fr, .int .i64 K.pk.to, .int .i64 (K.pk.n : Int), .slice K.A K.pk.bs.length K.c] 61)) := (Fr.refl _ _).alloc _
  have hP5 := hP4.quiet fa
  have HP5 := Lib.hid hP5
  have CS2 := Lib.hid (hP5.run.dropC (by omega) a)
  obtain ⟨p0, p1, p2, p3⟩ := CL.out _ ((f4.mono (fun _ _ h => .inr h)).trans fa (fun _ _ h => h.elim))
  clear CS hP4 f4 fa hP5 k4
  go_wp2_with fail
  refine CS2.out.mono ?_; rintro e w6 ⟨rfl, F6, R6, f6, n6⟩
  have HZ := Lib.hid (HP5.out.dstep R6 f6 n6)
  have hzz : (s.wR a == s.wR a) = true := by simp
  clear R6 f6 n6 CS2 HP5 p0 p1 p2 p3 HY CL hl hsn hcu hk
  generalize s.wR a = z at *
  go_wp2
  go_ret
  exact ⟨rfl, _, _, HZ.out⟩

set_option maxRecDepth 100000 in
set_option maxHeartbeats 4000000 in
theorem step_take {w wi : World} {g gr k : Nat} {s : NS} {F G : Nat → Prop} {A : Option Addr} {bs : List UInt8} (h : Hnd w wi g s F gr G k A bs) (a b : Int) (n c : Nat) (hn : bs.length = n) :
    Calls Try.prog 11 #[.pointer (some ⟨g, 0, none⟩), .pointer (some ⟨gr, 0, none⟩), .agg #[.int .i64 2, .int .i64 a, .int .i64 b, .slice A n c]] wi fun e w' => e = .returned (.bool true) ∧ ∃ F' G', Pair w w' g (s.stp ⟨2, a, b, A, c, bs⟩) F' gr (s.stp ⟨2, a, b, A, c, bs⟩) G' := by
  have hst : s.stp ⟨2, a, b, A, c, bs⟩ = s.dropS a := rfl
  rw [hst]
  clear hst
  obtain ⟨W, hW⟩ : ∃ W, wi.alloc (.cells #[.int .i64 2, .int .i64 a, .int .i64 b, .slice A n c] 35) = W := ⟨_, rfl⟩
  obtain ⟨ga, hga⟩ : ∃ ga, wi.heap.size = ga := ⟨_, rfl⟩
  have fW : Fr (fun _ => False) wi W := by rw [← hW]; exact (Fr.refl _ _).alloc _
  have bW : Bk W ga 35 #[.int .i64 2, .int .i64 a, .int .i64 b, .slice A n c] := by rw [← hW, ← hga]; exact Bk.new _ _ _
  have HY := Lib.hid (h.q0 fW)
  have ngF : ¬ F ga := fun e => by have := h.two.run.lt e; omega
  have ngG : ¬ G ga := fun e => by have := h.two.ref.lt e; omega
  have CL := Lib.hid (fun w' (hf : Fr (fun x => F x ∨ G x) W w') => have hb := bW.fr hf (fun h => h.elim ngF ngG); show w'.cell? ⟨ga, 0, none⟩ = some (.int .i64 2) ∧ w'.cell? ⟨ga, 1, none⟩ = some (.int .i64 a) ∧ w'.cell? ⟨ga, 2, none⟩ = some (.int .i64 b) ∧ w'.cell? ⟨ga, 3, none⟩ = some (.slice A n c) from ⟨hb.cell 0, hb.cell 1, hb.cell 2, hb.cell 3⟩)
  obtain ⟨p0, p1, p2, p3⟩ := CL.out W (Fr.refl _ _)
  have hl := h.inv.l
  have hsn := h.inv.sent
  have hcu := h.inv.cuts
  have hk := h.hk
  clear h fW bW ngF ngG
  have CS := Lib.hid (HY.out.two.run.takeC (by omega) a)
  go_enter Try.func11, Try.ntmps11
  go_wp2_with fail
  clear hW hga p0 p1 p2 p3
  refine CS.out.mono ?_; rintro e w4 ⟨K, rfl, hK, ho, hnw, F4, R4, f4, n4, hF4⟩
  have fa : Fr (fun _ => False) w4 (w4.alloc (.cells #[.int .i64 K.pk.fr, .int .i64 K.pk.to, .int .i64 (K.pk.n : Int), .slice K.A K.pk.bs.length K.c] 48)) := (Fr.refl _ _).alloc _
  have ka := Bk.new w4 48 #[.int .i64 K.pk.fr, .int .i64 K.pk.to, .int .i64 (K.pk.n : Int), .slice K.A K.pk.bs.length K.c]
  have hP5 := (HY.out.two.dstep R4 f4 n4).quiet fa
  have HP5 := Lib.hid hP5
  have CS2 := Lib.hid (hP5.ref.take (by omega) a)
  obtain ⟨p0, p1, p2, p3⟩ := CL.out _ ((f4.mono (fun _ _ h => .inl h)).trans fa (fun _ _ h => h.elim))
  have HO := Lib.hid (ho.fr fa (fun _ _ h => h))
  have HNW := Lib.hid (fun x hx => show ¬ G x from fun hG => by have h1 := hnw x hx; have h2 := HY.out.two.ref.lt hG; omega)
  have HKA := Lib.hid ka
  have HGA := Lib.hid (show ¬ G w4.heap.size from fun hG => by have h2 := HY.out.two.ref.lt hG; have h3 := f4.size; omega)
  have HK := Lib.hid hK
  obtain ⟨x, hx⟩ : ∃ x, w4.heap.size = x := ⟨_, rfl⟩
  rw [hx] at HKA HGA
  clear CS R4 f4 n4 hF4 fa hP5 ka ho hnw hK
  go_wp2_with fail
  clear p0 p1 p2 p3
  refine CS2.out.mono ?_; rintro e w6 ⟨K2, rfl, hK2, ho2, k6⟩
  obtain ⟨G6, hP6, f6⟩ := HP5.out.rstep k6
  have fb : Fr (fun _ => False) w6 (w6.alloc (.cells #[.int .i64 K2.pk.fr, .int .i64 K2.pk.to, .int .i64 (K2.pk.n : Int), .slice K2.A K2.pk.bs.length K2.c] 61)) := (Fr.refl _ _).alloc _
  have o1 := HO.out.fr f6 (fun y hy => HNW.out y hy)
  have kx := HKA.out.fr f6 HGA.out
  have ky := Bk.new w6 61 #[.int .i64 K2.pk.fr, .int .i64 K2.pk.to, .int .i64 (K2.pk.n : Int), .slice K2.A K2.pk.bs.length K2.c]
  obtain ⟨y, hy⟩ : ∃ y, w6.heap.size = y := ⟨_, rfl⟩
  obtain ⟨W7, hW7⟩ : ∃ W7, w6.alloc (.cells #[.int .i64 K2.pk.fr, .int .i64 K2.pk.to, .int .i64 (K2.pk.n : Int), .slice K2.A K2.pk.bs.length K2.c] 61) = W7 := ⟨_, rfl⟩
  have hs7 : W7.heap.size = y + 1 := by rw [← hW7, ← hy]; simp
  rw [hW7] at fb ky
  rw [hy] at ky
  have HZ := Lib.hid (hP6.quiet fb)
  have kx7 := kx.fr fb (fun h => h)
  have HO1 := Lib.hid (o1.fr fb (fun _ _ h => h))
  have HO2 := Lib.hid (ho2.fr fb (fun _ _ h => h))
  have x0 := kx7.cell 0
  have x1 := kx7.cell 1
  have x2 := kx7.cell 2
  have x3 := kx7.cell 3
  have y0 := ky.cell 0
  have y1 := ky.cell 1
  have y2 := ky.cell 2
  have y3 := ky.cell 3
  simp at x0 x1 x2 x3 y0 y1 y2 y3
  have hzz : (s.wR a == s.wR a) = true := by simp
  have hkk : K.pk = K2.pk := HK.out.trans hK2.symm
  have g1 : Fr (fun _ => False) W7 (W7.alloc (.cells #[.int .i64 K.pk.fr, .int .i64 K.pk.to, .int .i64 (K.pk.n : Int), .slice K.A K.pk.bs.length K.c] 48)) := (Fr.refl _ _).alloc _
  have g2 : Fr (fun _ => False) W7 ((W7.alloc (.cells #[.int .i64 K.pk.fr, .int .i64 K.pk.to, .int .i64 (K.pk.n : Int), .slice K.A K.pk.bs.length K.c] 48)).alloc (.cells #[.int .i64 K2.pk.fr, .int .i64 K2.pk.to, .int .i64 (K2.pk.n : Int), .slice K2.A K2.pk.bs.length K2.c] 61)) := g1.alloc _
  have b1 := (Bk.new W7 48 #[.int .i64 K.pk.fr, .int .i64 K.pk.to, .int .i64 (K.pk.n : Int), .slice K.A K.pk.bs.length K.c]).fr (show Fr (fun _ => False) _ ((W7.alloc (.cells #[.int .i64 K.pk.fr, .int .i64 K.pk.to, .int .i64 (K.pk.n : Int), .slice K.A K.pk.bs.length K.c] 48)).alloc (.cells #[.int .i64 K2.pk.fr, .int .i64 K2.pk.to, .int .i64 (K2.pk.n : Int), .slice K2.A K2.pk.bs.length K2.c] 61)) from (Fr.refl _ _).alloc _) (fun h => h)
  have b2 := Bk.new (W7.alloc (.cells #[.int .i64 K.pk.fr, .int .i64 K.pk.to, .int .i64 (K.pk.n : Int), .slice K.A K.pk.bs.length K.c] 48)) 61 #[.int .i64 K2.pk.fr, .int .i64 K2.pk.to, .int .i64 (K2.pk.n : Int), .slice K2.A K2.pk.bs.length K2.c]
  have t1 := Pks.one (HO1.out.fr g2 (fun _ _ h => h)) b1
  have t2 := Pks.one (HO2.out.fr g2 (fun _ _ h => h)) b2
  rw [hs7] at t1
  rw [allocSize, hs7] at t2
  have CM := Lib.hid (same_any _ _ 1 1 1 [K] [K2] _ t1 t2 (by simp [hkk]) (by omega))
  have HG2 := Lib.hid g2
  clear CS2 f6 k6 hP6 fb o1 kx ky kx7 ho2 hK2 hkk g1 g2 b1 b2 t1 t2 HO HNW HKA HGA HK HP5 HO1 HO2 CL HY hl hsn hcu hk
  generalize s.wR a = z at *
  go_wp2_with fail
  clear hW7 hy x0 x1 x2 x3 y0 y1 y2 y3
  refine CM.out.mono ?_; rintro e w9 ⟨rfl, f9⟩
  have HZ9 := Lib.hid (HZ.out.quiet (HG2.out.trans f9 (fun _ _ h => h)))
  clear f9 CM HG2
  go_wp2
  go_ret
  exact ⟨rfl, _, _, HZ9.out⟩

end Go.Proofs.Ytmlckocgahfnkaa
