/- match: calls upon lists and the reference's side by side, some blocks kept; the closure of a play's Keep. -/
import Derived.Test.YtkinbcmnfpkncaaSg
import Derived.Deep.LoopGhost
namespace Go.Proofs.Ytkinbcmnfpkncaa
open Go.RowKit Go.Maps Go.Shelf

/-- Both in memory, apart from each other and from X. -/
def PX (X : Nat → Prop) (w0 w : World) (gm gr : Nat) (t : MT Int) (most : Int) (L : List (Int × Int)) : Prop :=
  ∃ F1 F2, (Mt 55 tP IV w gm F1 t ∧ Rf w gr F2 most L ∧ (∀ k, F1 k → ¬ F2 k) ∧ (∀ k, F1 k → w0.heap.size ≤ k) ∧ (∀ k, F2 k → w0.heap.size ≤ k) ∧ Fr (fun _ => False) w0 w) ∧ (∀ k, F1 k → ¬ X k) ∧ (∀ k, F2 k → ¬ X k) ∧ (∀ k, X k → k < w.heap.size)
section
variable {X : Nat → Prop} {w0 w w' : World} {gm gr : Nat} {t t' : MT Int} {most : Int} {L L' : List (Int × Int)}
theorem PX.pb (h : PX X w0 w gm gr t most L) : PB w0 w gm gr t most L := by
  obtain ⟨F1, F2, h, _⟩ := h
  exact ⟨F1, F2, h⟩
theorem PB.px (h : PB w0 w gm gr t most L) (hf : Fr (fun _ => False) w w') (hX : ∀ k, X k → w.heap.size ≤ k ∧ k < w'.heap.size) : PX X w0 w' gm gr t most L := by
  obtain ⟨F1, F2, h1, ⟨v, h2⟩, h3, h4, h5, h6⟩ := h
  exact ⟨F1, F2, ⟨h1.fr0 hf, ⟨v, h2.fr0 hf⟩, h3, h4, h5, h6.trans hf (fun _ _ h => h)⟩, fun k hk hx => by have := h1.lt hk; have := (hX k hx).1; omega, fun k hk hx => by have := h2.flt k hk; have := (hX k hx).1; omega, fun k hx => (hX k hx).2⟩
theorem PX.fr (h : PX X w0 w gm gr t most L) (hf : Fr (fun _ => False) w w') : PX X w0 w' gm gr t most L := by
  obtain ⟨F1, F2, ⟨h1, ⟨v, h2⟩, h3, h4, h5, h6⟩, x1, x2, x3⟩ := h
  exact ⟨F1, F2, ⟨h1.fr0 hf, ⟨v, h2.fr0 hf⟩, h3, h4, h5, h6.trans hf (fun _ _ h => h)⟩, x1, x2, fun k hk => Nat.lt_of_lt_of_le (x3 k hk) hf.size⟩
/-- Blocks of X may turn. -/
theorem PX.turn (h : PX X w0 w gm gr t most L) (hf : Fr X w w') (hX : ∀ k, X k → w0.heap.size ≤ k) : PX X w0 w' gm gr t most L := by
  obtain ⟨F1, F2, ⟨⟨br, D, h1⟩, ⟨v, h2⟩, h3, h4, h5, h6⟩, x1, x2, x3⟩ := h
  exact ⟨F1, F2, ⟨⟨br, D, h1.fr hf x1⟩, ⟨v, h2.fr hf x2⟩, h3, h4, h5, h6.trans hf (fun k hk e => by have := hX k e; omega)⟩, x1, x2, fun k hk => Nat.lt_of_lt_of_le (x3 k hk) hf.size⟩
theorem px_m {F1 F2 : Nat → Prop} (h : (Mt 55 tP IV w gm F1 t ∧ Rf w gr F2 most L ∧ (∀ k, F1 k → ¬ F2 k) ∧ (∀ k, F1 k → w0.heap.size ≤ k) ∧ (∀ k, F2 k → w0.heap.size ≤ k) ∧ Fr (fun _ => False) w0 w) ∧ (∀ k, F1 k → ¬ X k) ∧ (∀ k, F2 k → ¬ X k) ∧ (∀ k, X k → k < w.heap.size)) (hto : MtTo 55 tP IV w gm F1 w' t') : PX X w0 w' gm gr t' most L ∧ Fr (fun k => ¬ X k) w w' := by
  obtain ⟨⟨h1, ⟨v, h2⟩, h3, h4, h5, h6⟩, x1, x2, x3⟩ := h
  obtain ⟨F', k1, k2, k3⟩ := hto
  refine ⟨⟨F', F2, ⟨k1, ⟨v, h2.fr k2 (fun k hk hk1 => h3 k hk1 hk)⟩, fun k hk hk2 => ?_, fun k hk => ?_, h5, h6.trans k2 (fun y hy e => by have := h4 y e; omega)⟩, fun k hk hx => ?_, x2, fun k hk => Nat.lt_of_lt_of_le (x3 k hk) k2.size⟩, k2.mono (fun k _ hk => x1 k hk)⟩
  · rcases k3 k hk with e | e
    · exact h3 k e hk2
    · have := h2.flt k hk2; omega
  · rcases k3 k hk with e | e
    · exact h4 k e
    · have := h6.size; omega
  · rcases k3 k hk with e | e
    · exact x1 k e hx
    · have := x3 k hx; omega
theorem px_r {F1 F2 : Nat → Prop} (h : (Mt 55 tP IV w gm F1 t ∧ Rf w gr F2 most L ∧ (∀ k, F1 k → ¬ F2 k) ∧ (∀ k, F1 k → w0.heap.size ≤ k) ∧ (∀ k, F2 k → w0.heap.size ≤ k) ∧ Fr (fun _ => False) w0 w) ∧ (∀ k, F1 k → ¬ X k) ∧ (∀ k, F2 k → ¬ X k) ∧ (∀ k, X k → k < w.heap.size)) (hto : RfTo w gr F2 w' most L') : PX X w0 w' gm gr t most L' ∧ Fr (fun k => ¬ X k) w w' := by
  obtain ⟨⟨h1, ⟨v, h2⟩, h3, h4, h5, h6⟩, x1, x2, x3⟩ := h
  obtain ⟨F', k1, k2, k3⟩ := hto
  have hl : ∀ k, F1 k → k < w.heap.size := fun k hk => h1.lt hk
  obtain ⟨br, D, h1⟩ := h1
  refine ⟨⟨F1, F', ⟨⟨br, D, h1.fr k2 (fun k hk hk2 => h3 k hk hk2)⟩, k1, fun k hk hk2 => ?_, h4, fun k hk => ?_, h6.trans k2 (fun y hy e => by have := h5 y e; omega)⟩, x1, fun k hk hx => ?_, fun k hk => Nat.lt_of_lt_of_le (x3 k hk) k2.size⟩, k2.mono (fun k _ hk => x2 k hk)⟩
  · rcases k3 k hk2 with e | e
    · exact h3 k hk e
    · have := hl k hk; omega
  · rcases k3 k hk with e | e
    · exact h5 k e
    · have := h6.size; omega
  · rcases k3 k hk with e | e
    · exact x2 k e hx
    · have := x3 k hx; omega
theorem PX.push (h : PX X w0 w gm gr t most L) (ok : t.ok) (hp : t.pushed ≤ 1000000) {c : Int} (hc : I64 c) (x : Int) (hnf : t.full c = false) :
    Calls Try.prog 9 #[.pointer (some ⟨gm, 0, none⟩), .int .i64 c, .int .i64 x] w fun e w' => e = .returned (.int .i64 0) ∧ PX X w0 w' gm gr (t.push c x) most L ∧ Fr (fun k => ¬ X k) w w' := by
  obtain ⟨F1, F2, h⟩ := h
  refine (push_I h.1.1 ok hp hc hnf).mono ?_
  rintro e w' ⟨rfl, hto⟩
  exact ⟨rfl, px_m h hto⟩
theorem PX.pushNo (h : PX X w0 w gm gr t most L) {c : Int} (hc : I64 c) (x : Value) (hnf : t.full c = true) :
    Calls Try.prog 9 #[.pointer (some ⟨gm, 0, none⟩), .int .i64 c, x] w fun e w' => e = .returned (.int .i64 4) ∧ PX X w0 w' gm gr t most L ∧ Fr (fun k => ¬ X k) w w' := by
  have h0 := h
  obtain ⟨F1, F2, h⟩ := h
  refine (pushNo_I h.1.1 hc x hnf).mono ?_
  rintro e w' ⟨rfl, hf⟩
  exact ⟨rfl, h0.fr hf, hf.mono (fun _ _ h => h.elim)⟩
theorem PX.pop (h : PX X w0 w gm gr t most L) (hp : t.pushed ≤ 1000000) {c : Int} (hc : I64 c) {v b : Value} (hv : hd_I (t.row c) = #[v, b]) :
    Calls Try.prog 11 #[.pointer (some ⟨gm, 0, none⟩), .int .i64 c] w fun e w' => e = .returned (.tuple #[v, b]) ∧ PX X w0 w' gm gr (t.pop c) most L ∧ Fr (fun k => ¬ X k) w w' := by
  obtain ⟨F1, F2, h⟩ := h
  refine (pop_I h.1.1 hp hc).mono ?_
  rintro e w' ⟨rfl, hto⟩
  exact ⟨by rw [hv], px_m h hto⟩
theorem PX.clear (h : PX X w0 w gm gr t most L) {c : Int} (hc : I64 c) :
    Calls Try.prog 17 #[.pointer (some ⟨gm, 0, none⟩), .int .i64 c] w fun e w' => e = .returned (.int .i64 ((t.row c).length : Nat)) ∧ PX X w0 w' gm gr (t.drop c []) most L ∧ Fr (fun k => ¬ X k) w w' := by
  obtain ⟨F1, F2, h⟩ := h
  have h9 := h
  obtain ⟨⟨⟨br, D, h1⟩, _⟩, _⟩ := h9
  refine (clear_I h1 hc).mono ?_
  rintro e w' ⟨rfl, hto⟩
  exact ⟨rfl, px_m h hto⟩
theorem PX.keep (h : PX X w0 w gm gr t most L) (ok : t.ok) (hp : t.pushed ≤ 1000000) {c : Int} (hc : I64 c) {ff : FuncId} {lb : Array Value} (p : Int → Bool) (hcf : ∀ args W, (callFunc ff args).run Try.prog W = .ok (.enter ff args) W)
    (hf : ∀ w', Fr (fun _ => False) w w' → ∀ x ∈ t.row c, Calls Try.prog ff (#[.int .i64 x.2] ++ lb) w' fun e w'' => e = .returned (.bool (p x.2)) ∧ ∃ q, w'' = w'.drewN q) :
    Calls Try.prog 13 #[.pointer (some ⟨gm, 0, none⟩), .int .i64 c, .func (.func ff) #[] lb] w fun e w' => e = .returned (.int .i64 ((t.row c).length - ((t.row c).filter fun x => p x.2).length : Nat)) ∧ PX X w0 w' gm gr (t.drop c ((t.row c).filter fun x => p x.2)) most L ∧ Fr (fun k => ¬ X k) w w' := by
  obtain ⟨F1, F2, h⟩ := h
  have h9 := h
  obtain ⟨⟨⟨br, D, h1⟩, _⟩, _⟩ := h9
  refine (keepD_I h1 ok hp hc p hcf hf).mono ?_
  rintro e w' ⟨rfl, hto⟩
  exact ⟨rfl, px_m h hto⟩
theorem PX.rpush (h : PX X w0 w gm gr t most L) (hl : L.length < 1000000) (c x : Int) :
    Calls Try.prog 10 #[.pointer (some ⟨gr, 0, none⟩), .int .i64 c, .int .i64 x] w fun e w' => (most ≤ (cntL L c : Nat) → e = .returned (.int .i64 4) ∧ PX X w0 w' gm gr t most L ∧ Fr (fun k => ¬ X k) w w') ∧ (¬ most ≤ (cntL L c : Nat) → e = .returned (.int .i64 0) ∧ PX X w0 w' gm gr t most (L ++ [(c, x)]) ∧ Fr (fun k => ¬ X k) w w') := by
  obtain ⟨F1, F2, h⟩ := h
  have h9 := h
  obtain ⟨⟨_, ⟨v, h2⟩, _⟩, _⟩ := h9
  refine (rpush_any h2 hl c x).mono ?_
  rintro e w' (⟨hm, rfl, hto⟩ | ⟨hm, rfl, hto⟩)
  · exact ⟨fun _ => ⟨rfl, px_r h hto⟩, fun hn => absurd hm hn⟩
  · exact ⟨fun hn => absurd hn hm, fun _ => ⟨rfl, px_r h hto⟩⟩
theorem PX.rpop (h : PX X w0 w gm gr t most L) (c : Int) :
    Calls Try.prog 12 #[.pointer (some ⟨gr, 0, none⟩), .int .i64 c] w fun e w' => e = .returned (.tuple (hdL L c)) ∧ PX X w0 w' gm gr t most (popL L c) ∧ Fr (fun k => ¬ X k) w w' := by
  obtain ⟨F1, F2, h⟩ := h
  have h9 := h
  obtain ⟨⟨_, ⟨v, h2⟩, _⟩, _⟩ := h9
  refine (rpop_any h2 c).mono ?_
  rintro e w' ⟨rfl, hto⟩
  exact ⟨rfl, px_r h hto⟩
theorem PX.rkeep (h : PX X w0 w gm gr t most L) (c b rest : Int) (hb : ¬ b = 0) :
    Calls Try.prog 15 #[.pointer (some ⟨gr, 0, none⟩), .int .i64 c, .int .i64 b, .int .i64 rest] w fun e w' => e = .returned (.int .i64 (L.length - (L.filter (keepQ c b rest)).length : Nat)) ∧ PX X w0 w' gm gr t most (L.filter (keepQ c b rest)) ∧ Fr (fun k => ¬ X k) w w' := by
  obtain ⟨F1, F2, h⟩ := h
  have h9 := h
  obtain ⟨⟨_, ⟨v, h2⟩, _⟩, _⟩ := h9
  refine (rkeep_any h2 c b rest hb).mono ?_
  rintro e w' ⟨rfl, hto⟩
  exact ⟨rfl, px_r h hto⟩
theorem PX.rlen (h : PX X w0 w gm gr t most L) (c : Int) :
    Calls Try.prog 16 #[.pointer (some ⟨gr, 0, none⟩), .int .i64 c] w fun e w' => e = .returned (.int .i64 (cntL L c : Nat)) ∧ w' = w := by
  obtain ⟨F1, F2, ⟨_, ⟨v, h2⟩, _⟩, _⟩ := h
  exact rlen_any h2 c
end

set_option maxRecDepth 100000 in
set_option maxHeartbeats 1000000 in
theorem playsF {w : World} {kb ka : Nat} {d rest : Int} (hb : w.cell? ⟨kb, 0, none⟩ = some (.int .i64 d)) (ha : w.cell? ⟨ka, 4, none⟩ = some (.int .i64 rest)) (h0 : ¬ d = 0) (y : Int) :
    Calls Try.prog 14 #[.int .i64 y, .pointer (some ⟨kb, 0, none⟩), .pointer (some ⟨ka, 0, none⟩)] w fun e w' => e = .returned (.bool (decide (y.tmod d = rest))) ∧ ∃ q, w' = w.drewN q := by
  obtain ⟨z, hz⟩ : ∃ z, y.tmod d = z := ⟨_, rfl⟩
  rw [hz]
  obtain ⟨f, hf⟩ : ∃ f, decide (z = rest) = f := ⟨_, rfl⟩
  have hf' : (z == rest) = f := by rw [← hf]; by_cases e : z = rest <;> simp [e]
  rw [hf]
  clear hf
  have qb : ∀ q, (w.drewN q).cell? ⟨kb, 0, none⟩ = some (.int .i64 d) := fun q => hb
  have qa : ∀ q, (w.drewN q).cell? ⟨ka, 4, none⟩ = some (.int .i64 rest) := fun q => ha
  go_enter Try.func14, Try.ntmps14
  go_wp2_with fail
  go_quiet (fail)
  go_wp2
  go_ret
  exact ⟨rfl, _, rfl⟩
end Go.Proofs.Ytkinbcmnfpkncaa
