/- The disk's calls: the newest of a sector; one more pending write; one that lasts. -/
import Derived.Test.YtnkkdpmmnenncaaUd
import Derived.Laws.CopyOwn
namespace Go.Proofs.Ytnkkdpmmnenncaa
open Go.RowKit Go.Maps

theorem OwnI.slice {w : World} {v : Value} {xs : List Int} (h : OwnI w v xs) : ∃ A c, v = .slice A xs.length c := by
  rcases h.form with ⟨rfl, rfl⟩ | ⟨g, cap, _, rfl, _⟩
  · exact ⟨none, 0, rfl⟩
  · exact ⟨_, _, rfl⟩
theorem Own8.slice {w : World} {e : TypeId} {v : Value} {xs : List UInt8} (h : Own8 w e v xs) : ∃ A c, v = .slice A xs.length c := by
  rcases h.form with ⟨rfl, rfl⟩ | ⟨g, cap, rfl, _, _⟩
  · exact ⟨none, 0, rfl⟩
  · exact ⟨_, _, rfl⟩

section
variable {w : World} {g : Nat} {s : DS} {m : ML}
theorem DskM.kg (h : DskM w g s m) : m.kb ≠ g := fun e => Bk.ne h.kept h.blk (by decide) e
theorem DskM.sg (h : DskM w g s m) : m.sV.ownBlock ≠ some g := h.secs.ne h.blk (by decide)
theorem DskM.sk (h : DskM w g s m) : m.sV.ownBlock ≠ some m.kb := h.secs.ne h.kept (by decide)
theorem DskM.bg (h : DskM w g s m) : m.bV.ownBlock ≠ some g := h.bytes.ne h.blk (by decide)
theorem DskM.mg (h : DskM w g s m) : m.mb ≠ g := fun e => h.map.ne h.blk e.symm
theorem DskM.mkb (h : DskM w g s m) : m.mb ≠ m.kb := fun e => h.map.ne h.kept e.symm
theorem DskM.sb (h : DskM w g s m) {k : Nat} (hk : m.sV.ownBlock = some k) : m.bV.ownBlock ≠ some k := by
  rcases h.secs.form with ⟨e, _⟩ | ⟨g1, cap, cur, e, _, _, hb, _⟩
  · rw [e] at hk; cases hk
  · rw [e] at hk
    have : g1 = k := by simpa [Value.ownBlock] using hk
    subst this
    exact h.bytes.ne hb (by decide)
theorem DskM.sm (h : DskM w g s m) : m.sV.ownBlock ≠ some m.mb := by
  rcases h.secs.form with ⟨e, _⟩ | ⟨g1, cap, cur, e, _, _, hb, _⟩
  · rw [e]; simp [Value.ownBlock]
  · rw [e]
    intro hk
    have : g1 = m.mb := by simpa [Value.ownBlock] using hk
    exact h.map.ne hb this
theorem DskM.bm (h : DskM w g s m) : m.bV.ownBlock ≠ some m.mb := by
  rcases h.bytes.2 with ⟨e, _⟩ | ⟨g1, cap, cur, e, _, hb, _⟩
  · rw [e]; simp [Value.ownBlock]
  · rw [e]
    intro hk
    have : g1 = m.mb := by simpa [Value.ownBlock] using hk
    exact h.map.ne (t := 5) hb this
end

theorem secs_at {q : List Pend} {i : Nat} (h : i < q.length) : (secs q)[i]'(by rw [secs_len]; exact h) = ((pAt q i).1 : Int) := by
  rw [pAt_eq h]; simp [secs]
/-- What the i-th pending write's slice reads as. -/
theorem DskM.pend {w : World} {g : Nat} {s : DS} {m : ML} (h : DskM w g s m) {i : Nat} (hi : i < s.q.length) :
    ∃ gs gb cs cb, m.sV = .slice (some ⟨gs, 0, none⟩) s.q.length cs ∧ m.bV = .slice (some ⟨gb, 0, none⟩) (s.q.length * s.sz) cb ∧ s.q.length * s.sz ≤ cb ∧ w.cell? ⟨gs, i, none⟩ = some (.int .i64 ((pAt s.q i).1 : Int)) ∧
      ∀ j (hj : j < (pAt s.q i).2.length), w.cell? ⟨gb, i * s.sz + j, none⟩ = some (.int .u8 ((pAt s.q i).2[j]).toNat) := by
  have hfl := h.ok.flen
  have hpos : 0 < s.q.length * s.sz := Nat.mul_pos (by omega) (by have := h.ok.s0; omega)
  rcases h.secs.form with ⟨_, h0⟩ | ⟨gs, cap, cur, e, h1, h2, h3, h4⟩
  · have := congrArg List.length h0
    rw [secs_len] at this
    simp at this
    rw [this] at hi; simp at hi
  · rcases h.bytes.form with ⟨_, h0⟩ | ⟨gb, cap2, e2, h5, h6⟩
    · rw [h0] at hfl; simp at hfl; omega
    · rw [secs_len] at e
      rw [hfl] at e2 h5
      refine ⟨gs, gb, cap, cap2, e, e2, h5, ?_, fun j hj => ?_⟩
      · rw [h3.cell i, h4 i (by rw [secs_len]; exact hi), secs_at hi]; rfl
      · have hl := h.ok.len _ (pAt_mem hi)
        have h7 := flat_at h.ok.len i hi j (by omega)
        have h8 : i * s.sz + j < (flat s.q).length := by
          rw [hfl]
          have : (i + 1) * s.sz ≤ s.q.length * s.sz := Nat.mul_le_mul_right _ hi
          rw [Nat.add_mul] at this; omega
        have hB := h.bytes
        rw [e2, ← hfl] at hB
        rw [hB.cell _ h8]
        rw [List.getElem?_eq_getElem h8, List.getElem?_eq_getElem hj] at h7
        injection h7 with h7
        rw [h7]

set_option maxRecDepth 100000 in
set_option maxHeartbeats 1000000 in
theorem last_none {g : Nat} {s : DS} {m : ML} {w : World} (h : DskM w g s m) (x : Nat) (hx : x < s.N) (hl : lastIx s.q x = none) :
    Calls Try.prog 43 #[.pointer (some ⟨g, 6, none⟩), .int .i64 (x : Int)] w fun e w' => e = .returned (.tuple #[.slice none 0 0, .bool false]) ∧ Fr (fun _ => False) w w' := by
  have c9 : w.cell? ⟨g, 9, none⟩ = some (.map (some m.mb)) := h.blk.cell 9
  have hh : Maps.has m.D (.int .i64 (x : Int)) = false := by rw [(h.newD.2 x).1, hl]; rfl
  have hx1 := h.ok.n1
  have hown := h.map
  have hkey : keyOf Try.prog 3 (.int .i64 (x : Int)) = some (.int .i64 (x : Int)) := I64.key ⟨by omega, by omega⟩
  obtain ⟨mA, mc, kb, sV, bV, mb, mn, mD⟩ := m
  simp only at c9 hh hown
  clear h hl
  go_enter Try.func43, Try.ntmps43
  go_wp2_with (at_lookup; refine wpList_lookup_own_ok_int _ rfl _ _ 60 rfl 3 3 .i64 kInt Try.underlying60 Try.underlying3 (zeroInt _) mb mn mD rfl hown _ _ rfl hkey ?_; intro c hat hwc)
  go_ret2
  exact ⟨rfl, Fr.refl _ _⟩

set_option maxRecDepth 100000 in
set_option maxHeartbeats 1000000 in
theorem last_some {g : Nat} {s : DS} {m : ML} {w : World} (h : DskM w g s m) (hq : s.q.length ≤ 1048576) (x : Nat) (hx : x < s.N) (i : Nat) (hl : lastIx s.q x = some i) :
    Calls Try.prog 43 #[.pointer (some ⟨g, 6, none⟩), .int .i64 (x : Int)] w fun e w' => ∃ gb, e = .returned (.tuple #[.slice (some ⟨gb, i * s.sz, none⟩) s.sz s.sz, .bool true]) ∧ Rd8 w' (some ⟨gb, i * s.sz, none⟩) (pAt s.q i).2 ∧ Fr (fun _ => False) w w' := by
  have hi := (lastIx_some hl).1
  obtain ⟨gs, gb, cs, cb, e1, e2, hcb, hsec, hby⟩ := h.pend hi
  have hrd : Rd8 w (some ⟨gb, i * s.sz, none⟩) (pAt s.q i).2 := fun _ => ⟨_, rfl, rfl, hby⟩
  have c6 : w.cell? ⟨g, 6, none⟩ = some (.int .i64 (s.sz : Int)) := h.blk.cell 6
  have c7 : w.cell? ⟨g, 7, none⟩ = some m.sV := h.blk.cell 7
  have c8 : w.cell? ⟨g, 8, none⟩ = some m.bV := h.blk.cell 8
  have c9 : w.cell? ⟨g, 9, none⟩ = some (.map (some m.mb)) := h.blk.cell 9
  rw [e1] at c7
  rw [e2] at c8
  have hh : Maps.has m.D (.int .i64 (x : Int)) = true := by rw [(h.newD.2 x).1, hl]; rfl
  have hat0 := (h.newD.2 x).2 i hl (.lit (.int .i64 0))
  have hx1 := h.ok.n1
  have hs0 := h.ok.s0
  have hs1 := h.ok.s1
  have hfit : (i + 1) * s.sz ≤ s.q.length * s.sz := Nat.mul_le_mul_right _ hi
  have hown := h.map
  have hkey : keyOf Try.prog 3 (.int .i64 (x : Int)) = some (.int .i64 (x : Int)) := I64.key ⟨by omega, by omega⟩
  have C := Lib.hid (at_any g i s.q.length cs gs gb _ cb s.sz ((pAt s.q i).1 : Int) w hi hq (by omega) hs1 hfit hcb c6 c7 c8 hsec)
  have HR := Lib.hid hrd
  have HA := Lib.hid hat0
  obtain ⟨mA, mc, kb, sV, bV, mb, mn, mD⟩ := m
  simp only at c9 hh hown HA
  clear h hl c6 c7 c8 hsec hby hrd hat0 e1 e2 hcb hfit
  go_enter Try.func43, Try.ntmps43
  go_wp2_with (at_lookup; refine wpList_lookup_own_ok_int _ rfl _ _ 60 rfl 3 3 .i64 kInt Try.underlying60 Try.underlying3 (zeroInt _) mb mn mD rfl hown _ _ rfl hkey ?_; intro c hat hwc)
  obtain rfl : (i : Int) = c := by simpa using HA.out.symm.trans hat
  clear hat hwc
  refine C.out.mono ?_; rintro e w1 ⟨rfl, hf1⟩
  have HR1 := Lib.hid (HR.out.fr hf1 (fun _ _ _ h => h))
  have HF1 := Lib.hid hf1
  clear C HR hf1
  go_wp2
  go_ret2
  exact ⟨gb, rfl, HR1.out, HF1.out⟩


/-- From the blocks of a disk to those later: some may be new. -/
def Mv (w : World) (g : Nat) (m m' : ML) : Prop := m'.A = m.A ∧ m'.c = m.c ∧ ∀ k, WS g m' k → WS g m k ∨ w.heap.size ≤ k
theorem add_ok {s : DS} (h : s.ok) {x : Nat} (hx : x < s.N) {b : List UInt8} (hb : b.length = s.sz) : ({ s with q := s.q ++ [(x, b)] } : DS).ok := by
  have h' := h.add hx hb
  exact ⟨h.n0, h.n1, h.s0, h.s1, h.klen, h'.sec, h'.len, h.lf⟩

theorem count_q (g n c : Nat) (A : Option Addr) (w : World) (h : w.cell? ⟨g, 7, none⟩ = some (.slice A n c)) :
    Calls Try.prog 34 #[.pointer (some ⟨g, 6, none⟩)] w fun e w' => e = .returned (.int .i64 (n : Int)) ∧ w' = w :=
  (count_any g n c A w h).mono fun _ _ ⟨h, k⟩ => ⟨h, k.symm⟩

/-- The parts of a disk on the way from one state to the next. -/
structure PtM (w : World) (g : Nat) (cs : Array Value) (m : ML) (kp : List Bool) (kt : List UInt8) (sl : List Int) (fl : List UInt8) : Prop where
  blk : Bk w g 67 cs
  keep : RdB w m.A kp
  kap : ∀ ad, m.A = some ad → 0 < kp.length → ¬ WS g m ad.block
  kept : Bk w m.kb 5 (kt.map B8).toArray
  secs : OwnI w m.sV sl
  bytes : Own8 w 5 m.bV fl
  map : AM w m.mb m.mn m.D
  kne : m.bV.ownBlock ≠ some m.kb
theorem DskM.pt {w : World} {g : Nat} {s : DS} {m : ML} (h : DskM w g s m) : PtM w g (dcells s m) m s.keep s.kept (Go.Proofs.Ytnkkdpmmnenncaa.secs s.q) (flat s.q) :=
  ⟨h.blk, h.keep, h.kap, h.kept, h.secs, h.bytes, h.map, h.kne⟩
theorem PtM.dsk {w : World} {g : Nat} {s : DS} {m : ML} (h : PtM w g (dcells s m) m s.keep s.kept (Go.Proofs.Ytnkkdpmmnenncaa.secs s.q) (flat s.q)) (ok : s.ok) (mn : m.mn ≤ s.q.length) (nd : NewD m.D s.q) : DskM w g s m :=
  ⟨ok, h.blk, h.keep, h.kap, h.kept, h.secs, h.bytes, h.map, mn, nd, h.kne⟩
section
variable {w w1 : World} {g : Nat} {cs : Array Value} {m : ML} {kp : List Bool} {kt : List UInt8} {sl : List Int} {fl : List UInt8}
theorem OwnI.bk {v : Value} {xs : List Int} (h : OwnI w v xs) {k : Nat} (hk : v.ownBlock = some k) : ∃ cur, Bk w k 3 cur := by
  rcases h.form with ⟨e, _⟩ | ⟨g1, cap, cur, e, _, _, hb, _⟩
  · rw [e] at hk; cases hk
  · rw [e] at hk
    have : g1 = k := by simpa [Value.ownBlock] using hk
    subst this
    exact ⟨cur, hb⟩
theorem Own8.bk {v : Value} {xs : List UInt8} {t : TypeId} (h : Own8 w t v xs) {k : Nat} (hk : v.ownBlock = some k) : ∃ cur, Bk w k t cur := by
  rcases h.2 with ⟨e, _⟩ | ⟨g1, cap, cur, e, _, hb, _⟩
  · rw [e] at hk; cases hk
  · rw [e] at hk
    have : g1 = k := by simpa [Value.ownBlock] using hk
    subst this
    exact ⟨cur, hb⟩
theorem PtM.kg (h : PtM w g cs m kp kt sl fl) : m.kb ≠ g := fun e => Bk.ne h.kept h.blk (by decide) e
theorem PtM.sg (h : PtM w g cs m kp kt sl fl) : m.sV.ownBlock ≠ some g := h.secs.ne h.blk (by decide)
theorem PtM.sk (h : PtM w g cs m kp kt sl fl) : m.sV.ownBlock ≠ some m.kb := h.secs.ne h.kept (by decide)
theorem PtM.bg (h : PtM w g cs m kp kt sl fl) : m.bV.ownBlock ≠ some g := h.bytes.ne h.blk (by decide)
theorem PtM.mg (h : PtM w g cs m kp kt sl fl) : m.mb ≠ g := fun e => h.map.ne h.blk e.symm
theorem PtM.mkb (h : PtM w g cs m kp kt sl fl) : m.mb ≠ m.kb := fun e => h.map.ne h.kept e.symm
theorem PtM.sb (h : PtM w g cs m kp kt sl fl) {k : Nat} (hk : m.sV.ownBlock = some k) : m.bV.ownBlock ≠ some k := by
  obtain ⟨cur, hb⟩ := h.secs.bk hk
  exact h.bytes.ne hb (by decide)
theorem PtM.sm (h : PtM w g cs m kp kt sl fl) : m.sV.ownBlock ≠ some m.mb := fun hk => by
  obtain ⟨cur, hb⟩ := h.secs.bk hk
  exact h.map.ne hb rfl
theorem PtM.bm (h : PtM w g cs m kp kt sl fl) : m.bV.ownBlock ≠ some m.mb := fun hk => by
  obtain ⟨cur, hb⟩ := h.bytes.bk hk
  exact h.map.ne hb rfl
theorem PtM.alt (h : PtM w g cs m kp kt sl fl) {ad : Addr} (e : m.A = some ad) (h0 : 0 < kp.length) : ad.block < w.heap.size := RdB.lt (w := w) (e ▸ h.keep) h0
theorem PtM.fr {S : Nat → Prop} (h : PtM w g cs m kp kt sl fl) (hf : Fr S w w1) (hS : ∀ k, WS g m k → ¬ S k) (hA : ∀ ad, m.A = some ad → 0 < kp.length → ¬ S ad.block) : PtM w1 g cs m kp kt sl fl :=
  ⟨h.blk.fr hf (hS _ (.inl rfl)), h.keep.fr hf hA, h.kap, h.kept.fr hf (hS _ (.inr (.inl rfl))), h.secs.fr hf (fun k e => hS _ (.inr (.inr (.inl e)))),
    h.bytes.fr hf (fun k e => hS _ (.inr (.inr (.inr (.inl e))))), h.map.fr hf (hS _ (.inr (.inr (.inr (.inr rfl))))), h.kne⟩
theorem PtM.mapStep (h : PtM w g cs m kp kt sl fl) {n' : Nat} {D' : DataW Unit} (ho : AM w1 m.mb n' D') (hf : Fr (fun k => k = m.mb) w w1) : PtM w1 g cs { m with mn := n', D := D' } kp kt sl fl :=
  ⟨h.blk.fr hf (fun e => h.mg e.symm), h.keep.fr hf (fun ad e h0 h1 => h.kap ad e h0 (.inr (.inr (.inr (.inr h1))))), h.kap, h.kept.fr hf (fun e => h.mkb e.symm), h.secs.fr hf (fun k hk e => h.sm (by rw [hk, e])),
    h.bytes.fr hf (fun k hk e => h.bm (by rw [hk, e])), ho, h.kne⟩
theorem PtM.lt (h : PtM w g cs m kp kt sl fl) {k : Nat} (hk : WS g m k) : k < w.heap.size := by
  rcases hk with rfl | rfl | e | e | rfl
  · exact h.blk.lt
  · exact h.kept.lt
  · exact h.secs.lt e
  · exact h.bytes.lt e
  · exact h.map.lt
theorem PtM.secStep (h : PtM w g cs m kp kt sl fl) {v' : Value} {sl' : List Int} (ho : OwnI w1 v' sl') (hf : Fr (fun k => m.sV.ownBlock = some k) w w1) (hm : Moved w m.sV v') : PtM w1 g cs { m with sV := v' } kp kt sl' fl := by
  refine ⟨h.blk.fr hf h.sg, h.keep.fr hf (fun ad e h0 h1 => h.kap ad e h0 (.inr (.inr (.inl h1)))), fun ad e h0 h1 => ?_, h.kept.fr hf h.sk, ho, h.bytes.fr hf (fun k hk e => h.sb e hk), h.map.fr hf h.sm, h.kne⟩
  rcases h1 with h1 | h1 | h1 | h1 | h1
  · exact h.kap ad e h0 (.inl h1)
  · exact h.kap ad e h0 (.inr (.inl h1))
  · exact h.kap ad e h0 (.inr (.inr (.inl (hm.old (h.alt e h0) h1))))
  · exact h.kap ad e h0 (.inr (.inr (.inr (.inl h1))))
  · exact h.kap ad e h0 (.inr (.inr (.inr (.inr h1))))
theorem PtM.bytesStep (h : PtM w g cs m kp kt sl fl) {v' : Value} {fl' : List UInt8} (ho : Own8 w1 5 v' fl') (hf : Fr (fun k => m.bV.ownBlock = some k) w w1) (hm : Moved w m.bV v') : PtM w1 g cs { m with bV := v' } kp kt sl fl' := by
  refine ⟨h.blk.fr hf h.bg, h.keep.fr hf (fun ad e h0 h1 => h.kap ad e h0 (.inr (.inr (.inr (.inl h1))))), fun ad e h0 h1 => ?_, h.kept.fr hf h.kne, h.secs.fr hf (fun k hk e => h.sb hk e), ho, h.map.fr hf h.bm, fun e => h.kne (hm.old h.kept.lt e)⟩
  rcases h1 with h1 | h1 | h1 | h1 | h1
  · exact h.kap ad e h0 (.inl h1)
  · exact h.kap ad e h0 (.inr (.inl h1))
  · exact h.kap ad e h0 (.inr (.inr (.inl h1)))
  · exact h.kap ad e h0 (.inr (.inr (.inr (.inl (hm.old (h.alt e h0) h1)))))
  · exact h.kap ad e h0 (.inr (.inr (.inr (.inr h1))))
theorem PtM.put (h : PtM w g cs m kp kt sl fl) {cs' : Array Value} (hb : Bk w1 g 67 cs') (hf : Fr (fun k => k = g) w w1) : PtM w1 g cs' m kp kt sl fl :=
  ⟨hb, h.keep.fr hf (fun ad e h0 h1 => h.kap ad e h0 (.inl h1)), h.kap, h.kept.fr hf h.kg, h.secs.fr hf (fun k hk e => h.sg (by rw [hk, e])), h.bytes.fr hf (fun k hk e => h.bg (by rw [hk, e])), h.map.fr hf h.mg, h.kne⟩
theorem PtM.set (h : PtM w g cs m kp kt sl fl) (p : Nat) (u : Value) : PtM (w.setCell ⟨g, p, none⟩ u) g (cs.setIfInBounds p u) m kp kt sl fl := h.put (h.blk.set p u) (Bk.fr_set p u)
end

set_option maxRecDepth 100000 in
set_option maxHeartbeats 4000000 in
theorem add_any {g : Nat} {s : DS} {m : ML} {w : World} (h : DskM w g s m) (hq : s.q.length ≤ 1048575) (x : Nat) (hx : x < s.N) (A : Option Addr) (c : Nat) (bs : List UInt8) (hr : Rd8 w A bs) (hbs : bs.length = s.sz)
    (hap : ∀ ad, A = some ad → 0 < bs.length → ¬ WS g m ad.block) :
    Calls Try.prog 32 #[.pointer (some ⟨g, 6, none⟩), .int .i64 (x : Int), .slice A s.sz c] w fun e w' => e = .returned (.tuple #[]) ∧ ∃ m', DskM w' g { s with q := s.q ++ [(x, bs)] } m' ∧ Mv w g m m' ∧ Fr (WS g m) w w' := by
  have hx1 := h.ok.n1
  have hs0 := h.ok.s0
  have hs1 := h.ok.s1
  have hmn := h.mn
  have hfl := h.ok.flen
  have hfb : s.q.length * s.sz ≤ 1048575 * 1024 := Nat.mul_le_mul hq hs1
  have hkey : keyOf Try.prog 3 (.int .i64 (x : Int)) = some (.int .i64 (x : Int)) := I64.key ⟨by omega, by omega⟩
  have hwf : (Lit.int .i64 (s.q.length : Int)).wf = true := I64.wf ⟨by omega, by omega⟩
  have hap0 : ∀ ad, A = some ad → 0 < bs.length → ad.block < w.heap.size := fun ad e h0 => Rd8.lt (w := w) (e ▸ hr) h0
  have hlt0 := fun k => h.lt (k := k)
  have HOK := Lib.hid (add_ok h.ok hx hbs)
  have HND := Lib.hid (h.newD.add x bs)
  have hnm := h.mg
  obtain ⟨sA, sc, hsV⟩ := h.secs.slice
  have hbV : ∃ bA bc, m.bV = .slice bA (flat s.q).length bc := h.bytes.slice
  obtain ⟨bA, bc, hbV⟩ := hbV
  rw [secs_len] at hsV
  rw [hfl] at hbV
  have hpt := h.pt
  have hWS : ∀ k, WS g m k ↔ (k = g ∨ k = m.kb ∨ m.sV.ownBlock = some k ∨ m.bV.ownBlock = some k ∨ k = m.mb) := fun _ => Iff.rfl
  clear h
  obtain ⟨N, sz, off, left, kp, kept, q, wr⟩ := s
  obtain ⟨mA, mc, kb, sV, bV, mb, mn, mD⟩ := m
  simp only at *
  subst hsV hbV
  generalize hcs : dcells _ _ = cs at hpt
  have hc7 : cs[7]? = some (.slice sA q.length sc) := by rw [← hcs]; rfl
  have hc8 : cs[8]? = some (.slice bA (q.length * sz) bc) := by rw [← hcs]; rfl
  have hc9 : cs[9]? = some (.map (some mb)) := by rw [← hcs]; rfl
  have HCS := Lib.hid hcs
  have HFL := Lib.hid hfl
  have HC8 := Lib.hid hc8
  have HC7 := Lib.hid hc7
  clear hcs hfl
  have c7 : w.cell? ⟨g, 7, none⟩ = some (.slice sA q.length sc) := (hpt.blk.cell 7).trans hc7
  have c9 : w.cell? ⟨g, 9, none⟩ = some (.map (some mb)) := (hpt.blk.cell 9).trans hc9
  have CC := Lib.hid (fun w c7 => count_q g q.length sc sA w c7)
  have HSL := Lib.hid (secs_len q)
  have HBS := Lib.hid hbs
  clear hc7 hc8 hc9 hbs
  have P := Lib.hid hpt
  have HR := Lib.hid hr
  have HAP := Lib.hid hap
  have HAP0 := Lib.hid hap0
  have HLT := Lib.hid hlt0
  clear hpt hr hap hap0 hlt0 hWS
  go_enter Try.func32, Try.ntmps32
  go_wp2_with fail
  refine wp_region_still_tail 7 (by kernel_rfl) (by kernel_rfl) ?_
  simp only [List.take_succ_cons, List.take_zero, List.drop_succ_cons, List.drop_zero]
  still_step; still_step; still_step; still_step; still_step; still_step
  still_call (CC.out w.drew c7)
  refine wpStill_nil ?_
  change wpList _ _ _ _ _ w.drew
  have hf0 : Fr (fun _ => False) w w.drew := (Fr.refl _ _).drew
  have P0 := Lib.hid (P.out.fr hf0 (fun _ _ h => h) (fun _ _ _ h => h))
  have HR0 := Lib.hid (HR.out.fr hf0 (fun _ _ _ h => h))
  have HF0 := Lib.hid hf0
  clear hf0 c7 c9 HR P CC
  generalize w.drew = w0 at *
  have hmap := P0.out.map
  have hmm : mn < maxLen := by unfold maxLen; omega
  have K1 : Hid (∀ w1, AM w1 mb (mn + 1) (mD.put (.int .i64 (x : Int)) (.lit (.int .i64 (q.length : Int)))) → w0.grownBy w1 (some mb) → w1.cell? ⟨g, 7, none⟩ = some (.slice sA q.length sc) ∧
      Hid (PtM w1 g cs ⟨mA, mc, kb, .slice sA q.length sc, .slice bA (q.length * sz) bc, mb, mn + 1, mD.put (.int .i64 (x : Int)) (.lit (.int .i64 (q.length : Int)))⟩ kp kept (secs q) (flat q)) ∧ Hid (Rd8 w1 A bs) ∧ Hid (Fr (fun k => k = mb) w0 w1)) := Lib.hid (by
    intro w1 ho hg
    have hf1 : Fr (fun k => k = mb) w0 w1 := (Fr.of_grown hg).mono (fun _ _ e => (Option.some.inj e).symm)
    have P1 := P0.out.mapStep (w1 := w1) ho hf1
    exact ⟨(P1.blk.cell 7).trans HC7.out, Lib.hid P1, Lib.hid (HR0.out.fr hf1 (fun ad e h0 h => HAP.out ad e h0 (.inr (.inr (.inr (.inr h)))))), Lib.hid hf1⟩)
  have K2 : Hid (∀ w1, PtM w1 g cs ⟨mA, mc, kb, .slice sA q.length sc, .slice bA (q.length * sz) bc, mb, mn + 1, mD.put (.int .i64 (x : Int)) (.lit (.int .i64 (q.length : Int)))⟩ kp kept (secs q) (flat q) → Rd8 w1 A bs → Fr (fun k => k = mb) w0 w1 →
      ∀ w2 v2, OwnI w2 v2 (secs q ++ [(x : Int)]) → Fr (fun k => (Value.slice sA q.length sc).ownBlock = some k) w1 w2 → Moved w1 (.slice sA q.length sc) v2 →
      w2.cell? ⟨g, 7, none⟩ = some (.slice sA q.length sc) ∧ w2.frozen? ⟨g, 7, none⟩ = false ∧ w2.cell? ⟨g, 8, none⟩ = some (.slice bA (q.length * sz) bc) ∧
      Hid (PtM (w2.setCell ⟨g, 7, none⟩ v2) g (cs.setIfInBounds 7 v2) ⟨mA, mc, kb, v2, .slice bA (q.length * sz) bc, mb, mn + 1, mD.put (.int .i64 (x : Int)) (.lit (.int .i64 (q.length : Int)))⟩ kp kept (secs q ++ [(x : Int)]) (flat q)) ∧ Hid (Rd8 (w2.setCell ⟨g, 7, none⟩ v2) A bs)) := Lib.hid (by
    intro w1 P1 R1 F1 w2 v2 ho hf hm
    have P2 := P1.secStep ho hf hm
    have R2 := R1.fr hf (fun ad e h0 h => HAP.out ad e h0 (.inr (.inr (.inl h))))
    exact ⟨(P2.blk.cell 7).trans HC7.out, P2.blk.frozen 7, (P2.blk.cell 8).trans HC8.out, Lib.hid (P2.set 7 v2), Lib.hid (R2.fr (Bk.fr_set (g := g) 7 v2) (fun ad e h0 h => HAP.out ad e h0 (.inl h)))⟩)
  have K3 : Hid (∀ w2 v2, PtM w2 g (cs.setIfInBounds 7 v2) ⟨mA, mc, kb, v2, .slice bA (q.length * sz) bc, mb, mn + 1, mD.put (.int .i64 (x : Int)) (.lit (.int .i64 (q.length : Int)))⟩ kp kept (secs q ++ [(x : Int)]) (flat q) →
      ∀ w3 v3, Own8 w3 5 v3 (flat q ++ bs) → Fr (fun k => (Value.slice bA (q.length * sz) bc).ownBlock = some k) w2 w3 → Moved w2 (.slice bA (q.length * sz) bc) v3 →
      w3.cell? ⟨g, 8, none⟩ = some (.slice bA (q.length * sz) bc) ∧ w3.frozen? ⟨g, 8, none⟩ = false ∧
      Hid (PtM (w3.setCell ⟨g, 8, none⟩ v3) g ((cs.setIfInBounds 7 v2).setIfInBounds 8 v3) ⟨mA, mc, kb, v2, v3, mb, mn + 1, mD.put (.int .i64 (x : Int)) (.lit (.int .i64 (q.length : Int)))⟩ kp kept (secs q ++ [(x : Int)]) (flat q ++ bs))) := Lib.hid (by
    intro w2 v2 P2 w3 v3 ho hf hm
    have P3 := P2.bytesStep ho hf hm
    refine ⟨(P3.blk.cell 8).trans ?_, P3.blk.frozen 8, Lib.hid (P3.set 8 v3)⟩
    rw [Array.getElem?_setIfInBounds_ne (by decide)]
    exact HC8.out)
  go_wp2_with (first
    | (at_mapUpdate; refine wpList_mapUpdate_own _ rfl _ _ _ 60 rfl 3 3 kInt Try.underlying60 _ mb mn _ rfl hmap hmm _ _ _ rfl rfl hkey _ [] (plainElem_int (H := Unit) Try.underlying3 hwf) ?_; intro w1 hown1 hgrow1; obtain ⟨c7, P1, R1, F1⟩ := K1.out w1 hown1 hgrow1; clear hown1 hgrow1)
    | (at_builtin; refine wpList_appendI _ rfl (.tmp 17) (.tmp 19) rfl (.slice sA q.length sc) (secs q) rfl x P1.out.secs rfl (by have := HSL.out; omega) ?_; intro g2 cp2 w2 ho2 hf2 hm2; obtain ⟨c7b, f7b, c8b, P2, R2⟩ := K2.out w1 P1.out R1.out F1.out w2 _ ho2 hf2 hm2; have F2 := Lib.hid hf2; have M2 := Lib.hid hm2; clear ho2 hf2 hm2)
    | (at_builtin; refine wpList_append8s _ rfl (.tmp 27) (.tmp 28) Try.t8d rfl (.slice bA (q.length * sz) bc) (flat q) rfl P2.out.bytes A sz c bs rfl HBS.out R2.out (by rw [HFL.out, HBS.out]; omega) ?_; intro A3 c3 w3 ho3 hf3 hm3; obtain ⟨c8c, f8c, P3⟩ := K3.out _ _ P2.out w3 _ ho3 hf3 hm3; have F3 := Lib.hid hf3; have M3 := Lib.hid hm3; clear ho3 hf3 hm3))
  go_end0
  have P3 := P3.out
  rw [← HCS.out] at P3
  refine ⟨rfl, ⟨mA, mc, kb, _, _, mb, mn + 1, _⟩, PtM.dsk (s := ⟨N, sz, off, left, kp, kept, q ++ [(x, bs)], wr⟩) (by rw [secs_snoc, flat_snoc]; exact P3) HOK.out (by simp; omega) HND.out, ⟨rfl, rfl, ?_⟩, ?_⟩
  · have z0 := HF0.out.size
    have z1 := F1.out.size
    have z2 := F2.out.size
    have z3 : (w2.setCell ⟨g, 7, none⟩ (Value.slice (some ⟨g2, 0, none⟩) ((secs q).length + 1) cp2)).heap.size = w2.heap.size := by simp [World.setCell]
    intro k hk
    rcases hk with h1 | h1 | h1 | h1 | h1
    · exact .inl (.inl h1)
    · exact .inl (.inr (.inl h1))
    · rcases M2.out with e | ⟨y, e, hy⟩
      · exact .inl (.inr (.inr (.inl (e.symm.trans h1))))
      · have : y = k := by rw [e] at h1; simpa using h1
        exact .inr (by omega)
    · rcases M3.out with e | ⟨y, e, hy⟩
      · exact .inl (.inr (.inr (.inr (.inl (e.symm.trans h1)))))
      · have : y = k := by rw [e] at h1; simpa using h1
        exact .inr (by omega)
    · exact .inl (.inr (.inr (.inr (.inr h1))))
  · have f2 := (((HF0.out.mono (T := WS g ⟨mA, mc, kb, .slice sA q.length sc, .slice bA (q.length * sz) bc, mb, mn, mD⟩) (fun _ _ h => h.elim)).trans F1.out (fun x _ h => .inr (.inr (.inr (.inr h))))).trans F2.out (fun x _ h => .inr (.inr (.inl h)))).trans (Bk.fr_set (g := g) 7 (Value.slice (some ⟨g2, 0, none⟩) ((secs q).length + 1) cp2)) (fun x _ h => .inl h)
    exact (f2.trans F3.out (fun x _ h => .inr (.inr (.inr (.inl h))))).trans (Bk.fr_set (g := g) 8 _) (fun x _ h => .inl h)
end Go.Proofs.Ytnkkdpmmnenncaa
