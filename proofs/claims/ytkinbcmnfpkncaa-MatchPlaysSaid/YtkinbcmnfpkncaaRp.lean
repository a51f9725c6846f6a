/- match: Names. -/
import Derived.Test.YtkinbcmnfpkncaaFk
import Derived.Test.YtkinbcmnfpkncaaRn
namespace Go.Proofs.Ytkinbcmnfpkncaa
open Go.RowKit Go.Maps Go.Sort Go.Shelf

theorem sortsK (m : Nat) : AnyZI.SortsIn Try.prog Try.sortedL_ren Fence.wide m :=
  ⟨fun blk off cap ss W hH hblk hsz => callsIn_wide.2 (AnyM.slices_Sort_int Try.sortL blk off cap ss W hH hblk hsz),
   fun p cap W => callsIn_wide.2 (AnyM.slices_Sort_int_none Try.sortL p cap W)⟩
theorem keysK (mb : Option Nat) (W : World) : Calls Try.prog 40 #[.map mb] W fun e w' => e = .returned (.func (.func 50) #[] #[.pointer (some ⟨W.heap.size, 0, none⟩)]) ∧ w' = W.alloc (.cells #[.map mb] 53) :=
  (callsIn_wide (n := 6)).1 (AnyZI.keys_in Try.keysL Fence.wide 6 trivial rfl mb W)
theorem sortedK {b nn : Nat} {D0 : DV} {w : World} (hown : w.ownsMap Try.prog 3 HV b nn D0) (hmax : Maps.size D0 ≤ maxLen) (hbytes : Maps.size D0 * 8 ≤ 140737488355328) :
    Calls Try.prog 39 #[.func (.func 50) #[] #[.pointer (some ⟨w.heap.size, 0, none⟩)]] (w.alloc (.cells #[.map (some b)] 53)) fun e w' => ∃ (v : Value) (ss : List Int), e = .returned v ∧ ss.Perm (intKeys D0) ∧
      w'.ownsRow (w.heap.size + 1) 3 1 v ss.length ((ss.mergeSort (fun x y => decide (x ≤ y))).map encZ) ∧ Below (w.heap.size + 1) (w.alloc (.cells #[.map (some b)] 53)) w' := by
  have hbl := hown.lt
  have hseq : SeqGives Fence.wide 2 Try.prog 50 #[.pointer (some ⟨w.heap.size, 0, none⟩)] encZ (fun ss => ss.Perm (intKeys D0)) (Maps.size D0) (w.alloc (.cells #[.map (some b)] 53)) :=
    AnyZI.keys_gives (ρ := Try.keysL_ren) { Try.keysL with } Fence.wide _ trivial rfl (by omega) w.heap.size b nn D0 _ (by simp) (by simp) (by
      obtain ⟨es, clock, hb, Ft, hs, hD⟩ := hown
      exact ⟨es, clock, (Below.heap_alloc _ _ b hbl).trans hb, Ft, hs, hD⟩)
  have cS := AnyZI.sorted_in Try.sortedL Fence.wide 5 trivial trivial trivial trivial rfl (by omega) (sortsK _) (enters_of Try.func49 (by kernel_rfl) rfl) 50 #[.pointer (some ⟨w.heap.size, 0, none⟩)] trivial (enters_of Try.func50 (by kernel_rfl) rfl) _ _ hmax hbytes _ hseq
  refine ((callsIn_wide (n := 5)).1 cS).mono ?_
  rintro e w' ⟨v, ss, h1, h2, h3, _, h5⟩
  have hsz : (w.alloc (.cells #[.map (some b)] 53)).heap.size = w.heap.size + 1 := by simp
  rw [hsz] at h3 h5
  exact ⟨v, ss, h1, h2, h3, h5⟩
/-- The keys of a map of ints: none twice, and just those that it has. -/
theorem keys_of {w : World} {b : Nat} {D : DV} (h : MV w 3 b D) : (intKeys D).Nodup ∧ (∀ x, x ∈ intKeys D ↔ has D (.int .i64 x) = true) ∧ (∀ x ∈ intKeys D, I64 x) ∧ (intKeys D).length = Maps.size D := by
  obtain ⟨es, hD, hpw, _⟩ := World.ownsMap.entries h kInt
  obtain ⟨es', hD', hko⟩ := World.ownsMap.keysOf h
  obtain rfl : es = es' := by rw [hD] at hD'; simpa using hD'
  have hk : ∀ p ∈ es, ∃ x, p.1 = .int .i64 x ∧ I64 x := fun p hp => by
    obtain ⟨v, hv⟩ := hko p hp
    obtain ⟨x, _, hx, hw⟩ := Maps.keyOf_i64 Try.underlying3 hv
    exact ⟨x, hx, by
      have : (Lit.int .i64 x).wf = true := hw
      simp [Lit.wf, IntKind.min, IntKind.max, IntKind.signed, IntKind.bits] at this
      constructor <;> omega⟩
  rw [hD]
  refine ⟨?_, fun x => ?_, fun x hx => ?_, ?_⟩
  · simp only [intKeys]
    refine List.pairwise_map.2 (hpw.imp_of_mem fun {p q} hp' hq' hne e => hne ?_)
    obtain ⟨a, ha, _⟩ := hk p hp'
    obtain ⟨c, hc, _⟩ := hk q hq'
    rw [ha, hc] at e ⊢
    exact congrArg (Lit.int .i64) e
  · simp only [intKeys]
    rw [has_eq, List.any_eq_true, List.mem_map]
    constructor
    · rintro ⟨p, hp', rfl⟩
      obtain ⟨a, ha, _⟩ := hk p hp'
      exact ⟨p, hp', by rw [ha]; show Lit.sameKey (.int .i64 a) (.int .i64 a) = true; simp [Lit.sameKey]⟩
    · rintro ⟨p, hp', hs⟩
      obtain ⟨a, ha, _⟩ := hk p hp'
      rw [ha] at hs
      refine ⟨p, hp', ?_⟩
      rw [ha]
      have : a = x := by simpa [Lit.sameKey] using hs
      exact this
  · simp only [intKeys] at hx
    obtain ⟨p, hp', rfl⟩ := List.mem_map.1 hx
    obtain ⟨a, ha, hI⟩ := hk p hp'
    rw [ha]; exact hI
  · simp only [intKeys]
    rw [List.length_map, Maps.size_eq]
/-- Names: rising, just those that have a task. -/
def NamesOf (t : MT Int) (ns : List Int) : Prop := Rise ns ∧ (∀ c, c ∈ ns ↔ I64 c ∧ t.row c ≠ []) ∧ ns.length ≤ t.pushed
set_option maxRecDepth 100000 in
set_option maxHeartbeats 2000000 in
theorem names_I {w : World} {g br : Nat} {F : Nat → Prop} {t : MT Int} {D : DV} (h : MtM 55 tP IV w g br F t D) (hp : t.pushed ≤ 1000000) :
    Calls Try.prog 21 #[.pointer (some ⟨g, 0, none⟩)] w fun e w' => ∃ v ns, e = .returned v ∧ RI w' v ns ∧ (∀ k, v.ownBlock = some k → w.heap.size ≤ k) ∧ Fr (fun _ => False) w w' ∧ NamesOf t ns := by
  have q2 : w.cell? ⟨g, 2, none⟩ = some (.map (some br)) := h.blk.cell 2
  have hn : Maps.size D ≤ 1000000 := Nat.le_trans h.sz hp
  have CS := Lib.hid (sortedK h.mr (by unfold maxLen; omega) (by omega))
  have CK := Lib.hid (keysK (some br) w)
  have HK : Hid (∀ ss : List Int, ss.Perm (intKeys D) → NamesOf t (ss.mergeSort (fun x y => decide (x ≤ y)))) := Lib.hid (fun ss hss => by
    obtain ⟨k1, k2, k3, k4⟩ := keys_of h.mr
    have hperm := (List.mergeSort_perm ss (fun x y => decide (x ≤ y))).trans hss
    have hnd := (hperm.nodup_iff).2 k1
    have hso : (ss.mergeSort (fun x y => decide (x ≤ y))).Pairwise (fun a b => decide (a ≤ b) = true) := List.pairwise_mergeSort (fun a b c h1 h2 => by simp at *; omega) (fun a b => by simp; omega) ss
    refine ⟨?_, fun c => ?_, by rw [hperm.length_eq, k4]; exact h.sz⟩
    · refine (List.Pairwise.and hso hnd).imp ?_
      rintro a b ⟨h1, h2⟩
      simp at h1
      omega
    · rw [hperm.mem_iff]
      constructor
      · intro hc
        refine ⟨k3 c hc, fun e => ?_⟩
        have := h.no c (k3 c hc) e
        rw [(k2 c).1 hc] at this; cases this
      · rintro ⟨hI, hr⟩
        obtain ⟨v, h1, _⟩ := h.at_ c hI hr
        exact (k2 c).2 h1.1)
  clear h hn hp
  go_enter Try.func21, Try.ntmps21
  go_wp2_with fail
  refine CK.out.mono ?_; rintro e w1 ⟨rfl, rfl⟩
  go_wp2_with fail
  refine CS.out.mono ?_; rintro e w2 ⟨v, ss, rfl, hp, hrow, hb⟩
  have hlen := (List.mergeSort_perm ss (fun x y => decide (x ≤ y))).length_eq
  have HN := Lib.hid (HK.out ss hp)
  rw [← hlen] at hrow
  have HR := Lib.hid (RI.of_owns hrow)
  have HF : Hid (Fr (fun _ => False) w w2) := Lib.hid (((Fr.refl _ _).alloc _).trans (Fr.of_below hb) (fun x hx e => by omega))
  clear hp hrow hb hlen CK CS HK q2
  go_wp2
  go_ret
  exact ⟨v, _, rfl, HR.out.1, fun k hk => Nat.le_trans (Nat.le_succ _) (HR.out.2 k hk), HF.out, HN.out⟩
end Go.Proofs.Ytkinbcmnfpkncaa
