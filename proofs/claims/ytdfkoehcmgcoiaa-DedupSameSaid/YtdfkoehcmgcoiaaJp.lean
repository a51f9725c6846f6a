/- dedup: Clients. -/
import Derived.Test.YtdfkoehcmgcoiaaFk
import Derived.Test.YtdfkoehcmgcoiaaJm
namespace Go.Proofs.Ytdfkoehcmgcoiaa
open Go.RowKit Go.Maps Go.Sort Go.Shelf

theorem sortsK (m : Nat) : AnyZI.SortsIn Try.prog Try.sortedL_ren Fence.wide m :=
  ⟨fun blk off cap ss W hH hblk hsz => callsIn_wide.2 (AnyM.slices_Sort_int Try.sortL blk off cap ss W hH hblk hsz),
   fun p cap W => callsIn_wide.2 (AnyM.slices_Sort_int_none Try.sortL p cap W)⟩
theorem keysK (mb : Option Nat) (W : World) : Calls Try.prog 31 #[.map mb] W fun e w' => e = .returned (.func (.func 41) #[] #[.pointer (some ⟨W.heap.size, 0, none⟩)]) ∧ w' = W.alloc (.cells #[.map mb] 54) :=
  (callsIn_wide (n := 6)).1 (AnyZI.keys_in Try.keysL Fence.wide 6 trivial rfl mb W)
theorem sortedK {b nn : Nat} {D0 : DV} {w : World} (hown : w.ownsMap Try.prog 3 HV b nn D0) (hmax : Maps.size D0 ≤ maxLen) (hbytes : Maps.size D0 * 8 ≤ 140737488355328) :
    Calls Try.prog 30 #[.func (.func 41) #[] #[.pointer (some ⟨w.heap.size, 0, none⟩)]] (w.alloc (.cells #[.map (some b)] 54)) fun e w' => ∃ (v : Value) (ss : List Int), e = .returned v ∧ ss.Perm (intKeys D0) ∧
      w'.ownsRow (w.heap.size + 1) 3 1 v ss.length ((ss.mergeSort (fun x y => decide (x ≤ y))).map encZ) ∧ Below (w.heap.size + 1) (w.alloc (.cells #[.map (some b)] 54)) w' := by
  have hbl := hown.lt
  have hseq : SeqGives Fence.wide 2 Try.prog 41 #[.pointer (some ⟨w.heap.size, 0, none⟩)] encZ (fun ss => ss.Perm (intKeys D0)) (Maps.size D0) (w.alloc (.cells #[.map (some b)] 54)) :=
    AnyZI.keys_gives (ρ := Try.keysL_ren) { Try.keysL with } Fence.wide _ trivial rfl (by omega) w.heap.size b nn D0 _ (by simp) (by simp) (by
      obtain ⟨es, clock, hb, Ft, hs, hD⟩ := hown
      exact ⟨es, clock, (Below.heap_alloc _ _ b hbl).trans hb, Ft, hs, hD⟩)
  have cS := AnyZI.sorted_in Try.sortedL Fence.wide 5 trivial trivial trivial trivial rfl (by omega) (sortsK _) (enters_of Try.func40 (by kernel_rfl) rfl) 41 #[.pointer (some ⟨w.heap.size, 0, none⟩)] trivial (enters_of Try.func41 (by kernel_rfl) rfl) _ _ hmax hbytes _ hseq
  refine ((callsIn_wide (n := 5)).1 cS).mono ?_
  rintro e w' ⟨v, ss, h1, h2, h3, _, h5⟩
  have hsz : (w.alloc (.cells #[.map (some b)] 54)).heap.size = w.heap.size + 1 := by simp
  rw [hsz] at h3 h5
  exact ⟨v, ss, h1, h2, h3, h5⟩

theorem mergeSort_rise {r : List Int} (h : Rise r) : r.mergeSort (fun x y => decide (x ≤ y)) = r :=
  List.mergeSort_of_pairwise (h.imp (fun h => by simp; omega))
theorem TabM.keys {g ba br : Nat} {F : Nat → Prop} {t : DT} {Da Dr : DV} {w : World} (h : TabM w g ba br F t Da Dr) (ok : t.ok0) {ss : List Int} (hp : ss.Perm (intKeys Dr)) : ss.mergeSort (fun x y => decide (x ≤ y)) = t.cs := by
  have hn : t.cs.Nodup := ok.csr.imp (fun h e => by omega)
  obtain ⟨es, hD, hpw, _⟩ := World.ownsMap.entries h.mr kInt
  obtain ⟨es', hD', hko⟩ := World.ownsMap.keysOf h.mr
  obtain rfl : es = es' := by rw [hD] at hD'; simpa using hD'
  have hk : ∀ p ∈ es, ∃ x, p.1 = .int .i64 x ∧ I64 x := fun p hp => by
    obtain ⟨v, hv⟩ := hko p hp
    obtain ⟨x, _, hx, hw⟩ := Maps.keyOf_i64 Try.underlying3 hv
    exact ⟨x, hx, by
      have : (Lit.int .i64 x).wf = true := hw
      simp [Lit.wf, IntKind.min, IntKind.max, IntKind.signed, IntKind.bits] at this
      constructor <;> omega⟩
  have hm : ∀ x, x ∈ t.cs ↔ has Dr (.int .i64 x) = true := fun x => by
    constructor
    · intro hx
      have hr := ok.crng x hx
      obtain ⟨v, h1, _⟩ := h.row x (I64.of (by omega) (by omega)) ((ok.cl x).1 hx)
      exact h1.1
    · intro hx
      have hI : I64 x := by
        rw [hD, has_eq, List.any_eq_true] at hx
        obtain ⟨p, hp', hs⟩ := hx
        obtain ⟨a, ha, hI⟩ := hk p hp'
        rw [ha] at hs
        have : a = x := by simpa [Lit.sameKey] using hs
        exact this ▸ hI
      refine (ok.cl x).2 (fun e => ?_)
      have := h.noRow x hI e
      rw [this] at hx; cases hx
  have hq := perm_intKeys (H := Value) (es := es) hpw (fun p hp => (hk p hp).imp fun _ h => h.1) hn (by rw [← hD]; exact hm)
  rw [← hD] at hq
  have := mergeSort_of_perm_i (hp.trans hq.symm)
  exact this.trans (mergeSort_rise ok.csr)

theorem RI.of_owns {w : World} {B : Nat} {v : Value} {r : List Int} (h : w.ownsRow B 3 1 v r.length (r.map encZ)) : RI w v r ∧ ∀ k, v.ownBlock = some k → B ≤ k := by
  rcases h.2 with ⟨rfl, h0⟩ | ⟨g, cap, cur, rfl, hB, hh, h1, h2, h3, h4⟩
  · have : r = [] := List.eq_nil_of_length_eq_zero h0
    subst this
    exact ⟨Row.nil _ _ _, fun k hk => by simp [Value.ownBlock] at hk⟩
  · refine ⟨RI.mk hh rfl h1 h2 (by omega) (fun j hj => ?_), fun k hk => by
      have : g = k := by simpa [Value.ownBlock] using hk
      omega⟩
    have h5 := congrArg (fun l => l[j]?) h4
    simp only [Nat.mul_one, List.getElem?_take, if_pos hj, List.getElem?_map, List.getElem?_eq_getElem hj, Option.map_some, Array.getElem?_toList] at h5
    rw [Nat.zero_add]
    exact h5

set_option maxRecDepth 100000 in
set_option maxHeartbeats 2000000 in
theorem clients_any {g ba br : Nat} {F : Nat → Prop} {t : DT} {Da Dr : DV} {w : World} (h : TabM w g ba br F t Da Dr) (ok : t.ok0) :
    Calls Try.prog 15 #[.pointer (some ⟨g, 0, none⟩)] w fun e w' => ∃ v, e = .returned v ∧ RI w' v t.cs ∧ (∀ k, v.ownBlock = some k → w.heap.size ≤ k) ∧ Fr (fun _ => False) w w' := by
  have q2 : w.cell? ⟨g, 2, none⟩ = some (.map (some br)) := h.blk.cell 2
  have hn : Maps.size Dr ≤ 1048577 := by rw [h.sr]; exact ok.cs_len
  have CS := Lib.hid (sortedK h.mr (by unfold maxLen; omega) (by omega))
  have CK := Lib.hid (keysK (some br) w)
  have HK := Lib.hid (fun ss hp => h.keys (ss := ss) ok hp)
  clear h ok hn
  go_enter Try.func15, Try.ntmps15
  go_wp2_with fail
  refine CK.out.mono ?_; rintro e w1 ⟨rfl, rfl⟩
  go_wp2_with fail
  refine CS.out.mono ?_; rintro e w2 ⟨v, ss, rfl, hp, hrow, hb⟩
  have hlen := (List.mergeSort_perm ss (fun x y => decide (x ≤ y))).length_eq
  have e := HK.out ss hp
  rw [e] at hrow hlen
  rw [← hlen] at hrow
  have HR := Lib.hid (RI.of_owns hrow)
  have HF : Hid (Fr (fun _ => False) w w2) := Lib.hid (((Fr.refl _ _).alloc _).trans (Fr.of_below hb) (fun x hx e => by omega))
  clear hp hrow hb hlen e CK CS HK q2
  go_wp2
  go_ret
  exact ⟨v, rfl, HR.out.1, fun k hk => Nat.le_trans (Nat.le_succ _) (HR.out.2 k hk), HF.out⟩
end Go.Proofs.Ytdfkoehcmgcoiaa
