import Derived.Test.YtdfkoehcmgcoiaaGreatDoorKr03
import Derived.Laws.BitsAllLaws
import Derived.Deep.QuietTactic
import Derived.BigQuiet

/- dedup: Clients. -/
namespace Go.Proofs.YtdfkoehcmgcoiaaGreatDoor
open Go.RowKit Go.Maps Go.Sort Go.Shelf

theorem sortsK (m : Nat) : AnyZI.SortsIn Tryz.prog Tryz.sortedL_ren Fence.wide m :=
  ⟨fun blk off cap ss W hH hblk hsz => callsIn_wide.2 (AnyM.slices_Sort_int Tryz.sortL blk off cap ss W hH hblk hsz),
   fun p cap W => callsIn_wide.2 (AnyM.slices_Sort_int_none Tryz.sortL p cap W)⟩
theorem keysK (mb : Option Nat) (W : World) : Calls Tryz.prog 59 #[.map mb] W fun e w' => e = .returned (.func (.func 77) #[] #[.pointer (some ⟨W.heap.size, 0, none⟩)]) ∧ w' = W.alloc (.cells #[.map mb] 78) :=
  (callsIn_wide (n := 6)).1 (AnyZI.keys_in Tryz.keysL Fence.wide 6 trivial rfl mb W)
theorem sortedK {b nn : Nat} {D0 : DV} {w : World} (hown : w.ownsMap Tryz.prog 3 HV b nn D0) (hmax : Maps.size D0 ≤ maxLen) (hbytes : Maps.size D0 * 8 ≤ 140737488355328) :
    Calls Tryz.prog 58 #[.func (.func 77) #[] #[.pointer (some ⟨w.heap.size, 0, none⟩)]] (w.alloc (.cells #[.map (some b)] 78)) fun e w' => ∃ (v : Value) (ss : List Int), e = .returned v ∧ ss.Perm (intKeys D0) ∧
      w'.ownsRow (w.heap.size + 1) 3 1 v ss.length ((ss.mergeSort (fun x y => decide (x ≤ y))).map encZ) ∧ Below (w.heap.size + 1) (w.alloc (.cells #[.map (some b)] 78)) w' := by
  have hbl := hown.lt
  have hseq : SeqGives Fence.wide 2 Tryz.prog 77 #[.pointer (some ⟨w.heap.size, 0, none⟩)] encZ (fun ss => ss.Perm (intKeys D0)) (Maps.size D0) (w.alloc (.cells #[.map (some b)] 78)) :=
    AnyZI.keys_gives (ρ := Tryz.keysL_ren) { Tryz.keysL with } Fence.wide _ trivial rfl (by omega) w.heap.size b nn D0 _ (by simp) (by simp) (by
      obtain ⟨es, clock, hb, Ft, hs, hD⟩ := hown
      exact ⟨es, clock, (Below.heap_alloc _ _ b hbl).trans hb, Ft, hs, hD⟩)
  have cS := AnyZI.sorted_in Tryz.sortedL Fence.wide 5 trivial trivial trivial trivial rfl (by omega) (sortsK _) (enters_of Tryz.func76 (by kernel_rfl) rfl) 77 #[.pointer (some ⟨w.heap.size, 0, none⟩)] trivial (enters_of Tryz.func77 (by kernel_rfl) rfl) _ _ hmax hbytes _ hseq
  refine ((callsIn_wide (n := 5)).1 cS).mono ?_
  rintro e w' ⟨v, ss, h1, h2, h3, _, h5⟩
  have hsz : (w.alloc (.cells #[.map (some b)] 78)).heap.size = w.heap.size + 1 := by simp
  rw [hsz] at h3 h5
  exact ⟨v, ss, h1, h2, h3, h5⟩

theorem mergeSort_rise {r : List Int} (h : Rise r) : r.mergeSort (fun x y => decide (x ≤ y)) = r :=
  List.mergeSort_of_pairwise (h.imp (fun h => by simp; omega))
theorem TabM.keys {g ba br : Nat} {F : Nat → Prop} {t : DT} {Da Dr : DV} {w : World} (h : TabM w g ba br F t Da Dr) (ok : t.ok0) {ss : List Int} (hp : ss.Perm (intKeys Dr)) : ss.mergeSort (fun x y => decide (x ≤ y)) = t.cs := by
  have hn : t.cs.Nodup := ok.csr.imp (fun h e => by omega)
  obtain ⟨es, hD, hpw, _⟩ := World.ownsMap.entries h.mr kInt
  obtain ⟨es', hD', hko⟩ := World.ownsMap.keysOf h.mr
  obtain rfl : es = es' := by rw [hD] at hD'; simpa using hD'
  have hk : ∀ p ∈ es, ∃ x, p.1 = .int .i64 x ∧ I64 x := fun p hp => by
    obtain ⟨v, hv⟩ := hko p hp
    obtain ⟨x, _, hx, hw⟩ := Maps.keyOf_i64 Tryz.underlying3 hv
    exact ⟨x, hx, by
      have : (Lit.int .i64 x).wf = true := hw
      simp [Lit.wf, IntKind.min, IntKind.max, IntKind.signed, IntKind.bits] at this
      constructor <;> omega⟩
  have hm : ∀ x, x ∈ t.cs ↔ has Dr (.int .i64 x) = true := fun x => by
    constructor
    · intro hx
      have hr := ok.crng x hx
      obtain ⟨v, h1, _⟩ := h.row x (I64.of (by omega) (by omega)) ((ok.cl x).1 hx)
      exact h1.1
    · intro hx
      have hI : I64 x := by
        rw [hD, has_eq, List.any_eq_true] at hx
        obtain ⟨p, hp', hs⟩ := hx
        obtain ⟨a, ha, hI⟩ := hk p hp'
        rw [ha] at hs
        have : a = x := by simpa [Lit.sameKey] using hs
        exact this ▸ hI
      refine (ok.cl x).2 (fun e => ?_)
      have := h.noRow x hI e
      rw [this] at hx; cases hx
  have hq := perm_intKeys (H := Value) (es := es) hpw (fun p hp => (hk p hp).imp fun _ h => h.1) hn (by rw [← hD]; exact hm)
  rw [← hD] at hq
  have := mergeSort_of_perm_i (hp.trans hq.symm)
  exact this.trans (mergeSort_rise ok.csr)

theorem RI.of_owns {w : World} {B : Nat} {v : Value} {r : List Int} (h : w.ownsRow B 3 1 v r.length (r.map encZ)) : RI w v r ∧ ∀ k, v.ownBlock = some k → B ≤ k := by
  rcases h.2 with ⟨rfl, h0⟩ | ⟨g, cap, cur, rfl, hB, hh, h1, h2, h3, h4⟩
  · have : r = [] := List.eq_nil_of_length_eq_zero h0
    subst this
    exact ⟨Row.nil _ _ _, fun k hk => by simp [Value.ownBlock] at hk⟩
  · refine ⟨RI.mk hh rfl h1 h2 (by omega) (fun j hj => ?_), fun k hk => by
      have : g = k := by simpa [Value.ownBlock] using hk
      omega⟩
    have h5 := congrArg (fun l => l[j]?) h4
    simp only [Nat.mul_one, List.getElem?_take, if_pos hj, List.getElem?_map, List.getElem?_eq_getElem hj, Option.map_some, Array.getElem?_toList] at h5
    rw [Nat.zero_add]
    exact h5

set_option maxRecDepth 100000 in
set_option maxHeartbeats 2000000 in
theorem clients_any {g ba br : Nat} {F : Nat → Prop} {t : DT} {Da Dr : DV} {w : World} (h : TabM w g ba br F t Da Dr) (ok : t.ok0) :
    Calls Tryz.prog 36 #[.pointer (some ⟨g, 0, none⟩)] w fun e w' => ∃ v, e = .returned v ∧ RI w' v t.cs ∧ (∀ k, v.ownBlock = some k → w.heap.size ≤ k) ∧ Fr (fun _ => False) w w' := by
  have q2 : w.cell? ⟨g, 2, none⟩ = some (.map (some br)) := h.blk.cell 2
  have hn : Maps.size Dr ≤ 1048577 := by rw [h.sr]; exact ok.cs_len
  have CS := Lib.hid (sortedK h.mr (by unfold maxLen; omega) (by omega))
  have CK := Lib.hid (keysK (some br) w)
  have HK := Lib.hid (fun ss hp => h.keys (ss := ss) ok hp)
  clear h ok hn
  go_enter Tryz.func36, Tryz.ntmps36
  go_wp2_with fail
  refine CK.out.mono ?_; rintro e w1 ⟨rfl, rfl⟩
  go_wp2_with fail
  refine CS.out.mono ?_; rintro e w2 ⟨v, ss, rfl, hp, hrow, hb⟩
  have hlen := (List.mergeSort_perm ss (fun x y => decide (x ≤ y))).length_eq
  have e := HK.out ss hp
  rw [e] at hrow hlen
  rw [← hlen] at hrow
  have HR := Lib.hid (RI.of_owns hrow)
  have HF : Hid (Fr (fun _ => False) w w2) := Lib.hid (((Fr.refl _ _).alloc _).trans (Fr.of_below hb) (fun x hx e => by omega))
  clear hp hrow hb hlen e CK CS HK q2
  go_wp2
  go_ret
  exact ⟨v, rfl, HR.out.1, fun k hk => Nat.le_trans (Nat.le_succ _) (HR.out.2 k hk), HF.out⟩
end Go.Proofs.YtdfkoehcmgcoiaaGreatDoor

/- dedup: entries. -/
namespace Go.Proofs.YtdfkoehcmgcoiaaGreatDoor
open Go.RowKit Go.Maps

theorem RI.at {w : World} {A : Option Addr} {n c : Nat} {r : List Int} (h : RI w (.slice A n c) r) {j : Nat} (hj : j < r.length) : ∃ b off, A = some ⟨b, off, none⟩ ∧ w.cell? ⟨b, off + j, none⟩ = some (.int .i64 r[j]) := by
  rcases h.cases with ⟨e, rfl⟩ | ⟨b, off, cap, cur, e, hb, _, _, _, hc⟩
  · simp at hj
  · injection e with e1 e2 e3
    subst e1
    exact ⟨b, off, rfl, by rw [hb.cell, hc j hj]; rfl⟩
/-- All requests of the first i clients. -/
def lstN (t : DT) (i : Nat) : List (Int × Int) := (t.cs.take i).flatMap fun c => (t.row c).map fun s => (c, s)
def DT.lst (t : DT) : List (Int × Int) := t.cs.flatMap fun c => (t.row c).map fun s => (c, s)
theorem lstN_all (t : DT) : lstN t t.cs.length = t.lst := by unfold lstN DT.lst; rw [List.take_length]
theorem lstN_succ (t : DT) {i : Nat} (h : i < t.cs.length) : lstN t (i + 1) = lstN t i ++ (t.row t.cs[i]).map fun s => (t.cs[i], s) := by
  unfold lstN
  rw [List.take_add_one, List.getElem?_eq_getElem h]
  simp only [Option.toList_some, List.flatMap_append, List.flatMap_cons, List.flatMap_nil, List.append_nil]
theorem flat_len (t : DT) : ∀ l : List Int, (l.flatMap fun c => (t.row c).map fun s => (c, s)).length = sumL (fun c => (t.row c).length) l
  | [] => rfl
  | a :: l => by rw [List.flatMap_cons, List.length_append, flat_len t l, sumL_cons]; simp
theorem lst_len (t : DT) : t.lst.length = t.n := flat_len t t.cs
theorem lstN_len (t : DT) {i : Nat} (h : i < t.cs.length) : (lstN t i).length + (t.row t.cs[i]).length ≤ t.n := by
  have h1 : (lstN t (i + 1)).length = (lstN t i).length + (t.row t.cs[i]).length := by rw [lstN_succ t h]; simp
  have h2 : (lstN t (i + 1)).length = sumL (fun c => (t.row c).length) (t.cs.take (i + 1)) := flat_len t _
  have h3 := congrArg (sumL fun c => (t.row c).length) (List.take_append_drop (i + 1) t.cs)
  rw [sumL_append] at h3
  have h4 : t.n = sumL (fun c => (t.row c).length) t.cs := rfl
  omega
theorem mem_lst {t : DT} {c s : Int} : (c, s) ∈ t.lst ↔ c ∈ t.cs ∧ s ∈ t.row c := by
  unfold DT.lst
  simp only [List.mem_flatMap, List.mem_map, Prod.mk.injEq]
  constructor
  · rintro ⟨x, h1, y, h2, rfl, rfl⟩; exact ⟨h1, h2⟩
  · rintro ⟨h1, h2⟩; exact ⟨c, h1, s, h2, rfl, rfl⟩
/-- Answers as values. -/
structure AV (w : World) (F : Nat → Prop) (t : DT) (av : Int → Int → Value) : Prop where
  at_ : ∀ c s, c ∈ t.cs → s ∈ t.row c → ∃ A cap, av c s = .slice A (t.ans c s).length cap ∧ Rd8 w A (t.ans c s) ∧ ∀ ad, A = some ad → 0 < (t.ans c s).length → F ad.block
theorem AV.fr {w w' : World} {F S : Nat → Prop} {t : DT} {av : Int → Int → Value} (h : AV w F t av) (hf : Fr S w w') (hS : ∀ k, F k → ¬ S k) : AV w' F t av := ⟨fun c s hc hs => by
  obtain ⟨A, cap, h1, h2, h3⟩ := h.at_ c s hc hs
  exact ⟨A, cap, h1, h2.fr hf (fun ad e h0 => hS _ (h3 ad e h0)), h3⟩⟩
theorem TabM.av {g ba br : Nat} {F : Nat → Prop} {t : DT} {Da Dr : DV} {w : World} (h : TabM w g ba br F t Da Dr) (ok : t.ok0) : ∃ av, AV w F t av ∧ ∀ c s, c ∈ t.cs → s ∈ t.row c → At Da (ky c s) (av c s) := by
  have hI : ∀ c s, c ∈ t.cs → s ∈ t.row c → I64 c ∧ I64 s := fun c s hc hs => by
    have h1 := ok.crng c hc
    have h2 := ok.rng c s hs
    exact ⟨I64.of (by omega) (by omega), I64.of (by omega) (by omega)⟩
  have hx : ∀ p : Int × Int, ∃ v : Value, p.1 ∈ t.cs → p.2 ∈ t.row p.1 → At Da (ky p.1 p.2) v ∧ ∃ A cap, v = .slice A (t.ans p.1 p.2).length cap ∧ Rd8 w A (t.ans p.1 p.2) ∧ ∀ ad, A = some ad → 0 < (t.ans p.1 p.2).length → F ad.block := fun p => by
    by_cases hp : p.1 ∈ t.cs ∧ p.2 ∈ t.row p.1
    · obtain ⟨i1, i2⟩ := hI p.1 p.2 hp.1 hp.2
      obtain ⟨A, cap, h1, h2, h3⟩ := h.ans p.1 p.2 i1 i2 hp.2
      exact ⟨_, fun _ _ => ⟨h1, A, cap, rfl, h2, fun ad e h0 => (h3 ad e h0).1⟩⟩
    · exact ⟨undef, fun h1 h2 => absurd ⟨h1, h2⟩ hp⟩
  refine ⟨fun c s => Classical.choose (hx (c, s)), ⟨fun c s hc hs => ?_⟩, fun c s hc hs => ?_⟩
  · exact (Classical.choose_spec (hx (c, s)) hc hs).2
  · exact (Classical.choose_spec (hx (c, s)) hc hs).1
/-- Entries' cells. -/
def ecs (av : Int → Int → Value) (l : List (Int × Int)) : List Value := l.flatMap fun p => [.int .i64 p.1, .int .i64 p.2, av p.1 p.2]
theorem ecs_append (av : Int → Int → Value) (a b : List (Int × Int)) : ecs av (a ++ b) = ecs av a ++ ecs av b := by unfold ecs; rw [List.flatMap_append]
theorem teN : TE Tryz.prog 117 83 3 40 (.agg #[.int .i64 0, .int .i64 0, .slice none 0 0]) := ⟨Tryz.underlying117, by kernel_rfl, rfl, by omega⟩
theorem makeN (c : Nat) (hn : c ≤ 4294971392) : ∃ cur : Array Value, cur.size = c * 3 ∧ ∀ w : World,
    (Instr.makeSlice 117 (.int .i64 0) (.int .i64 (c : Int))).run Tryz.prog w = .ok (.slice (some ⟨w.heap.size, 0, none⟩) 0 c) (w.alloc (.cells cur 83)) := by
  obtain ⟨i, hi, hz, hsz, hby⟩ := info_parts teN.info
  refine ⟨madeCells (Value.agg #[.int .i64 0, .int .i64 0, .slice none 0 0]).cells (c * i.size), by simp [madeCells, hsz], fun w => ?_⟩
  have h1 := run_make (P := Tryz.prog) w 117 83 i _ teN.sl hi hz .i64 .i64 0 (c : Int) (by omega) (by omega) (by rw [hby]; omega) (by omega)
  simpa using h1
theorem Row.made (w : World) (T : TypeId) (k c : Nat) (cur : Array Value) (hs : cur.size = c * k) (hm : c ≤ maxLen) : Row (w.alloc (.cells cur T)) T k (.slice (some ⟨w.heap.size, 0, none⟩) 0 c) 0 [] :=
  ⟨by simp, .inr ⟨w.heap.size, 0, c, cur, rfl, Bk.new _ _ _, Nat.zero_le _, hm, by omega, fun j hj => by simp at hj⟩⟩
/-- A row of entries of the call's own. -/
def ERow (w0 w : World) (av : Int → Int → Value) (l : List (Int × Int)) (v : Value) : Prop := Row w 83 3 v l.length (ecs av l) ∧ (∀ k, v.ownBlock = some k → w0.heap.size ≤ k) ∧ Fr (fun _ => False) w0 w

set_option maxRecDepth 100000 in
set_option maxHeartbeats 16000000 in
theorem entries_any {g ba br : Nat} {F : Nat → Prop} {t : DT} {Da Dr : DV} {w : World} (h : TabM w g ba br F t Da Dr) (ok : t.ok) {av : Int → Int → Value} (hav : AV w F t av) (hat : ∀ c s, c ∈ t.cs → s ∈ t.row c → At Da (ky c s) (av c s)) :
    Calls Tryz.prog 57 #[.pointer (some ⟨g, 0, none⟩)] w fun e w' => ∃ v, e = .returned v ∧ ERow w w' av t.lst v := by
  have hnl := ok.n_le
  obtain ⟨cur, hcs, hmk⟩ := makeN t.n hnl
  have q1 : w.cell? ⟨g, 1, none⟩ = some (.map (some ba)) := h.blk.cell 1
  have hl : ∀ ty, (Builtin.len_ #[77] ty #[.map (some ba)]).run Tryz.prog w = .ok (.int .i64 (t.n : Nat)) w := fun ty => by
    have := World.ownsMap.len h.ma tKey ty
    rw [h.sa] at this
    exact this
  have HE0 : Hid (ERow w (w.alloc (.cells cur 83)) av [] (.slice (some ⟨w.heap.size, 0, none⟩) 0 t.n)) := Lib.hid ⟨Row.made w _ 3 t.n cur hcs (by unfold maxLen; omega), fun k hk => by
    have : w.heap.size = k := by simpa [Value.ownBlock] using hk
    omega, (Fr.refl _ _).alloc _⟩
  have CC := Lib.hid (clients_any (h.fr ((Fr.refl (fun _ => False) w).alloc (.cells cur 83)) (fun _ _ h => h)) ok.took0)
  have HB := Lib.hid h.blk
  have HI : Hid (∀ c ∈ t.cs, I64 c ∧ t.row c ≠ [] ∧ (t.row c).length ≤ 4096 ∧ ∀ s ∈ t.row c, I64 s) := Lib.hid (fun c hc => by
    have h1 := ok.crng c hc
    refine ⟨I64.of (by omega) (by omega), (ok.cl c).1 hc, by have := ok.len c; have := ok.w2; omega, fun s hs => ?_⟩
    have h2 := ok.rng c s hs
    exact I64.of (by omega) (by omega))
  have HROW : Hid (∀ c ∈ t.cs, ∃ A n cap, n = (t.row c).length ∧ ∀ w', Fr (fun _ => False) w w' → (Instr.lookup 78 (.map (some br)) (.int .i64 c) false).run Tryz.prog w' = .ok (.slice A n cap) w' ∧ RI w' (.slice A n cap) (t.row c)) := Lib.hid (fun c hc => by
    obtain ⟨h1, h2, _⟩ := HI.out c hc
    obtain ⟨v, h3, h4, h5⟩ := h.row c h1 h2
    obtain ⟨A, cap, rfl, _⟩ := h4.form
    exact ⟨A, _, cap, rfl, fun w' hf => ⟨((h.mr.fr hf (fun h => h)).at1 kInt tRow (zeroRow w') h1.key h3).2, Row.fr0 h4 hf⟩⟩)
  have HANS : Hid (∀ c ∈ t.cs, ∀ s ∈ t.row c, ∃ A n cap, av c s = .slice A n cap ∧ ∀ w', Fr (fun _ => False) w w' → (Instr.lookup 77 (.map (some ba)) (.agg #[.int .i64 c, .int .i64 s]) false).run Tryz.prog w' = .ok (.slice A n cap) w') := Lib.hid (fun c hc s hs => by
    obtain ⟨A, cap, h1, _⟩ := hav.at_ c s hc hs
    refine ⟨A, _, cap, h1, fun w' hf => ?_⟩
    have h2 := hat c s hc hs
    rw [h1] at h2
    exact ((h.ma.fr hf (fun h => h)).at1 kKey tKey (zeroAns w') (ky_of (HI.out c hc).1 ((HI.out c hc).2.2.2 s hs)) h2).2)
  have HLEN := Lib.hid (fun i (hi : i < t.cs.length) => lstN_len t hi)
  have HNL := Lib.hid hnl
  have HCN := Lib.hid ok.cs_len
  have HALL := Lib.hid (lstN_all t)
  have HSUC := Lib.hid (fun i (hi : i < t.cs.length) => lstN_succ t hi)
  have HZ : Hid (lstN t 0 = []) := Lib.hid rfl
  rw [← HALL.out]
  clear h ok hav hat hcs HALL
  obtain ⟨L, hL⟩ : ∃ L, lstN t = L := ⟨_, rfl⟩
  rw [hL] at HLEN HSUC HZ ⊢
  clear hL
  have hN0 : (0 : Int) ≤ (t.n : Int) := by omega
  have hN1 : (t.n : Int) ≤ 4294971392 := by omega
  obtain ⟨N, hN⟩ : ∃ N, t.n = N := ⟨_, rfl⟩
  rw [hN] at hmk hl HE0 HLEN HNL hN0 hN1
  clear hN hnl
  generalize t.row = row at *
  generalize t.cs = cs at *
  obtain ⟨b0, hb0⟩ : ∃ b0, w.heap.size = b0 := ⟨_, rfl⟩
  have HB0 := Lib.hid hb0
  obtain ⟨W0, hW0⟩ : ∃ W0, w.alloc (.cells cur 83) = W0 := ⟨_, rfl⟩
  have HS0 : Hid (W0.heap.size = b0 + 1 ∧ Fr (fun _ => False) w W0) := Lib.hid (by rw [← hW0, ← hb0]; exact ⟨by simp, (Fr.refl _ _).alloc _⟩)
  rw [hW0] at CC HE0
  rw [hb0] at HE0
  go_enter Tryz.func57, Tryz.ntmps57
  go_wp2_with fail
  clear hW0 q1 hl hmk
  refine CC.out.mono ?_; rintro e w1 ⟨v1, rfl, hri1, hnew1, hf1⟩
  obtain ⟨A1, c1, rfl, _⟩ := hri1.form
  have HR1 := Lib.hid hri1
  have HE1 : Hid (Row w1 83 3 (.slice (some ⟨b0, 0, none⟩) 0 N) 0 []) := Lib.hid (Row.fr0 HE0.out.1 hf1)
  have HF1 : Hid (Fr (fun _ => False) w w1 ∧ b0 < w1.heap.size) := Lib.hid ⟨HS0.out.2.trans hf1 (fun _ _ h => h), by have h1 := hf1.size; have h2 := HS0.out.1; omega⟩
  obtain ⟨nc, hnc⟩ : ∃ nc, cs.length = nc := ⟨_, rfl⟩
  have HNW : Hid ((Value.slice A1 cs.length c1).ownBlock ≠ some b0) := Lib.hid (fun e => by have h1 := hnew1 b0 e; have h2 := HS0.out.1; omega)
  have HNC := Lib.hid hnc
  rw [hnc] at HR1 HNW ⊢
  have hnc1 : (nc : Int) ≤ 1048577 := by have := HCN.out; omega
  clear hri1 hnew1 hf1 CC HE0 hnc hb0
  go_wp2_with fail
  go_loopw [18, 3] (fun i v wr => ∃ (j m : Nat) (A : Option Addr) (cp : Nat), j ≤ nc ∧ i = .int .i64 (j : Int) ∧ v = .slice A m cp ∧ Hid (m = (L j).length ∧ Row wr 83 3 (.slice A m cp) m (ecs av (L j)) ∧ ∀ k, (Value.slice A m cp).ownBlock = some k → k = b0 ∨ w1.heap.size ≤ k) ∧ Fr (fun k => k = b0) w1 wr) (fun i _ _ => nc - (intOf i).toNat)
  case atStart => exact ⟨0, 0, _, _, Nat.zero_le _, rfl, rfl, ⟨by rw [HZ.out]; rfl, by rw [HZ.out]; exact HE1.out, fun k hk => .inl (by
    have : b0 = k := by simpa [Value.ownBlock] using hk
    exact this.symm)⟩, Fr.refl _ _⟩
  case round =>
    obtain ⟨j, m, A, cp, hj, rfl, rfl, hq, hfr⟩ := hrel
    have HFR := Lib.hid hfr
    have HW : Hid (Fr (fun _ => False) w wr) := Lib.hid (((HF1.out.1.mono (T := fun k => k = b0) (fun _ _ h => h.elim)).trans hfr (fun _ _ h => h)).mono (fun x hx e => by have := HB0.out; omega))
    clear hfr
    have hj0 : (0 : Int) ≤ (j : Int) := by omega
    by_cases hlt : j < nc
    · have hj1 : (j : Int) < (nc : Int) := by omega
      have hjc : j < cs.length := by rw [HNC.out]; exact hlt
      obtain ⟨b1, o1, e1, hcell⟩ := RI.at (Row.fr HR1.out HFR.out (fun k hk e => HNW.out (e ▸ hk))) hjc
      subst e1
      obtain ⟨c, hc⟩ : ∃ c, cs[j] = c := ⟨_, rfl⟩
      have hcm : c ∈ cs := by rw [← hc]; exact List.getElem_mem _
      have HSJ := Lib.hid (HSUC.out j hjc)
      have HLJ := Lib.hid (HLEN.out j hjc)
      rw [hc] at hcell HSJ HLJ
      obtain ⟨A2, rn, c2, hrn, hrow⟩ := HROW.out c hcm
      obtain ⟨hI1, _, hI3, hI4⟩ := HI.out c hcm
      have HIC := Lib.hid hI1
      have HIS := Lib.hid hI4
      have HRN := Lib.hid hrn
      have HRW := Lib.hid hrow
      have HAN := Lib.hid (HANS.out c hcm)
      have hrn1 : (rn : Int) ≤ 4096 := by omega
      have hlk := (hrow wr HW.out).1
      have q2 : wr.cell? ⟨g, 2, none⟩ = some (.map (some br)) := (HB.out.fr HW.out (fun h => h)).cell 2
      have HM := Lib.hid hq.out.1
      have HQ := Lib.hid hq.out.2
      have w1' : IntKind.i64.wrap ((j : Int) + 1) = (j : Int) + 1 := IntWalk.i64_in _ (by omega)
      clear hjc hc hcm hrow hrn hI1 hI3 hI4 hq
      generalize row c = r at *
      go_wp2_with fail
      clear hlk q2 hcell
      obtain ⟨wo, rfl⟩ : ∃ wo, wo = wr := ⟨_, rfl⟩
      go_loopw [29, 3] (fun i v wr => ∃ (q m2 : Nat) (A3 : Option Addr) (cp3 : Nat), q ≤ rn ∧ i = .int .i64 (q : Int) ∧ v = .slice A3 m2 cp3 ∧ Hid (m2 = (L j).length + q ∧ Row wr 83 3 (.slice A3 m2 cp3) m2 (ecs av (L j ++ (r.take q).map fun s => (c, s))) ∧ ∀ k, (Value.slice A3 m2 cp3).ownBlock = some k → k = b0 ∨ w1.heap.size ≤ k) ∧ Fr (fun k => k = b0) w1 wr) (fun i _ _ => rn - (intOf i).toNat)
      case atStart => exact ⟨0, m, _, _, Nat.zero_le _, rfl, rfl, ⟨by rw [HM.out]; rfl, by simpa using HQ.out.1, HQ.out.2⟩, HFR.out⟩
      case round =>
        obtain ⟨q, m2, A3, cp3, hq, rfl, rfl, hq2, hfr⟩ := hrel
        have HFR2 := Lib.hid hfr
        have HW2 : Hid (Fr (fun _ => False) w wr) := Lib.hid (((HF1.out.1.mono (T := fun k => k = b0) (fun _ _ h => h.elim)).trans hfr (fun _ _ h => h)).mono (fun x hx e => by have := HB0.out; omega))
        clear hfr
        have hq0 : (0 : Int) ≤ (q : Int) := by omega
        by_cases hlq : q < rn
        · have hq1 : (q : Int) < (rn : Int) := by omega
          have hqr : q < r.length := by rw [← HRN.out]; exact hlq
          obtain ⟨b2, o2, e2, hcell⟩ := RI.at (HRW.out wr HW2.out).2 hqr
          subst e2
          obtain ⟨s, hs⟩ : ∃ s, r[q] = s := ⟨_, rfl⟩
          rw [hs] at hcell
          have hsm : s ∈ r := by rw [← hs]; exact List.getElem_mem _
          obtain ⟨A4, n4, c4, hav4, han4⟩ := HAN.out s hsm
          have HT : Hid (ecs av (L j ++ (r.take (q + 1)).map fun s => (c, s)) = ecs av (L j ++ (r.take q).map fun s => (c, s)) ++ [.int .i64 c, .int .i64 s, .slice A4 n4 c4]) := Lib.hid (by
            rw [List.take_add_one, List.getElem?_eq_getElem hqr, hs]
            simp only [Option.toList_some, List.map_append, List.map_cons, List.map_nil, ← List.append_assoc]
            rw [ecs_append]
            congr 1
            simp [ecs, hav4])
          have HM2 : Hid (m2 = (L j).length + q ∧ m2 + 1 ≤ 4294971392) := Lib.hid ⟨hq2.out.1, by have h1 := HLJ.out; have h2 := hq2.out.1; omega⟩
          have HQ2 := Lib.hid hq2.out.2
          have w2' : IntKind.i64.wrap ((q : Int) + 1) = (q : Int) + 1 := IntWalk.i64_in _ (by omega)
          obtain ⟨kb, hkb⟩ : ∃ kb, wr.heap.size = kb := ⟨_, rfl⟩
          obtain ⟨WK, hWK⟩ : ∃ WK, wr.alloc (.cells #[.int .i64 c, .int .i64 s] 57) = WK := ⟨_, rfl⟩
          have KW : Hid (Bk WK kb 57 #[.int .i64 c, .int .i64 s]) := Lib.hid (by rw [← hWK, ← hkb]; exact Bk.new _ _ _)
          have FWK : Hid (Fr (fun _ => False) wr WK) := Lib.hid (by rw [← hWK]; exact (Fr.refl _ _).alloc _)
          have HC : Hid (∀ w', Fr (fun _ => False) WK w' → w'.cell? ⟨kb, 0, none⟩ = some (.int .i64 c) ∧ w'.cell? ⟨kb, 1, none⟩ = some (.int .i64 s) ∧ w'.cell? ⟨g, 1, none⟩ = some (.map (some ba)) ∧ (Instr.lookup 77 (.map (some ba)) (.agg #[.int .i64 c, .int .i64 s]) false).run Tryz.prog w' = .ok (.slice A4 n4 c4) w') := Lib.hid (fun w' hf => by
            have g1 := KW.out.fr hf (fun h => h)
            have f3 := (HW2.out.trans FWK.out (fun _ _ h => h)).trans hf (fun _ _ h => h)
            exact ⟨g1.cell 0, g1.cell 1, (HB.out.fr f3 (fun h => h)).cell 1, han4 w' f3⟩)
          clear hqr hs hsm hav4 han4 hq2
          go_wp2_with fail
          clear hWK hkb hcell
          refine wp_region_Z [10] (fun w' => Fr (fun _ => False) WK w') (by kernel_rfl) ((Fr.refl _ _).drew) (fun hHeld => ?_)
          refine anyZ_pure (i := 0) (v := ?_) (some 36) rfl rfl (by kernel_rfl) (by kernel_rfl) (by kernel_rfl) (by kernel_rfl) (fun _ _ _ h => h) (Or.inl ⟨by rfl, ?_⟩) (fun _ => hHeld) ?_
          rotate_left
          · intro w' _
            go_simp
            first | done | with_reducible rfl
          try simp only [Act.put, List.setIfInBounds_toArray, List.set_cons_zero, List.set_cons_succ]
          refine anyZ_read (i := 1) (v := ?_) (some 37) [8, 9, 10, 11] rfl rfl (by kernel_rfl) (by kernel_rfl) (by kernel_rfl) (by kernel_rfl) (by kernel_rfl) (by kernel_rfl) (fun _ _ _ h => h) (Or.inl ⟨by rfl, ?_⟩) hHeld ?_
          rotate_left
          · intro w' hSw
            obtain ⟨x0, x1, x2, x3⟩ := HC.out w' hSw
            go_simp
            first | done | with_reducible rfl
          try simp only [Act.put, List.setIfInBounds_toArray, List.set_cons_zero, List.set_cons_succ]
          refine anyZ_pure (i := 2) (v := ?_) (some 38) rfl rfl (by kernel_rfl) (by kernel_rfl) (by kernel_rfl) (by kernel_rfl) (fun _ _ _ h => h) (Or.inl ⟨by rfl, ?_⟩) (fun _ => hHeld) ?_
          rotate_left
          · intro w' _
            go_simp
            first | done | with_reducible rfl
          try simp only [Act.put, List.setIfInBounds_toArray, List.set_cons_zero, List.set_cons_succ]
          refine anyZ_pure (i := 3) (v := ?_) (some 39) rfl rfl (by kernel_rfl) (by kernel_rfl) (by kernel_rfl) (by kernel_rfl) (fun _ _ _ h => h) (Or.inl ⟨by rfl, ?_⟩) (fun _ => hHeld) ?_
          rotate_left
          · intro w' _
            go_simp
            first | done | with_reducible rfl
          try simp only [Act.put, List.setIfInBounds_toArray, List.set_cons_zero, List.set_cons_succ]
          refine anyZ_pure (i := 4) (v := ?_) (some 40) rfl rfl (by kernel_rfl) (by kernel_rfl) (by kernel_rfl) (by kernel_rfl) (fun _ _ _ h => h) (Or.inl ⟨by rfl, ?_⟩) (fun _ => hHeld) ?_
          rotate_left
          · intro w' _
            go_simp
            first | done | with_reducible rfl
          try simp only [Act.put, List.setIfInBounds_toArray, List.set_cons_zero, List.set_cons_succ]
          refine anyZ_read (i := 5) (v := ?_) (some 41) [7, 8, 9, 10, 11] rfl rfl (by kernel_rfl) (by kernel_rfl) (by kernel_rfl) (by kernel_rfl) (by kernel_rfl) (by kernel_rfl) (fun _ _ _ h => h) (Or.inl ⟨by rfl, ?_⟩) hHeld ?_
          rotate_left
          · intro w' hSw
            obtain ⟨x0, x1, x2, x3⟩ := HC.out w' hSw
            go_simp
            first | done | with_reducible rfl
          try simp only [Act.put, List.setIfInBounds_toArray, List.set_cons_zero, List.set_cons_succ]
          refine anyZ_read (i := 6) (v := ?_) (some 42) [7, 8, 9, 10, 11] rfl rfl (by kernel_rfl) (by kernel_rfl) (by kernel_rfl) (by kernel_rfl) (by kernel_rfl) (by kernel_rfl) (fun _ _ _ h => h) (Or.inl ⟨by rfl, ?_⟩) hHeld ?_
          rotate_left
          · intro w' hSw
            obtain ⟨x0, x1, x2, x3⟩ := HC.out w' hSw
            go_simp
            first | done | with_reducible rfl
          try simp only [Act.put, List.setIfInBounds_toArray, List.set_cons_zero, List.set_cons_succ]
          refine anyZ_read (i := 7) (v := ?_) (some 43) [8, 9, 10, 11] rfl rfl (by kernel_rfl) (by kernel_rfl) (by kernel_rfl) (by kernel_rfl) (by kernel_rfl) (by kernel_rfl) (fun _ _ _ h => h) (Or.inl ⟨by rfl, ?_⟩) hHeld ?_
          rotate_left
          · intro w' hSw
            obtain ⟨x0, x1, x2, x3⟩ := HC.out w' hSw
            go_simp
            first | done | with_reducible rfl
          try simp only [Act.put, List.setIfInBounds_toArray, List.set_cons_zero, List.set_cons_succ]
          refine anyZ_pure (i := 8) (v := ?_) (some 44) rfl rfl (by kernel_rfl) (by kernel_rfl) (by kernel_rfl) (by kernel_rfl) (fun _ _ _ h => h) (Or.inl ⟨by rfl, ?_⟩) (fun _ => hHeld) ?_
          rotate_left
          · intro w' _
            go_simp
            first | done | with_reducible rfl
          try simp only [Act.put, List.setIfInBounds_toArray, List.set_cons_zero, List.set_cons_succ]
          refine anyZ_ready (rs := [9]) (by kernel_rfl) (by simp) ?_
          refine AllZ.step rfl (fun K hK => ?_) AllZ.nil
          go_simp
          refine hK.out _ _ (hHeld.alloc _) (fun hHeld => ?_)
          clear hK K
          try change anyZ _ _ _ _ _ _ _ _ (Act.put _ (some 45) _) _
          try simp only [Act.put, List.setIfInBounds_toArray, List.set_cons_zero, List.set_cons_succ]
          refine anyZ_ready (rs := [10]) (by kernel_rfl) (by simp) ?_
          refine AllZ.last rfl (by kernel_rfl) (fun K hK => ?_) AllZ.nil
          have hrow := Row.fr0 HQ2.out.1 (FWK.out.trans hHeld (fun _ _ h => h))
          have hsl : Sl (WK.alloc (.cells #[.int .i64 c, .int .i64 s, .slice A4 n4 c4] 83)).drew 3 (.slice (some ⟨WK.heap.size, 0, none⟩) 1 1) 1 [.int .i64 c, .int .i64 s, .slice A4 n4 c4] := Sl.at rfl rfl (fun j u hu => by rw [Nat.zero_add, ((Bk.new WK _ _).drew).cell]; simpa using hu)
          refine stepOf_appendR teN rfl (.tmp 36) (.tmp 45) rfl (.slice A3 m2 cp3) m2 (ecs av (L j ++ (r.take q).map fun s => (c, s))) rfl hrow _ 1 [.int .i64 c, .int .i64 s, .slice A4 n4 c4] rfl hsl (fun u hu => by simp at hu; rcases hu with rfl | rfl | rfl <;> rfl) (by have := HM2.out.2; unfold maxLen; omega) (by have := HM2.out.2; omega) ?_
          intro A9 c9 w9 hr9 hf9 hm9
          have HQ9 : Hid (Row w9 83 3 (.slice A9 (m2 + 1) c9) (m2 + 1) (ecs av (L j ++ (r.take (q + 1)).map fun s => (c, s)))) := Lib.hid (by rw [HT.out]; exact hr9)
          have hfx : Fr (fun k => (Value.slice A3 m2 cp3).ownBlock = some k) wr w9 := ((FWK.out.trans hHeld (fun _ _ h => h)).mono (fun _ _ h => h.elim)).trans hf9 (fun _ _ h => h)
          have HF9 : Hid (Fr (fun k => k = b0) w1 w9) := Lib.hid (HFR2.out.trans hfx (fun x hx e => by rcases HQ2.out.2 x e with e | e; exact e; omega))
          have HO9 : Hid (∀ k, (Value.slice A9 (m2 + 1) c9).ownBlock = some k → k = b0 ∨ w1.heap.size ≤ k) := Lib.hid (fun k hk => by
            rcases hm9 with e | ⟨x, e, hx⟩
            · exact HQ2.out.2 k (e ▸ hk)
            · rw [e] at hk; injection hk with hk; have h1 := HFR2.out.size; have h2 := FWK.out.size; have h3 := hHeld.size; right; omega)
          clear hrow hsl hr9 hf9 hm9 hfx hHeld
          refine hK.out _ _ ?_
          clear hK K
          try change anyZ _ _ _ _ _ _ _ _ (Act.put _ (some 46) _) _
          try simp only [Act.put, List.setIfInBounds_toArray, List.set_cons_zero, List.set_cons_succ]
          refine anyZ_pure (i := 11) (v := ?_) (some 3) rfl rfl (by kernel_rfl) (by kernel_rfl) (by kernel_rfl) (by kernel_rfl) (fun _ _ _ h => h) (Or.inl ⟨by rfl, ?_⟩) (notYet (by kernel_rfl)) ?_
          rotate_left
          · intro w' _
            go_simp
            first | done | with_reducible rfl
          try simp only [Act.put, List.setIfInBounds_toArray, List.set_cons_zero, List.set_cons_succ]
          refine anyZ_done (by kernel_rfl) ?_ _
          go_wp2
          go_roundw
          case rel => exact ⟨q + 1, m2 + 1, A9, c9, by omega, by go_num, rfl, ⟨by rw [HM2.out.1]; rfl, HQ9.out, HO9.out⟩, HF9.out⟩
          case measure => simp [intOf]; omega
        · obtain rfl : q = rn := by omega
          have HEQ : Hid (m2 = (L (j + 1)).length ∧ Row wr 83 3 (.slice A3 m2 cp3) m2 (ecs av (L (j + 1))) ∧ ∀ k, (Value.slice A3 m2 cp3).ownBlock = some k → k = b0 ∨ w1.heap.size ≤ k) := Lib.hid (by
            have h1 := hq2.out
            rw [HRN.out, List.take_length] at h1
            rw [HSJ.out]
            exact ⟨by rw [List.length_append, List.length_map]; exact h1.1, h1.2.1, h1.2.2⟩)
          clear hq2 hlq hq
          go_wp2
          go_roundw
          case rel => exact ⟨j + 1, m2, A3, cp3, by omega, by go_num, rfl, HEQ, HFR2.out⟩
          case measure => simp [intOf]; omega
    · obtain rfl : j = nc := by omega
      have HEQ := Lib.hid hq.out
      clear hq hlt hj
      go_wp2
      go_ret
      obtain ⟨e1, e2, e3⟩ := HEQ.out
      rw [HNC.out]
      refine ⟨_, rfl, ?_, fun k hk => ?_, HW.out⟩
      · rw [← e1]; exact e2
      · have h1 := HB0.out
        have h2 := HF1.out.2
        rcases e3 k hk with e | e
        · omega
        · omega
end Go.Proofs.YtdfkoehcmgcoiaaGreatDoor

/- dedup: the function that writes ints. -/
namespace Go.Proofs.YtdfkoehcmgcoiaaGreatDoor
open Go.RowKit Go.Maps

/-- An int's bytes. -/
def eI (a : Int) : List UInt8 := enc (foldN a)
def eB (xs : List UInt8) : List UInt8 := enc (2 * xs.length) ++ xs
theorem eI_len {a : Int} (h : I64 a) : (eI a).length ≤ 10 := enc_length10 _ (foldN_lt a h.1 h.2)
theorem eB_len {xs : List UInt8} (h : xs.length ≤ 17592186044416) : (eB xs).length ≤ 10 + xs.length := by
  unfold eB
  have := enc_length10 (2 * xs.length) (by omega)
  simp; omega
theorem eIs_len : ∀ (l : List Int), (∀ a ∈ l, I64 a) → (l.flatMap eI).length ≤ 10 * l.length
  | [], _ => by simp
  | a :: l, h => by
    have h1 := eIs_len l (fun x hx => h x (by simp [hx]))
    have h2 := eI_len (h a (by simp))
    rw [List.flatMap_cons, List.length_append, List.length_cons]; omega
set_option maxRecDepth 100000 in
set_option maxHeartbeats 4000000 in
theorem ints_any {w : World} {gw wbx ib : Nat} {v : Value} {bs : List UInt8} {l : List Int} (hw : Wr w gw v bs) (hx : Bk w wbx 73 #[.pointer (some ⟨gw, 0, none⟩)]) (hi : Bk w ib 3 (l.map IV).toArray) (hI : ∀ a ∈ l, I64 a) (hl : l.length ≤ 1048576) (hb : bs.length ≤ 1099511627776) {n ic : Nat} (hn : l.length = n) :
    Calls Tryz.prog 29 #[.slice (some ⟨ib, 0, none⟩) n ic, .pointer (some ⟨wbx, 0, none⟩)] w fun e w' => e = .returned (.tuple #[]) ∧ ∃ v', WrTo w gw v w' v' (bs ++ l.flatMap eI) := by
  have W0 := Lib.hid (WrTo.refl hw)
  have HN := Lib.hid hn
  have HO := Lib.hid hI
  have HL2 := Lib.hid (fun k => eIs_len (l.take k) (fun a ha => hI a (List.mem_of_mem_take ha)))
  have HX := Lib.hid hx
  have HIB := Lib.hid hi
  have HNE : Hid (∀ k, (k = gw ∨ v.ownBlock = some k) → k ≠ wbx ∧ k ≠ ib) := Lib.hid (fun k hk => by
    rcases hk with rfl | hk
    · exact ⟨Bk.ne hw.1 hx (by decide), Bk.ne hw.1 hi (by decide)⟩
    · exact ⟨fun e => hw.2.ne hx (by decide) (e ▸ hk), fun e => hw.2.ne hi (by decide) (e ▸ hk)⟩)
  have hn1 : (n : Int) ≤ 1048576 := by omega
  clear hw hn hI hx hi hl
  go_enter Tryz.func29, Tryz.ntmps29
  go_wp2_with fail
  go_loopw [7] (fun i wr => ∃ k : Nat, k ≤ n ∧ i = .int .i64 k ∧ Hid (∃ v1, WrTo w gw v wr v1 (bs ++ (l.take k).flatMap eI))) (fun i _ => n - (intOf i).toNat)
  case atStart => exact ⟨0, by omega, rfl, ⟨v, by simpa using W0.out⟩⟩
  case round =>
    obtain ⟨k, hk, rfl, hq⟩ := hrel
    obtain ⟨v1, hv1⟩ := hq.out
    have HV := Lib.hid hv1
    clear hv1 W0
    by_cases hlt : k < n
    · have hkl : k < l.length := by rw [HN.out]; exact hlt
      obtain ⟨a, ha⟩ : ∃ a, l[k] = a := ⟨_, rfl⟩
      have hc : wr.cell? ⟨ib, k, none⟩ = some (.int .i64 a) := by
        have := (HIB.out.fr HV.out.2.1 (fun e => (HNE.out ib e).2 rfl)).cell k
        rw [this]; simp [hkl, ha, IV]
      have hx : wr.cell? ⟨wbx, 0, none⟩ = some (.pointer (some ⟨gw, 0, none⟩)) := (HX.out.fr HV.out.2.1 (fun e => (HNE.out wbx e).1 rfl)).cell 0
      have ho : I64 a := HO.out a (by rw [← ha]; exact List.getElem_mem _)
      have ST : Hid ((l.take (k + 1)).flatMap eI = (l.take k).flatMap eI ++ eI a) := Lib.hid (by
        rw [List.take_add_one, List.getElem?_eq_getElem hkl, ha]
        simp only [Option.toList_some, List.flatMap_append, List.flatMap_cons, List.flatMap_nil, List.append_nil])
      have hlk := HL2.out k
      have C := Lib.hid (wInt_any gw v1 a (bs ++ (l.take k).flatMap eI) wr ho.1 ho.2 HV.out.1 (by rw [List.length_append]; simp only [List.length_take] at hlk; omega))
      have hk0 : (0 : Int) ≤ (k : Int) := by omega
      have hk1 : (k : Int) < (n : Int) := by omega
      have w1' : IntKind.i64.wrap ((k : Int) + 1) = (k : Int) + 1 := IntWalk.i64_in _ (by omega)
      clear hkl ho hlk ha hq hb
      go_wp2_with fail
      refine C.out.mono ?_; rintro e w1 ⟨rfl, v2, h2⟩
      have H2 := Lib.hid (HV.out.trans h2)
      clear C h2 hc hx
      go_wp2
      go_roundw
      case rel => exact ⟨k + 1, by omega, by go_num, ⟨v2, by rw [ST.out, ← List.append_assoc]; exact H2.out⟩⟩
      case measure => simp [intOf]; omega
    · obtain rfl : k = n := by omega
      have FIN : Hid (∃ v1, WrTo w gw v wr v1 (bs ++ l.flatMap eI)) := Lib.hid ⟨v1, by have := HV.out; rw [← HN.out, List.take_length] at this; exact this⟩
      clear hq hlt hk
      go_wp2
      refine bodyPost_end (results_none rfl _ _ _) rfl ⟨rfl, FIN.out⟩
theorem callI (args : Array Value) (W : World) : (callFunc 29 args).run Tryz.prog W = .ok (.enter 29 args) W := by
  go_simp
end Go.Proofs.YtdfkoehcmgcoiaaGreatDoor

/- dedup: walk, whatever the step. -/
namespace Go.Proofs.YtdfkoehcmgcoiaaGreatDoor
open Go.RowKit Go.Maps

theorem ecs_at (av : Int → Int → Value) : ∀ (l : List (Int × Int)) (i : Nat) (h : i < l.length), (ecs av l)[i * 3]? = some (.int .i64 l[i].1) ∧ (ecs av l)[i * 3 + 1]? = some (.int .i64 l[i].2) ∧ (ecs av l)[i * 3 + 2]? = some (av l[i].1 l[i].2)
  | p :: l, 0, _ => by simp [ecs]
  | p :: l, i + 1, h => by
    have h' : i < l.length := by simpa using h
    have := ecs_at av l i h'
    have e : ecs av (p :: l) = [.int .i64 p.1, .int .i64 p.2, av p.1 p.2] ++ ecs av l := rfl
    rw [e]
    have hs : ∀ x, ([Value.int .i64 p.1, .int .i64 p.2, av p.1 p.2] ++ ecs av l)[x + 3]? = (ecs av l)[x]? := fun x => by
      rw [List.getElem?_append_right (by simp)]; simp
    rw [show (i + 1) * 3 = i * 3 + 3 by omega, show i * 3 + 3 + 1 = i * 3 + 1 + 3 by omega, show i * 3 + 3 + 2 = i * 3 + 2 + 3 by omega, hs, hs, hs]
    simpa using this
/-- What a step keeps: J behind i steps, Jx where it said false. -/
structure Walks (w : World) (F : Nat → Prop) (t : DT) (av : Int → Int → Value) (fn : FuncId) (caps : Array Value) (J : World → Nat → World → Prop) (Jx : World → World → Prop) : Prop where
  cf : ∀ args (W : World), (callFunc fn args).run Tryz.prog W = .ok (.enter fn args) W
  start : ∀ W1, Fr (fun _ => False) w W1 → J W1 0 W1
  fr : ∀ W1 i W, J W1 i W → Fr (fun k => k < w.heap.size) W1 W
  more : ∀ W1 i W W', J W1 i W → Fr (fun _ => False) W W' → J W1 i W'
  step : ∀ W1, Fr (fun _ => False) w W1 → ∀ i (h : i < t.lst.length) W, J W1 i W → ∀ A n cap, av t.lst[i].1 t.lst[i].2 = .slice A n cap → Calls Tryz.prog fn (#[.agg #[.int .i64 t.lst[i].1, .int .i64 t.lst[i].2, .slice A n cap]] ++ caps) W fun e W' => ∃ b, e = .returned (.bool b) ∧ (b = true → J W1 (i + 1) W') ∧ (b = false → Jx W1 W')

set_option maxRecDepth 100000 in
set_option maxHeartbeats 8000000 in
theorem walk_any {g ba br : Nat} {F : Nat → Prop} {t : DT} {Da Dr : DV} {w : World} (h : TabM w g ba br F t Da Dr) (ok : t.ok) {av : Int → Int → Value} (hav : AV w F t av) (hat : ∀ c s, c ∈ t.cs → s ∈ t.row c → At Da (ky c s) (av c s))
    {fn : FuncId} {caps : Array Value} {J : World → Nat → World → Prop} {Jx : World → World → Prop} (hw : Walks w F t av fn caps J Jx) :
    Calls Tryz.prog 31 #[.pointer (some ⟨g, 0, none⟩), .func (.func fn) #[] caps] w fun e w' => e = .returned (.tuple #[]) ∧ ∃ W1, Fr (fun _ => False) w W1 ∧ (J W1 t.lst.length w' ∨ Jx W1 w') := by
  have CE := Lib.hid (entries_any h ok hav hat)
  have hcf := hw.cf
  have HW := Lib.hid hw
  have HV : Hid (∀ i (hi : i < t.lst.length), ∃ A cap, av t.lst[i].1 t.lst[i].2 = .slice A (t.ans t.lst[i].1 t.lst[i].2).length cap) := Lib.hid (fun i (hi : i < t.lst.length) => (hav.at_ _ _ (mem_lst.1 (List.getElem_mem hi)).1 (mem_lst.1 (List.getElem_mem hi)).2).imp fun A h => h.imp fun cap h => h.1)
  have hn : (t.lst.length : Int) ≤ 4294971392 := by have := ok.n_le; rw [lst_len]; omega
  clear h ok hav hat hw
  go_enter Tryz.func31, Tryz.ntmps31
  go_wp2_with fail
  refine CE.out.mono ?_; rintro e w1 ⟨v, rfl, hrow, hnew, hf⟩
  obtain ⟨A, cp, rfl, hl1, hl2, hA⟩ := hrow.form
  have HROW := Lib.hid hrow
  have HNEW := Lib.hid hnew
  have HF := Lib.hid hf
  have HA := Lib.hid hA
  have HJ0 := Lib.hid (HW.out.start w1 hf)
  have HST := Lib.hid (HW.out.step w1 hf)
  clear hrow hnew hf hl1 hl2 hA CE
  obtain ⟨n, hnn⟩ : ∃ n, t.lst.length = n := ⟨_, rfl⟩
  have HN := Lib.hid hnn
  rw [hnn] at hn HROW HNEW HA ⊢
  clear hnn
  have hn0 : (0 : Int) ≤ (n : Int) := by omega
  go_wp2_with fail
  go_loopw [9] (fun i wr => ∃ j : Nat, j ≤ n ∧ i = .int .i64 (j : Int) ∧ Hid (J w1 j wr)) (fun i _ => n - (intOf i).toNat)
  case atStart => exact ⟨0, Nat.zero_le _, rfl, HJ0⟩
  case round =>
    obtain ⟨j, hj, rfl, hJ⟩ := hrel
    have hj0 : (0 : Int) ≤ (j : Int) := by omega
    by_cases hlt : j < n
    · have hj1 : (j : Int) < (n : Int) := by omega
      have hjl : j < t.lst.length := by rw [HN.out]; exact hlt
      obtain ⟨A4, c4, hav4⟩ := HV.out j hjl
      have HFJ := HW.out.fr w1 j wr hJ.out
      have hrow := HROW.out.fr HFJ (fun k hk => by have h1 := HNEW.out k hk; omega)
      obtain ⟨b, off, e⟩ := HA.out (by omega)
      subst e
      obtain ⟨k0, k1, k2⟩ := ecs_at av t.lst j hjl
      rw [hav4] at k2
      have c0 := hrow.cell k0
      have c1 := hrow.cell k1
      have c2 := hrow.cell k2
      obtain ⟨n4, hn4⟩ : ∃ n4, (t.ans t.lst[j].1 t.lst[j].2).length = n4 := ⟨_, rfl⟩
      have CF := Lib.hid (fun W hq => HST.out j hjl W hq A4 _ c4 hav4)
      rw [hn4] at CF c2
      obtain ⟨pc, hpc⟩ : ∃ pc, t.lst[j].1 = pc := ⟨_, rfl⟩
      obtain ⟨ps, hps⟩ : ∃ ps, t.lst[j].2 = ps := ⟨_, rfl⟩
      rw [hpc, hps] at CF
      rw [hpc] at c0
      rw [hps] at c1
      simp only [← Nat.add_assoc] at c1 c2
      have HMO := Lib.hid (fun W' hf => HW.out.more w1 j wr W' hJ.out hf)
      have w1' : IntKind.i64.wrap ((j : Int) + 1) = (j : Int) + 1 := IntWalk.i64_in _ (by omega)
      clear hjl hav4 hrow k0 k1 k2 hn4 hpc hps HFJ hJ
      have HX := Lib.hid ((Fr.refl (fun _ => False) wr).alloc (.cells #[.int .i64 pc, .int .i64 ps, .slice A4 n4 c4] 83))
      go_wp2_with fail
      clear c0 c1 c2
      refine (CF.out _ (HMO.out _ HX.out)).mono ?_; rintro e w2 ⟨q, rfl, hy, hx⟩
      cases q with
      | true =>
        have HJ1 := Lib.hid (hy rfl)
        clear hy hx CF HMO HX
        go_wp2
        go_roundw
        case rel => exact ⟨j + 1, by omega, by go_num, HJ1⟩
        case measure => simp [intOf]; omega
      | false =>
        have HJX := Lib.hid (hx rfl)
        clear hy hx CF HMO HX
        go_wp2
        exact bodyPost_ret (v := .tuple #[]) (results_none rfl _ _ _) rfl ⟨rfl, w1, HF.out, .inr HJX.out⟩
    · obtain rfl : j = n := by omega
      have HJ := Lib.hid hJ.out
      clear hJ hlt hj
      go_wp2
      refine bodyPost_end (results_none rfl _ _ _) rfl ⟨rfl, w1, HF.out, .inl (by rw [HN.out]; exact HJ.out)⟩
end Go.Proofs.YtdfkoehcmgcoiaaGreatDoor

/- dedup: Encode. -/
namespace Go.Proofs.YtdfkoehcmgcoiaaGreatDoor
open Go.RowKit Go.Maps

/-- What Encode lays of a client. -/
def headE (t : DT) (c : Int) : List UInt8 := [c, t.top c, ((t.row c).length : Int)].flatMap eI
/-- What it lays of a request, the client's head ahead of the first one. -/
def stepE (t : DT) (p : Int × Int) : List UInt8 := (if (t.row p.1)[0]? = some p.2 then headE t p.1 else []) ++ (eI p.2 ++ eB (t.ans p.1 p.2))
def encT (t : DT) : List UInt8 := [t.win, (t.cs.length : Int)].flatMap eI ++ t.lst.flatMap (stepE t)
theorem callS (args : Array Value) (W : World) : (callFunc 32 args).run Tryz.prog W = .ok (.enter 32 args) W := by
  go_simp

set_option maxRecDepth 100000 in
set_option maxHeartbeats 8000000 in
theorem enc2_any {g ba br gw wbx ibx tbx : Nat} {F : Nat → Prop} {t : DT} {Da Dr : DV} {w : World} (h : TabM w g ba br F t Da Dr) (ok : t.ok) {v : Value} {bs : List UInt8} (hw : Wr w gw v bs) (hb : bs.length ≤ 1048576000)
    (hx : Bk w wbx 73 #[.pointer (some ⟨gw, 0, none⟩)]) (hi : Bk w ibx 76 #[.func (.func 29) #[] #[.pointer (some ⟨wbx, 0, none⟩)]]) (ht : Bk w tbx 25 #[.pointer (some ⟨g, 0, none⟩)])
    {c s : Int} (hc : c ∈ t.cs) (hs : s ∈ t.row c) {A : Option Addr} {n cap : Nat} (hr : Rd8 w A (t.ans c s)) (hn : (t.ans c s).length = n) (hn8 : n ≤ 1048576) (hap : ∀ ad, A = some ad → 0 < n → F ad.block) (hF : ∀ k, F k → ¬ (k = gw ∨ v.ownBlock = some k)) :
    Calls Tryz.prog 32 #[.agg #[.int .i64 c, .int .i64 s, .slice A n cap], .pointer (some ⟨tbx, 0, none⟩), .pointer (some ⟨ibx, 0, none⟩), .pointer (some ⟨wbx, 0, none⟩)] w fun e w' => e = .returned (.bool true) ∧ ∃ v', WrTo w gw v w' v' (bs ++ stepE t (c, s)) := by
  have hcr := ok.crng c hc
  have hsr := ok.rng c s hs
  have htr := ok.took0.top_rng c
  have hc64 : I64 c := I64.of (by omega) (by omega)
  have hs64 : I64 s := I64.of (by omega) (by omega)
  have hne := (ok.cl c).1 hc
  have hlen : (t.row c).length ≤ 4096 := by have := ok.len c; have := ok.w2; omega
  obtain ⟨vr, h1, h2, _⟩ := h.row c hc64 hne
  obtain ⟨Ar, cr, rfl, _⟩ := h2.form
  obtain ⟨b0, o0, rfl, hr0⟩ := RI.at h2 (j := 0) (List.length_pos_iff.2 hne)
  obtain ⟨r0, hr0e⟩ : ∃ r0, (t.row c)[0]'(List.length_pos_iff.2 hne) = r0 := ⟨_, rfl⟩
  have hr0o : (t.row c)[0]? = some r0 := by rw [List.getElem?_eq_getElem (List.length_pos_iff.2 hne), hr0e]
  rw [hr0e, Nat.add_zero] at hr0
  have HST : Hid (stepE t (c, s) = (if r0 = s then [c, t.top c, ((t.row c).length : Int)].flatMap eI else []) ++ (eI s ++ eB (t.ans c s))) := Lib.hid (by
    unfold stepE headE
    simp only [hr0o, Option.some.injEq])
  have htb : ¬ ((b0 : Nat) = gw ∨ v.ownBlock = some b0) := by
    obtain ⟨cur, hcb⟩ := Row.bk h2 (g := b0) rfl
    rintro (e | e)
    · exact Bk.ne hcb hw.1 (by decide) e
    · exact hw.2.ne hcb (by decide) e
  obtain ⟨eb, heb⟩ : ∃ eb, w.heap.size = eb := ⟨_, rfl⟩
  obtain ⟨W, hW⟩ : ∃ W, w.alloc (.cells #[.int .i64 c, .int .i64 s, .slice A n cap] 83) = W := ⟨_, rfl⟩
  have fw : Fr (fun _ => False) w W := by rw [← hW]; exact (Fr.refl _ _).alloc _
  have KW : Hid (Bk W eb 83 #[.int .i64 c, .int .i64 s, .slice A n cap]) := Lib.hid (by rw [← hW, ← heb]; exact Bk.new _ _ _)
  have FW := Lib.hid fw
  have hwW : Wr W gw v bs := ⟨hw.1.fr fw (fun h => h), hw.2.fr fw (fun _ _ h => h)⟩
  have dX : ∀ {b : Nat} {T : TypeId} {cs : Array Value}, Bk w b T cs → T ≠ 113 → T ≠ 5 → ¬ (b = gw ∨ v.ownBlock = some b) := fun hb h1 h2 => by
    rintro (e | e)
    · exact Bk.ne hb hw.1 h1 e
    · exact hw.2.ne hb (fun e => h2 e.symm) e
  have HC : Hid (∀ w', Fr (fun k => k = gw ∨ v.ownBlock = some k) W w' → w'.cell? ⟨tbx, 0, none⟩ = some (.pointer (some ⟨g, 0, none⟩)) ∧ w'.cell? ⟨ibx, 0, none⟩ = some (.func (.func 29) #[] #[.pointer (some ⟨wbx, 0, none⟩)]) ∧ w'.cell? ⟨wbx, 0, none⟩ = some (.pointer (some ⟨gw, 0, none⟩)) ∧
      w'.cell? ⟨g, 2, none⟩ = some (.map (some br)) ∧ w'.cell? ⟨eb, 0, none⟩ = some (.int .i64 c) ∧ w'.cell? ⟨eb, 1, none⟩ = some (.int .i64 s) ∧ w'.cell? ⟨eb, 2, none⟩ = some (.slice A n cap) ∧ w'.cell? ⟨b0, o0, none⟩ = some (.int .i64 r0) ∧
      Bk w' wbx 73 #[.pointer (some ⟨gw, 0, none⟩)]) := Lib.hid (fun w' hf => by
    have f0 : Fr (fun k => k = gw ∨ v.ownBlock = some k) w w' := (fw.mono (fun _ _ h => h.elim)).trans hf (fun _ _ h => h)
    have g1 := KW.out.fr hf (fun e => by
      rcases e with e | e
      · have := hw.1.lt; omega
      · have := hw.2.lt e; omega)
    have gr := hr0
    refine ⟨(ht.fr f0 (dX ht (by decide) (by decide))).cell 0, (hi.fr f0 (dX hi (by decide) (by decide))).cell 0, (hx.fr f0 (dX hx (by decide) (by decide))).cell 0, (h.blk.fr f0 (dX h.blk (by decide) (by decide))).cell 2, g1.cell 0, g1.cell 1, g1.cell 2, ?_, hx.fr f0 (dX hx (by decide) (by decide))⟩
    exact (f0.cell (p := ⟨b0, o0, none⟩) (World.block_lt_of_cell? w _ hr0) htb).trans hr0)
  have HLK : Hid (∀ w', Fr (fun _ => False) w w' → (Instr.lookup 78 (.map (some br)) (.int .i64 c) false).run Tryz.prog w' = .ok (.slice (some ⟨b0, o0, none⟩) (t.row c).length cr) w') := Lib.hid (fun w' hf => ((h.mr.fr hf (fun h => h)).at1 kInt tRow (zeroRow w') hc64.key h1).2)
  have CT : Hid (∀ w', Fr (fun _ => False) w w' → Calls Tryz.prog 33 #[.pointer (some ⟨g, 0, none⟩), .int .i64 c] w' fun e w2 => e = .returned (.int .i64 (t.top c)) ∧ w' = w2) := Lib.hid (fun w' hf => top_any (h.fr hf (fun _ _ h => h)) hc64 (by omega))
  have HWW := Lib.hid hwW
  have HB := Lib.hid hb
  have HRD : Hid (∀ w', Fr (fun k => k = gw ∨ v.ownBlock = some k) w w' → Rd8 w' A (t.ans c s)) := Lib.hid (fun w' hf => hr.fr hf (fun ad e h0 => hF _ (hap ad e (by omega))))
  have HAP := Lib.hid (fun ad (e : A = some ad) (h0 : 0 < n) => (show F ad.block ∧ ad.block < w.heap.size ∧ ¬ (ad.block = gw ∨ v.ownBlock = some ad.block) from ⟨hap ad e h0, h.flt _ (hap ad e h0), hF _ (hap ad e h0)⟩))
  have HI : Hid (I64 c ∧ I64 s ∧ I64 (t.top c) ∧ I64 ((t.row c).length : Int)) := Lib.hid ⟨hc64, hs64, I64.of (by omega) (by omega), I64.of (by omega) (by omega)⟩
  obtain ⟨xs, hxs⟩ : ∃ xs, t.ans c s = xs := ⟨_, rfl⟩
  rw [hxs] at hn HST HRD
  have HNN := Lib.hid hn
  obtain ⟨rl, hrl⟩ : ∃ rl, (t.row c).length = rl := ⟨_, rfl⟩
  rw [hrl] at HST HLK HI
  obtain ⟨tp, htp⟩ : ∃ tp, t.top c = tp := ⟨_, rfl⟩
  rw [htp] at HST CT HI
  have hrl1 : 1 ≤ rl := by have := List.length_pos_iff.2 hne; omega
  have hrl2 : (1 : Int) ≤ (rl : Int) := by omega
  have hrl0 : 0 < rl := by omega
  have hrl3 : rl ≤ 4096 := by omega
  have HN8 := Lib.hid hn8
  have c1 := KW.out.cell 0
  clear h ok hw hb hx hi ht hc hs hr hn hn8 hap hF hcr hsr htr hc64 hs64 hne hlen h1 h2 hr0 hr0e hr0o htb fw hwW dX hxs hrl htp c1
  by_cases hq : r0 = s
  · have d0 : (s == r0) = true := by simp [hq]
    have HQ := Lib.hid hq
    clear hq
    go_enter Tryz.func32, Tryz.ntmps32
    go_wp2_with fail
    clear hW heb
    refine wp_region_Z [] (fun w' => Fr (fun _ => False) W w') (by kernel_rfl) ((Fr.refl _ _).drew) (fun hHeld => ?_)
    refine anyZ_read (i := 0) (v := ?_) (some 7) [1, 2, 3, 7, 8] rfl rfl (by kernel_rfl) (by kernel_rfl) (by kernel_rfl) (by kernel_rfl) (by kernel_rfl) (by kernel_rfl) (fun _ _ _ h => h) (Or.inl ⟨by rfl, ?_⟩) hHeld ?_
    rotate_left
    · intro w' hSw
      obtain ⟨y0, y1, y2, y3, y4, y5, y6, y7, y8⟩ := HC.out w' (hSw.mono (fun _ _ h => h.elim)); have hlk := HLK.out w' (FW.out.trans hSw (fun _ _ h => h))
      go_simp
      first | done | with_reducible rfl
    try simp only [Act.put, List.setIfInBounds_toArray, List.set_cons_zero, List.set_cons_succ]
    refine anyZ_pure (i := 1) (v := ?_) (some 8) rfl rfl (by kernel_rfl) (by kernel_rfl) (by kernel_rfl) (by kernel_rfl) (fun _ _ _ h => h) (Or.inl ⟨by rfl, ?_⟩) (fun _ => hHeld) ?_
    rotate_left
    · intro w' _
      go_simp
      first | done | with_reducible rfl
    try simp only [Act.put, List.setIfInBounds_toArray, List.set_cons_zero, List.set_cons_succ]
    refine anyZ_pure (i := 2) (v := ?_) (some 9) rfl rfl (by kernel_rfl) (by kernel_rfl) (by kernel_rfl) (by kernel_rfl) (fun _ _ _ h => h) (Or.inl ⟨by rfl, ?_⟩) (fun _ => hHeld) ?_
    rotate_left
    · intro w' _
      go_simp
      first | done | with_reducible rfl
    try simp only [Act.put, List.setIfInBounds_toArray, List.set_cons_zero, List.set_cons_succ]
    refine anyZ_read (i := 3) (v := ?_) (some 10) [7, 8] rfl rfl (by kernel_rfl) (by kernel_rfl) (by kernel_rfl) (by kernel_rfl) (by kernel_rfl) (by kernel_rfl) (fun _ _ _ h => h) (Or.inl ⟨by rfl, ?_⟩) hHeld ?_
    rotate_left
    · intro w' hSw
      obtain ⟨y0, y1, y2, y3, y4, y5, y6, y7, y8⟩ := HC.out w' (hSw.mono (fun _ _ h => h.elim)); have hlk := HLK.out w' (FW.out.trans hSw (fun _ _ h => h))
      go_simp
      first | done | with_reducible rfl
    try simp only [Act.put, List.setIfInBounds_toArray, List.set_cons_zero, List.set_cons_succ]
    refine anyZ_pure (i := 4) (v := ?_) (some 11) rfl rfl (by kernel_rfl) (by kernel_rfl) (by kernel_rfl) (by kernel_rfl) (fun _ _ _ h => h) (Or.inl ⟨by rfl, ?_⟩) (fun _ => hHeld) ?_
    rotate_left
    · intro w' _
      go_simp
      first | done | with_reducible rfl
    try simp only [Act.put, List.setIfInBounds_toArray, List.set_cons_zero, List.set_cons_succ]
    refine anyZ_pure (i := 5) (v := ?_) (some 12) rfl rfl (by kernel_rfl) (by kernel_rfl) (by kernel_rfl) (by kernel_rfl) (fun _ _ _ h => h) (Or.inl ⟨by rfl, ?_⟩) (fun _ => hHeld) ?_
    rotate_left
    · intro w' _
      go_simp
      first | done | with_reducible rfl
    try simp only [Act.put, List.setIfInBounds_toArray, List.set_cons_zero, List.set_cons_succ]
    refine anyZ_read (i := 6) (v := ?_) (some 13) [7, 8] rfl rfl (by kernel_rfl) (by kernel_rfl) (by kernel_rfl) (by kernel_rfl) (by kernel_rfl) (by kernel_rfl) (fun _ _ _ h => h) (Or.inl ⟨by rfl, ?_⟩) hHeld ?_
    rotate_left
    · intro w' hSw
      obtain ⟨y0, y1, y2, y3, y4, y5, y6, y7, y8⟩ := HC.out w' (hSw.mono (fun _ _ h => h.elim)); have hlk := HLK.out w' (FW.out.trans hSw (fun _ _ h => h))
      go_simp
      first | done | with_reducible rfl
    try simp only [Act.put, List.setIfInBounds_toArray, List.set_cons_zero, List.set_cons_succ]
    refine anyZ_read (i := 7) (v := ?_) (some 14) [8] rfl rfl (by kernel_rfl) (by kernel_rfl) (by kernel_rfl) (by kernel_rfl) (by kernel_rfl) (by kernel_rfl) (fun _ _ _ h => h) (Or.inl ⟨by rfl, ?_⟩) hHeld ?_
    rotate_left
    · intro w' hSw
      obtain ⟨y0, y1, y2, y3, y4, y5, y6, y7, y8⟩ := HC.out w' (hSw.mono (fun _ _ h => h.elim)); have hlk := HLK.out w' (FW.out.trans hSw (fun _ _ h => h))
      go_simp
      first | done | with_reducible rfl
    try simp only [Act.put, List.setIfInBounds_toArray, List.set_cons_zero, List.set_cons_succ]
    refine anyZ_pure (i := 8) (v := ?_) (some 6) rfl rfl (by kernel_rfl) (by kernel_rfl) (by kernel_rfl) (by kernel_rfl) (fun _ _ _ h => h) (Or.inl ⟨by rfl, ?_⟩) (fun _ => hHeld) ?_
    rotate_left
    · intro w' _
      go_simp
      first | done | with_reducible rfl
    try simp only [Act.put, List.setIfInBounds_toArray, List.set_cons_zero, List.set_cons_succ]
    refine anyZ_done (by kernel_rfl) ?_ _
    obtain ⟨W1, hW1⟩ : ∃ W1, W.drew = W1 := ⟨_, rfl⟩
    rw [hW1] at hHeld ⊢
    have FW1 := Lib.hid hHeld
    clear hHeld hW1
    go_wp2_with fail
    refine wp_region_Z [] (fun w' => Fr (fun _ => False) W w') (by kernel_rfl) (FW1.out.drew) (fun hHeld => ?_)
    refine anyZ_pure (i := 0) (v := ?_) (some 15) rfl rfl (by kernel_rfl) (by kernel_rfl) (by kernel_rfl) (by kernel_rfl) (fun _ _ _ h => h) (Or.inl ⟨by rfl, ?_⟩) (fun _ => hHeld) ?_
    rotate_left
    · intro w' _
      go_simp
      first | done | with_reducible rfl
    try simp only [Act.put, List.setIfInBounds_toArray, List.set_cons_zero, List.set_cons_succ]
    refine anyZ_pure (i := 1) (v := ?_) (some 16) rfl rfl (by kernel_rfl) (by kernel_rfl) (by kernel_rfl) (by kernel_rfl) (fun _ _ _ h => h) (Or.inl ⟨by rfl, ?_⟩) (fun _ => hHeld) ?_
    rotate_left
    · intro w' _
      go_simp
      first | done | with_reducible rfl
    try simp only [Act.put, List.setIfInBounds_toArray, List.set_cons_zero, List.set_cons_succ]
    refine anyZ_read (i := 2) (v := ?_) (some 17) [6] rfl rfl (by kernel_rfl) (by kernel_rfl) (by kernel_rfl) (by kernel_rfl) (by kernel_rfl) (by kernel_rfl) (fun _ _ _ h => h) (Or.inl ⟨by rfl, ?_⟩) hHeld ?_
    rotate_left
    · intro w' hSw
      obtain ⟨y0, y1, y2, y3, y4, y5, y6, y7, y8⟩ := HC.out w' (hSw.mono (fun _ _ h => h.elim))
      go_simp
      first | done | with_reducible rfl
    try simp only [Act.put, List.setIfInBounds_toArray, List.set_cons_zero, List.set_cons_succ]
    refine anyZ_pure (i := 3) (v := ?_) (some 18) rfl rfl (by kernel_rfl) (by kernel_rfl) (by kernel_rfl) (by kernel_rfl) (fun _ _ _ h => h) (Or.inl ⟨by rfl, ?_⟩) (fun _ => hHeld) ?_
    rotate_left
    · intro w' _
      go_simp
      first | done | with_reducible rfl
    try simp only [Act.put, List.setIfInBounds_toArray, List.set_cons_zero, List.set_cons_succ]
    refine anyZ_pure (i := 4) (v := ?_) (some 19) rfl rfl (by kernel_rfl) (by kernel_rfl) (by kernel_rfl) (by kernel_rfl) (fun _ _ _ h => h) (Or.inl ⟨by rfl, ?_⟩) (fun _ => hHeld) ?_
    rotate_left
    · intro w' _
      go_simp
      first | done | with_reducible rfl
    try simp only [Act.put, List.setIfInBounds_toArray, List.set_cons_zero, List.set_cons_succ]
    refine anyZ_read (i := 5) (v := ?_) (some 20) [6] rfl rfl (by kernel_rfl) (by kernel_rfl) (by kernel_rfl) (by kernel_rfl) (by kernel_rfl) (by kernel_rfl) (fun _ _ _ h => h) (Or.inl ⟨by rfl, ?_⟩) hHeld ?_
    rotate_left
    · intro w' hSw
      obtain ⟨y0, y1, y2, y3, y4, y5, y6, y7, y8⟩ := HC.out w' (hSw.mono (fun _ _ h => h.elim))
      go_simp
      first | done | with_reducible rfl
    try simp only [Act.put, List.setIfInBounds_toArray, List.set_cons_zero, List.set_cons_succ]
    refine anyZ_pure (i := 6) (v := ?_) (some 21) rfl rfl (by kernel_rfl) (by kernel_rfl) (by kernel_rfl) (by kernel_rfl) (fun _ _ _ h => h) (Or.inl ⟨by rfl, ?_⟩) (fun _ => hHeld) ?_
    rotate_left
    · intro w' _
      go_simp
      first | done | with_reducible rfl
    try simp only [Act.put, List.setIfInBounds_toArray, List.set_cons_zero, List.set_cons_succ]
    refine anyZ_done (by kernel_rfl) ?_ _
    obtain ⟨W2, hW2⟩ : ∃ W2, W1.drew = W2 := ⟨_, rfl⟩
    rw [hW2] at hHeld ⊢
    have FW2 := Lib.hid hHeld
    clear hHeld hW2
    go_wp2_with fail
    refine wp_region_Z [12] (fun w' => Fr (fun _ => False) W w') (by kernel_rfl) (FW2.out.drew) (fun hHeld => ?_)
    refine anyZ_read (i := 0) (v := ?_) (some 22) [12] rfl rfl (by kernel_rfl) (by kernel_rfl) (by kernel_rfl) (by kernel_rfl) (by kernel_rfl) (by kernel_rfl) (fun _ _ _ h => h) (Or.inl ⟨by rfl, ?_⟩) hHeld ?_
    rotate_left
    · intro w' hSw
      obtain ⟨y0, y1, y2, y3, y4, y5, y6, y7, y8⟩ := HC.out w' (hSw.mono (fun _ _ h => h.elim))
      go_simp
      first | done | with_reducible rfl
    try simp only [Act.put, List.setIfInBounds_toArray, List.set_cons_zero, List.set_cons_succ]
    refine anyZ_pure (i := 1) (v := ?_) (some 23) rfl rfl (by kernel_rfl) (by kernel_rfl) (by kernel_rfl) (by kernel_rfl) (fun _ _ _ h => h) (Or.inl ⟨by rfl, ?_⟩) (fun _ => hHeld) ?_
    rotate_left
    · intro w' _
      go_simp
      first | done | with_reducible rfl
    try simp only [Act.put, List.setIfInBounds_toArray, List.set_cons_zero, List.set_cons_succ]
    refine anyZ_pure (i := 2) (v := ?_) (some 24) rfl rfl (by kernel_rfl) (by kernel_rfl) (by kernel_rfl) (by kernel_rfl) (fun _ _ _ h => h) (Or.inl ⟨by rfl, ?_⟩) (fun _ => hHeld) ?_
    rotate_left
    · intro w' _
      go_simp
      first | done | with_reducible rfl
    try simp only [Act.put, List.setIfInBounds_toArray, List.set_cons_zero, List.set_cons_succ]
    refine anyZ_read (i := 3) (v := ?_) (some 25) [11, 12] rfl rfl (by kernel_rfl) (by kernel_rfl) (by kernel_rfl) (by kernel_rfl) (by kernel_rfl) (by kernel_rfl) (fun _ _ _ h => h) (Or.inl ⟨by rfl, ?_⟩) hHeld ?_
    rotate_left
    · intro w' hSw
      obtain ⟨y0, y1, y2, y3, y4, y5, y6, y7, y8⟩ := HC.out w' (hSw.mono (fun _ _ h => h.elim))
      go_simp
      first | done | with_reducible rfl
    try simp only [Act.put, List.setIfInBounds_toArray, List.set_cons_zero, List.set_cons_succ]
    refine anyZ_read (i := 4) (v := ?_) (some 26) [8, 11, 12] rfl rfl (by kernel_rfl) (by kernel_rfl) (by kernel_rfl) (by kernel_rfl) (by kernel_rfl) (by kernel_rfl) (fun _ _ _ h => h) (Or.inl ⟨by rfl, ?_⟩) hHeld ?_
    rotate_left
    · intro w' hSw
      obtain ⟨y0, y1, y2, y3, y4, y5, y6, y7, y8⟩ := HC.out w' (hSw.mono (fun _ _ h => h.elim))
      go_simp
      first | done | with_reducible rfl
    try simp only [Act.put, List.setIfInBounds_toArray, List.set_cons_zero, List.set_cons_succ]
    refine anyZ_pure (i := 5) (v := ?_) (some 27) rfl rfl (by kernel_rfl) (by kernel_rfl) (by kernel_rfl) (by kernel_rfl) (fun _ _ _ h => h) (Or.inl ⟨by rfl, ?_⟩) (fun _ => hHeld) ?_
    rotate_left
    · intro w' _
      go_simp
      first | done | with_reducible rfl
    try simp only [Act.put, List.setIfInBounds_toArray, List.set_cons_zero, List.set_cons_succ]
    refine anyZ_pure (i := 6) (v := ?_) (some 28) rfl rfl (by kernel_rfl) (by kernel_rfl) (by kernel_rfl) (by kernel_rfl) (fun _ _ _ h => h) (Or.inl ⟨by rfl, ?_⟩) (fun _ => hHeld) ?_
    rotate_left
    · intro w' _
      go_simp
      first | done | with_reducible rfl
    try simp only [Act.put, List.setIfInBounds_toArray, List.set_cons_zero, List.set_cons_succ]
    refine anyZ_read (i := 7) (v := ?_) (some 29) [8, 11, 12] rfl rfl (by kernel_rfl) (by kernel_rfl) (by kernel_rfl) (by kernel_rfl) (by kernel_rfl) (by kernel_rfl) (fun _ _ _ h => h) (Or.inl ⟨by rfl, ?_⟩) hHeld ?_
    rotate_left
    · intro w' hSw
      obtain ⟨y0, y1, y2, y3, y4, y5, y6, y7, y8⟩ := HC.out w' (hSw.mono (fun _ _ h => h.elim))
      go_simp
      first | done | with_reducible rfl
    try simp only [Act.put, List.setIfInBounds_toArray, List.set_cons_zero, List.set_cons_succ]
    refine anyZ_pure (i := 9) (v := ?_) (some 31) rfl rfl (by kernel_rfl) (by kernel_rfl) (by kernel_rfl) (by kernel_rfl) (fun _ _ _ h => h) (Or.inl ⟨by rfl, ?_⟩) (fun _ => hHeld) ?_
    rotate_left
    · intro w' _
      go_simp
      first | done | with_reducible rfl
    try simp only [Act.put, List.setIfInBounds_toArray, List.set_cons_zero, List.set_cons_succ]
    refine anyZ_pure (i := 10) (v := ?_) (some 32) rfl rfl (by kernel_rfl) (by kernel_rfl) (by kernel_rfl) (by kernel_rfl) (fun _ _ _ h => h) (Or.inl ⟨by rfl, ?_⟩) (fun _ => hHeld) ?_
    rotate_left
    · intro w' _
      go_simp
      first | done | with_reducible rfl
    try simp only [Act.put, List.setIfInBounds_toArray, List.set_cons_zero, List.set_cons_succ]
    refine anyZ_ready (rs := [8]) (by kernel_rfl) (by simp) ?_
    refine AllZ.step rfl (fun K hK => ?_) AllZ.nil
    go_simp
    refine (CT.out _ (FW.out.trans hHeld (fun _ _ h => h))).mono ?_; rintro e w8 ⟨rfl, rfl⟩
    try go_simp
    refine hK.out _ _ (hHeld) (fun hHeld => ?_)
    clear hK K
    try change anyZ _ _ _ _ _ _ _ _ (Act.put _ (some 30) _) _
    try simp only [Act.put, List.setIfInBounds_toArray, List.set_cons_zero, List.set_cons_succ]
    refine anyZ_ready (rs := [11]) (by kernel_rfl) (by simp) ?_
    refine AllZ.step rfl (fun K hK => ?_) AllZ.nil
    go_simp
    refine hK.out _ _ (hHeld.alloc _) (fun hHeld => ?_)
    clear hK K
    try change anyZ _ _ _ _ _ _ _ _ (Act.put _ (some 33) _) _
    try simp only [Act.put, List.setIfInBounds_toArray, List.set_cons_zero, List.set_cons_succ]
    refine anyZ_ready (rs := [12]) (by kernel_rfl) (by simp) ?_
    refine AllZ.last rfl (by kernel_rfl) (fun K hK => ?_) AllZ.nil
    go_simp
    have CI := ints_any (l := [c, tp, (rl : Int)]) (n := 3) (ic := 3) (v := v) (bs := bs) (gw := gw) (wbx := wbx) (ib := W2.heap.size) (w := (W2.alloc (.cells #[.int .i64 c, .int .i64 tp, .int .i64 (rl : Int)] 3)).drew) ⟨HWW.out.1.fr hHeld (fun h => h), HWW.out.2.fr hHeld (fun _ _ h => h)⟩ (HC.out _ (hHeld.mono (fun _ _ h => h.elim))).2.2.2.2.2.2.2.2 (Bk.new _ _ _).drew (by have := HI.out; intro a ha; simp at ha; rcases ha with rfl | rfl | rfl; exact this.1; exact this.2.2.1; exact this.2.2.2) (by simp) (by have := HB.out; omega) rfl
    refine CI.mono ?_; rintro e wa ⟨rfl, va, hwa⟩
    clear CI
    have HWA : Hid (WrTo W gw v wa va (bs ++ [c, tp, (rl : Int)].flatMap eI)) := Lib.hid ⟨hwa.1, (hHeld.mono (T := (fun k => k = gw ∨ v.ownBlock = some k)) (fun _ _ h => h.elim)).trans hwa.2.1 (fun _ _ h => h), hwa.2.2.imp id (fun ⟨k, e, hk⟩ => ⟨k, e, Nat.le_trans hHeld.size hk⟩)⟩
    clear hwa
    try go_simp
    refine hK.out _ _ ?_
    clear hK K
    try change anyZ _ _ _ _ _ _ _ _ (Act.put _ (some 34) _) _
    try simp only [Act.put, List.setIfInBounds_toArray, List.set_cons_zero, List.set_cons_succ]
    refine anyZ_done (by kernel_rfl) ?_ _
    obtain ⟨hd, ehd⟩ : ∃ hd, [c, tp, (rl : Int)].flatMap eI = hd := ⟨_, rfl⟩
    have HL : Hid (hd = (if r0 = s then [c, tp, (rl : Int)].flatMap eI else []) ∧ hd.length ≤ 30) := Lib.hid ⟨by rw [if_pos HQ.out, ehd], by rw [← ehd]; exact eIs_len _ (by have := HI.out; intro a ha; simp at ha; rcases ha with rfl | rfl | rfl; exact this.1; exact this.2.2.1; exact this.2.2.2)⟩
    rw [ehd] at HWA
    clear hHeld ehd
    obtain ⟨y0, y1, y2, y3, y4, y5, y6, y7, y8⟩ := HC.out wa HWA.out.2.1
    clear y0 y2 y3 y4 y6 y7 y8
    have CI : Hid (Calls Tryz.prog 29 #[.slice (some ⟨wa.heap.size, 0, none⟩) 1 1, .pointer (some ⟨wbx, 0, none⟩)] (wa.alloc (.cells #[.int .i64 s] 3)) fun e w' => e = .returned (.tuple #[]) ∧ ∃ v', WrTo wa gw va w' v' (bs ++ hd ++ eI s)) := Lib.hid (by
      have fa : Fr (fun _ => False) wa (wa.alloc (.cells #[.int .i64 s] 3)) := (Fr.refl _ _).alloc _
      refine (ints_any (l := [s]) (n := 1) (ic := 1) (v := va) (bs := bs ++ hd) (gw := gw) (wbx := wbx) (ib := wa.heap.size) ⟨HWA.out.1.1.fr fa (fun h => h), HWA.out.1.2.fr fa (fun _ _ h => h)⟩ (HC.out _ (HWA.out.2.1.trans fa (fun _ _ h => h.elim))).2.2.2.2.2.2.2.2 (Bk.new _ _ _) (by have := HI.out; intro a ha; simp at ha; rcases ha with rfl; exact this.2.1) (by simp) (by rw [List.length_append]; have := HB.out; have := HL.out.2; omega) rfl).mono ?_
      rintro e wb ⟨rfl, vb, hwb⟩
      refine ⟨rfl, vb, ?_⟩
      have h1 : WrTo wa gw va wb vb (bs ++ hd ++ [s].flatMap eI) := ⟨hwb.1, (fa.mono (fun _ _ h => h.elim)).trans hwb.2.1 (fun _ _ h => h), hwb.2.2.imp id (fun ⟨k, e, hk⟩ => ⟨k, e, Nat.le_trans fa.size hk⟩)⟩
      rwa [show [s].flatMap eI = eI s from by simp] at h1)
    go_wp2_with fail
    refine CI.out.mono ?_; rintro e wb ⟨rfl, vb, h1⟩
    have HWB := Lib.hid (HWA.out.trans h1)
    have HLS : Hid ((eI s).length ≤ 10) := Lib.hid (eI_len HI.out.2.1)
    clear h1 y1 y5 CI
    obtain ⟨y0, y1, y2, y3, y4, y5, y6, y7, y8⟩ := HC.out wb HWB.out.2.1
    have CB := Lib.hid (wBytes_any gw vb (bs ++ hd ++ eI s) A n cap xs wb HWB.out.1 (by simp only [List.length_append]; have := HB.out; have := HL.out.2; have := HLS.out; omega) (HRD.out wb ((FW.out.mono (fun _ _ h => h.elim)).trans HWB.out.2.1 (fun _ _ h => h))) HNN.out (by have := HN8.out; omega) (fun ad e h0 => by
      obtain ⟨_, h2, h3⟩ := HAP.out ad e h0
      rintro (e2 | e2)
      · exact h3 (.inl e2)
      · have h4 := HWB.out.2.2.old (x := ad.block) (by have := FW.out.size; omega) e2
        exact h3 (.inr h4)))
    clear y0 y1 y3 y4 y5 y7 y8
    go_wp2_with fail
    refine CB.out.mono ?_; rintro e wc ⟨rfl, vc, hwc⟩
    have HWC : Hid (WrTo W gw v wc vc (bs ++ stepE t (c, s))) := Lib.hid (by
      have := HWB.out.trans hwc
      rw [HST.out, ← HL.out.1]
      unfold eB
      rw [HNN.out]
      simpa [List.append_assoc] using this)
    clear hwc CB y2 y6
    go_wp2
    go_ret
    exact ⟨rfl, vc, HWC.out.1, ((FW.out.mono (fun _ _ h => h.elim)).trans HWC.out.2.1 (fun _ _ h => h)), HWC.out.2.2.imp id (fun ⟨k, e, hk⟩ => ⟨k, e, Nat.le_trans FW.out.size hk⟩)⟩
  · have d0 : (s == r0) = false := by simp [Ne.symm hq]
    have HQ := Lib.hid hq
    clear hq
    go_enter Tryz.func32, Tryz.ntmps32
    go_wp2_with fail
    clear hW heb
    refine wp_region_Z [] (fun w' => Fr (fun _ => False) W w') (by kernel_rfl) ((Fr.refl _ _).drew) (fun hHeld => ?_)
    refine anyZ_read (i := 0) (v := ?_) (some 7) [1, 2, 3, 7, 8] rfl rfl (by kernel_rfl) (by kernel_rfl) (by kernel_rfl) (by kernel_rfl) (by kernel_rfl) (by kernel_rfl) (fun _ _ _ h => h) (Or.inl ⟨by rfl, ?_⟩) hHeld ?_
    rotate_left
    · intro w' hSw
      obtain ⟨y0, y1, y2, y3, y4, y5, y6, y7, y8⟩ := HC.out w' (hSw.mono (fun _ _ h => h.elim)); have hlk := HLK.out w' (FW.out.trans hSw (fun _ _ h => h))
      go_simp
      first | done | with_reducible rfl
    try simp only [Act.put, List.setIfInBounds_toArray, List.set_cons_zero, List.set_cons_succ]
    refine anyZ_pure (i := 1) (v := ?_) (some 8) rfl rfl (by kernel_rfl) (by kernel_rfl) (by kernel_rfl) (by kernel_rfl) (fun _ _ _ h => h) (Or.inl ⟨by rfl, ?_⟩) (fun _ => hHeld) ?_
    rotate_left
    · intro w' _
      go_simp
      first | done | with_reducible rfl
    try simp only [Act.put, List.setIfInBounds_toArray, List.set_cons_zero, List.set_cons_succ]
    refine anyZ_pure (i := 2) (v := ?_) (some 9) rfl rfl (by kernel_rfl) (by kernel_rfl) (by kernel_rfl) (by kernel_rfl) (fun _ _ _ h => h) (Or.inl ⟨by rfl, ?_⟩) (fun _ => hHeld) ?_
    rotate_left
    · intro w' _
      go_simp
      first | done | with_reducible rfl
    try simp only [Act.put, List.setIfInBounds_toArray, List.set_cons_zero, List.set_cons_succ]
    refine anyZ_read (i := 3) (v := ?_) (some 10) [7, 8] rfl rfl (by kernel_rfl) (by kernel_rfl) (by kernel_rfl) (by kernel_rfl) (by kernel_rfl) (by kernel_rfl) (fun _ _ _ h => h) (Or.inl ⟨by rfl, ?_⟩) hHeld ?_
    rotate_left
    · intro w' hSw
      obtain ⟨y0, y1, y2, y3, y4, y5, y6, y7, y8⟩ := HC.out w' (hSw.mono (fun _ _ h => h.elim)); have hlk := HLK.out w' (FW.out.trans hSw (fun _ _ h => h))
      go_simp
      first | done | with_reducible rfl
    try simp only [Act.put, List.setIfInBounds_toArray, List.set_cons_zero, List.set_cons_succ]
    refine anyZ_pure (i := 4) (v := ?_) (some 11) rfl rfl (by kernel_rfl) (by kernel_rfl) (by kernel_rfl) (by kernel_rfl) (fun _ _ _ h => h) (Or.inl ⟨by rfl, ?_⟩) (fun _ => hHeld) ?_
    rotate_left
    · intro w' _
      go_simp
      first | done | with_reducible rfl
    try simp only [Act.put, List.setIfInBounds_toArray, List.set_cons_zero, List.set_cons_succ]
    refine anyZ_pure (i := 5) (v := ?_) (some 12) rfl rfl (by kernel_rfl) (by kernel_rfl) (by kernel_rfl) (by kernel_rfl) (fun _ _ _ h => h) (Or.inl ⟨by rfl, ?_⟩) (fun _ => hHeld) ?_
    rotate_left
    · intro w' _
      go_simp
      first | done | with_reducible rfl
    try simp only [Act.put, List.setIfInBounds_toArray, List.set_cons_zero, List.set_cons_succ]
    refine anyZ_read (i := 6) (v := ?_) (some 13) [7, 8] rfl rfl (by kernel_rfl) (by kernel_rfl) (by kernel_rfl) (by kernel_rfl) (by kernel_rfl) (by kernel_rfl) (fun _ _ _ h => h) (Or.inl ⟨by rfl, ?_⟩) hHeld ?_
    rotate_left
    · intro w' hSw
      obtain ⟨y0, y1, y2, y3, y4, y5, y6, y7, y8⟩ := HC.out w' (hSw.mono (fun _ _ h => h.elim)); have hlk := HLK.out w' (FW.out.trans hSw (fun _ _ h => h))
      go_simp
      first | done | with_reducible rfl
    try simp only [Act.put, List.setIfInBounds_toArray, List.set_cons_zero, List.set_cons_succ]
    refine anyZ_read (i := 7) (v := ?_) (some 14) [8] rfl rfl (by kernel_rfl) (by kernel_rfl) (by kernel_rfl) (by kernel_rfl) (by kernel_rfl) (by kernel_rfl) (fun _ _ _ h => h) (Or.inl ⟨by rfl, ?_⟩) hHeld ?_
    rotate_left
    · intro w' hSw
      obtain ⟨y0, y1, y2, y3, y4, y5, y6, y7, y8⟩ := HC.out w' (hSw.mono (fun _ _ h => h.elim)); have hlk := HLK.out w' (FW.out.trans hSw (fun _ _ h => h))
      go_simp
      first | done | with_reducible rfl
    try simp only [Act.put, List.setIfInBounds_toArray, List.set_cons_zero, List.set_cons_succ]
    refine anyZ_pure (i := 8) (v := ?_) (some 6) rfl rfl (by kernel_rfl) (by kernel_rfl) (by kernel_rfl) (by kernel_rfl) (fun _ _ _ h => h) (Or.inl ⟨by rfl, ?_⟩) (fun _ => hHeld) ?_
    rotate_left
    · intro w' _
      go_simp
      first | done | with_reducible rfl
    try simp only [Act.put, List.setIfInBounds_toArray, List.set_cons_zero, List.set_cons_succ]
    refine anyZ_done (by kernel_rfl) ?_ _
    obtain ⟨W1, hW1⟩ : ∃ W1, W.drew = W1 := ⟨_, rfl⟩
    rw [hW1] at hHeld ⊢
    have FW1 := Lib.hid hHeld
    clear hHeld hW1
    go_wp2_with fail
    refine wp_region_Z [] (fun w' => Fr (fun _ => False) W w') (by kernel_rfl) (FW1.out.drew) (fun hHeld => ?_)
    refine anyZ_pure (i := 0) (v := ?_) (some 15) rfl rfl (by kernel_rfl) (by kernel_rfl) (by kernel_rfl) (by kernel_rfl) (fun _ _ _ h => h) (Or.inl ⟨by rfl, ?_⟩) (fun _ => hHeld) ?_
    rotate_left
    · intro w' _
      go_simp
      first | done | with_reducible rfl
    try simp only [Act.put, List.setIfInBounds_toArray, List.set_cons_zero, List.set_cons_succ]
    refine anyZ_pure (i := 1) (v := ?_) (some 16) rfl rfl (by kernel_rfl) (by kernel_rfl) (by kernel_rfl) (by kernel_rfl) (fun _ _ _ h => h) (Or.inl ⟨by rfl, ?_⟩) (fun _ => hHeld) ?_
    rotate_left
    · intro w' _
      go_simp
      first | done | with_reducible rfl
    try simp only [Act.put, List.setIfInBounds_toArray, List.set_cons_zero, List.set_cons_succ]
    refine anyZ_read (i := 2) (v := ?_) (some 17) [6] rfl rfl (by kernel_rfl) (by kernel_rfl) (by kernel_rfl) (by kernel_rfl) (by kernel_rfl) (by kernel_rfl) (fun _ _ _ h => h) (Or.inl ⟨by rfl, ?_⟩) hHeld ?_
    rotate_left
    · intro w' hSw
      obtain ⟨y0, y1, y2, y3, y4, y5, y6, y7, y8⟩ := HC.out w' (hSw.mono (fun _ _ h => h.elim))
      go_simp
      first | done | with_reducible rfl
    try simp only [Act.put, List.setIfInBounds_toArray, List.set_cons_zero, List.set_cons_succ]
    refine anyZ_pure (i := 3) (v := ?_) (some 18) rfl rfl (by kernel_rfl) (by kernel_rfl) (by kernel_rfl) (by kernel_rfl) (fun _ _ _ h => h) (Or.inl ⟨by rfl, ?_⟩) (fun _ => hHeld) ?_
    rotate_left
    · intro w' _
      go_simp
      first | done | with_reducible rfl
    try simp only [Act.put, List.setIfInBounds_toArray, List.set_cons_zero, List.set_cons_succ]
    refine anyZ_pure (i := 4) (v := ?_) (some 19) rfl rfl (by kernel_rfl) (by kernel_rfl) (by kernel_rfl) (by kernel_rfl) (fun _ _ _ h => h) (Or.inl ⟨by rfl, ?_⟩) (fun _ => hHeld) ?_
    rotate_left
    · intro w' _
      go_simp
      first | done | with_reducible rfl
    try simp only [Act.put, List.setIfInBounds_toArray, List.set_cons_zero, List.set_cons_succ]
    refine anyZ_read (i := 5) (v := ?_) (some 20) [6] rfl rfl (by kernel_rfl) (by kernel_rfl) (by kernel_rfl) (by kernel_rfl) (by kernel_rfl) (by kernel_rfl) (fun _ _ _ h => h) (Or.inl ⟨by rfl, ?_⟩) hHeld ?_
    rotate_left
    · intro w' hSw
      obtain ⟨y0, y1, y2, y3, y4, y5, y6, y7, y8⟩ := HC.out w' (hSw.mono (fun _ _ h => h.elim))
      go_simp
      first | done | with_reducible rfl
    try simp only [Act.put, List.setIfInBounds_toArray, List.set_cons_zero, List.set_cons_succ]
    refine anyZ_pure (i := 6) (v := ?_) (some 21) rfl rfl (by kernel_rfl) (by kernel_rfl) (by kernel_rfl) (by kernel_rfl) (fun _ _ _ h => h) (Or.inl ⟨by rfl, ?_⟩) (fun _ => hHeld) ?_
    rotate_left
    · intro w' _
      go_simp
      first | done | with_reducible rfl
    try simp only [Act.put, List.setIfInBounds_toArray, List.set_cons_zero, List.set_cons_succ]
    refine anyZ_done (by kernel_rfl) ?_ _
    obtain ⟨W2, hW2⟩ : ∃ W2, W1.drew = W2 := ⟨_, rfl⟩
    rw [hW2] at hHeld ⊢
    have FW2 := Lib.hid hHeld
    clear hHeld hW2

    have HWA : Hid (WrTo W gw v W2 v (bs ++ [])) := Lib.hid ⟨by rw [List.append_nil]; exact ⟨HWW.out.1.fr FW2.out (fun h => h), HWW.out.2.fr FW2.out (fun _ _ h => h)⟩, FW2.out.mono (fun _ _ h => h.elim), .inl rfl⟩
    have HL : Hid ([] = (if r0 = s then [c, tp, (rl : Int)].flatMap eI else []) ∧ ([] : List UInt8).length ≤ 30) := Lib.hid ⟨by rw [if_neg HQ.out], by simp⟩
    obtain ⟨hd, ehd⟩ : ∃ hd, ([] : List UInt8) = hd := ⟨_, rfl⟩
    obtain ⟨wa, hwa⟩ : ∃ wa, W2 = wa := ⟨_, rfl⟩
    obtain ⟨va, hva⟩ : ∃ va, v = va := ⟨_, rfl⟩
    replace HWA : Hid (WrTo W gw v wa va (bs ++ hd)) := Lib.hid (by rw [← hwa, ← hva, ← ehd]; exact HWA.out)
    replace HL : Hid (hd = (if r0 = s then [c, tp, (rl : Int)].flatMap eI else []) ∧ hd.length ≤ 30) := Lib.hid (by rw [← ehd]; exact HL.out)
    rw [hwa]
    clear hwa hva ehd
    obtain ⟨y0, y1, y2, y3, y4, y5, y6, y7, y8⟩ := HC.out wa HWA.out.2.1
    clear y0 y2 y3 y4 y6 y7 y8
    have CI : Hid (Calls Tryz.prog 29 #[.slice (some ⟨wa.heap.size, 0, none⟩) 1 1, .pointer (some ⟨wbx, 0, none⟩)] (wa.alloc (.cells #[.int .i64 s] 3)) fun e w' => e = .returned (.tuple #[]) ∧ ∃ v', WrTo wa gw va w' v' (bs ++ hd ++ eI s)) := Lib.hid (by
      have fa : Fr (fun _ => False) wa (wa.alloc (.cells #[.int .i64 s] 3)) := (Fr.refl _ _).alloc _
      refine (ints_any (l := [s]) (n := 1) (ic := 1) (v := va) (bs := bs ++ hd) (gw := gw) (wbx := wbx) (ib := wa.heap.size) ⟨HWA.out.1.1.fr fa (fun h => h), HWA.out.1.2.fr fa (fun _ _ h => h)⟩ (HC.out _ (HWA.out.2.1.trans fa (fun _ _ h => h.elim))).2.2.2.2.2.2.2.2 (Bk.new _ _ _) (by have := HI.out; intro a ha; simp at ha; rcases ha with rfl; exact this.2.1) (by simp) (by rw [List.length_append]; have := HB.out; have := HL.out.2; omega) rfl).mono ?_
      rintro e wb ⟨rfl, vb, hwb⟩
      refine ⟨rfl, vb, ?_⟩
      have h1 : WrTo wa gw va wb vb (bs ++ hd ++ [s].flatMap eI) := ⟨hwb.1, (fa.mono (fun _ _ h => h.elim)).trans hwb.2.1 (fun _ _ h => h), hwb.2.2.imp id (fun ⟨k, e, hk⟩ => ⟨k, e, Nat.le_trans fa.size hk⟩)⟩
      rwa [show [s].flatMap eI = eI s from by simp] at h1)
    go_wp2_with fail
    refine CI.out.mono ?_; rintro e wb ⟨rfl, vb, h1⟩
    have HWB := Lib.hid (HWA.out.trans h1)
    have HLS : Hid ((eI s).length ≤ 10) := Lib.hid (eI_len HI.out.2.1)
    clear h1 y1 y5 CI
    obtain ⟨y0, y1, y2, y3, y4, y5, y6, y7, y8⟩ := HC.out wb HWB.out.2.1
    have CB := Lib.hid (wBytes_any gw vb (bs ++ hd ++ eI s) A n cap xs wb HWB.out.1 (by simp only [List.length_append]; have := HB.out; have := HL.out.2; have := HLS.out; omega) (HRD.out wb ((FW.out.mono (fun _ _ h => h.elim)).trans HWB.out.2.1 (fun _ _ h => h))) HNN.out (by have := HN8.out; omega) (fun ad e h0 => by
      obtain ⟨_, h2, h3⟩ := HAP.out ad e h0
      rintro (e2 | e2)
      · exact h3 (.inl e2)
      · have h4 := HWB.out.2.2.old (x := ad.block) (by have := FW.out.size; omega) e2
        exact h3 (.inr h4)))
    clear y0 y1 y3 y4 y5 y7 y8
    go_wp2_with fail
    refine CB.out.mono ?_; rintro e wc ⟨rfl, vc, hwc⟩
    have HWC : Hid (WrTo W gw v wc vc (bs ++ stepE t (c, s))) := Lib.hid (by
      have := HWB.out.trans hwc
      rw [HST.out, ← HL.out.1]
      unfold eB
      rw [HNN.out]
      simpa [List.append_assoc] using this)
    clear hwc CB y2 y6
    go_wp2
    go_ret
    exact ⟨rfl, vc, HWC.out.1, ((FW.out.mono (fun _ _ h => h.elim)).trans HWC.out.2.1 (fun _ _ h => h)), HWC.out.2.2.imp id (fun ⟨k, e, hk⟩ => ⟨k, e, Nat.le_trans FW.out.size hk⟩)⟩
end Go.Proofs.YtdfkoehcmgcoiaaGreatDoor

/- dedup: Encode whole. -/
namespace Go.Proofs.YtdfkoehcmgcoiaaGreatDoor
open Go.RowKit Go.Maps

theorem headE_len {t : DT} (ok : t.ok) {c : Int} (hc : c ∈ t.cs) : (headE t c).length ≤ 30 := by
  have h1 := ok.crng c hc
  have h2 := ok.took0.top_rng c
  have h3 := ok.len c
  have h4 := ok.w2
  refine eIs_len _ (fun a ha => ?_)
  simp at ha
  rcases ha with rfl | rfl | rfl
  · exact I64.of (by omega) (by omega)
  · exact I64.of (by omega) (by omega)
  · exact I64.of (by omega) (by omega)
theorem stepE_len {t : DT} (ok : t.ok) {B : Nat} (sm : t.small B) (hB : B ≤ 1048576) {p : Int × Int} (hp : p ∈ t.lst) : (stepE t p).length ≤ 50 + B := by
  obtain ⟨h1, h2⟩ := mem_lst.1 hp
  have h3 := sm p.1 p.2 h2
  have h4 := eB_len (xs := t.ans p.1 p.2) (by omega)
  have h5 := ok.rng p.1 p.2 h2
  have h6 := eI_len (a := p.2) (I64.of (by omega) (by omega))
  have h7 := headE_len ok h1
  unfold stepE
  simp only [List.length_append]
  split
  · omega
  · simp; omega
theorem steps_len {t : DT} (ok : t.ok) {B : Nat} (sm : t.small B) (hB : B ≤ 1048576) : ∀ l : List (Int × Int), (∀ p ∈ l, p ∈ t.lst) → (l.flatMap (stepE t)).length ≤ l.length * (50 + B)
  | [], _ => by simp
  | p :: l, h => by
    have h1 := steps_len ok sm hB l (fun q hq => h q (by simp [hq]))
    have h2 := stepE_len ok sm hB (h p (by simp))
    rw [List.flatMap_cons, List.length_append, List.length_cons, Nat.add_mul]
    omega

set_option maxRecDepth 100000 in
theorem enc_walks {g ba br gw wbx ibx tbx : Nat} {F : Nat → Prop} {t : DT} {Da Dr : DV} {w0 w : World} (hT : TabM w g ba br F t Da Dr) (ok : t.ok) (sm : t.small 8192) (hn : t.n ≤ 8192) {av : Int → Int → Value} (hav : AV w F t av) (hF : ∀ k, F k → k < w0.heap.size)
    {v : Value} {bs : List UInt8} (hw : Wr w gw v bs) (hb : bs.length ≤ 20) (hg : w0.heap.size ≤ gw) (hv : ∀ k, v.ownBlock = some k → w0.heap.size ≤ k) (hw0 : w0.heap.size ≤ w.heap.size)
    (hx : Bk w wbx 73 #[.pointer (some ⟨gw, 0, none⟩)]) (hi : Bk w ibx 76 #[.func (.func 29) #[] #[.pointer (some ⟨wbx, 0, none⟩)]]) (ht : Bk w tbx 25 #[.pointer (some ⟨g, 0, none⟩)]) :
    Walks w F t av 32 #[.pointer (some ⟨tbx, 0, none⟩), .pointer (some ⟨ibx, 0, none⟩), .pointer (some ⟨wbx, 0, none⟩)] (fun W1 i W => ∃ v1, WrTo W1 gw v W v1 (bs ++ (t.lst.take i).flatMap (stepE t))) (fun _ _ => False) := by
  have dX : ∀ {b : Nat} {T : TypeId} {cs : Array Value}, Bk w b T cs → T ≠ 113 → T ≠ 5 → ¬ (b = gw ∨ v.ownBlock = some b) := fun hb h1 h2 => by
    rintro (e | e)
    · exact Bk.ne hb hw.1 h1 e
    · exact hw.2.ne hb (fun e => h2 e.symm) e
  refine ⟨callS, fun W1 hf => ⟨v, by
    have h1 : Wr W1 gw v bs := ⟨hw.1.fr hf (fun h => h), hw.2.fr hf (fun _ _ h => h)⟩
    simpa using WrTo.refl h1⟩, ?_, ?_, ?_⟩
  · rintro W1 i W ⟨v1, h1⟩
    refine h1.2.1.mono (fun k _ e => ?_)
    rcases e with e | e
    · have := hw.1.lt; omega
    · exact hw.2.lt e
  · rintro W1 i W W' ⟨v1, h1⟩ hf
    exact ⟨v1, ⟨h1.1.1.fr hf (fun h => h), h1.1.2.fr hf (fun _ _ h => h)⟩, h1.2.1.trans hf (fun _ _ h => h.elim), h1.2.2⟩
  · rintro W1 hf i hi' W ⟨v1, h1⟩ A n cap e4
    have hm : t.lst[i].1 ∈ t.cs ∧ t.lst[i].2 ∈ t.row t.lst[i].1 := mem_lst.1 (List.getElem_mem hi')
    have hFd : ∀ k, F k → ¬ (k = gw ∨ v.ownBlock = some k) := fun k hk e => by
      have h2 := hF k hk
      rcases e with e | e
      · omega
      · have := hv k e; omega
    have hFd1 : ∀ k, F k → ¬ (k = gw ∨ v1.ownBlock = some k) := fun k hk e => by
      have h2 := hF k hk
      rcases e with e | e
      · omega
      · have h3 := hf.size
        have := h1.2.2.old (x := k) (by omega) e
        have := hv k this; omega
    have hTW := (hT.fr hf (fun _ _ h => h)).fr h1.2.1 hFd
    have hA := (hav.fr hf (fun _ _ h => h)).fr h1.2.1 hFd
    obtain ⟨A', cap', e5, hr, hap⟩ := hA.at_ _ _ hm.1 hm.2
    rw [e4] at e5
    injection e5 with e6 e7 e8
    subst e6 e7 e8
    have hlen : ((t.lst.take i).flatMap (stepE t)).length ≤ 8192 * 8242 := by
      have h2 := steps_len ok sm (by omega) (t.lst.take i) (fun p hp => List.mem_of_mem_take hp)
      have h3 : (t.lst.take i).length ≤ 8192 := by rw [List.length_take, lst_len]; omega
      have h4 : (t.lst.take i).length * (50 + 8192) ≤ 8192 * 8242 := Nat.mul_le_mul_right _ h3
      omega
    have hs := sm _ _ hm.2
    refine (enc2_any (c := t.lst[i].1) (s := t.lst[i].2) (cap := cap) hTW ok h1.1 (by rw [List.length_append]; omega) ((hx.fr hf (fun h => h)).fr h1.2.1 (dX hx (by decide) (by decide))) ((hi.fr hf (fun h => h)).fr h1.2.1 (dX hi (by decide) (by decide))) ((ht.fr hf (fun h => h)).fr h1.2.1 (dX ht (by decide) (by decide)))
      hm.1 hm.2 hr rfl (by omega) hap hFd1).mono ?_
    rintro e W' ⟨rfl, v2, h2⟩
    refine ⟨true, rfl, fun _ => ⟨v2, ?_⟩, fun h => by cases h⟩
    have h3 := h1.trans h2
    have h4 : t.lst.take (i + 1) = t.lst.take i ++ [t.lst[i]] := by rw [List.take_add_one, List.getElem?_eq_getElem hi']; rfl
    rw [h4, List.flatMap_append]
    simpa [List.append_assoc] using h3

set_option maxRecDepth 100000 in
set_option maxHeartbeats 8000000 in
theorem encode_any {g : Nat} {F : Nat → Prop} {t : DT} {w : World} (h : Tab w g F t) (ok : t.ok) (sm : t.small 8192) (hn : t.n ≤ 8192) :
    Calls Tryz.prog 12 #[.pointer (some ⟨g, 0, none⟩)] w fun e w' => ∃ A c, e = .returned (.slice A (encT t).length c) ∧ Own8 w' 5 (.slice A (encT t).length c) (encT t) ∧ Fresh w w' (.slice A (encT t).length c) := by
  obtain ⟨ba, br, Da, Dr, hM⟩ := h
  have hmf : ∀ (fn : Fn) (first cap : Array Value) (w : World), (Instr.makeFunc fn first cap).run Tryz.prog w = .ok (.func fn first cap) w := fun _ _ _ _ => rfl
  have hstf : ∀ (a : Addr) (fn : Fn) (x y : Array Value) (w : World), (store a (.func fn x y) .plain).run Tryz.prog w = stored Tryz.prog w a (.func fn x y) .plain := fun a _ _ _ w => run_store Tryz.prog w a _ .plain rfl
  obtain ⟨av, hav, hat⟩ := hM.av ok.took0
  obtain ⟨b, hb⟩ : ∃ b, w.heap.size = b := ⟨_, rfl⟩
  obtain ⟨W1, hW1⟩ : ∃ W1, w.alloc (.cells #[.pointer (some ⟨g, 0, none⟩)] 25) = W1 := ⟨_, rfl⟩
  have s1 : W1.heap.size = b + 1 := by rw [← hW1, ← hb]; simp
  have f1 : Fr (fun _ => False) w W1 := by rw [← hW1]; exact (Fr.refl _ _).alloc _
  have kT : Bk W1 b 25 #[.pointer (some ⟨g, 0, none⟩)] := by rw [← hW1, ← hb]; exact Bk.new _ _ _
  have CN := Lib.hid (newWriter_any W1)
  rw [s1] at CN
  obtain ⟨W2, hW2⟩ : ∃ W2, (W1.alloc (.cells #[.slice none 0 0] 113)).alloc (.cells #[.pointer (some ⟨b + 1, 0, none⟩)] 73) = W2 := ⟨_, rfl⟩
  have s2a : (W1.alloc (.cells #[.slice none 0 0] 113)).heap.size = b + 1 + 1 := by simp [s1]
  have s2 : W2.heap.size = b + 1 + 1 + 1 := by rw [← hW2]; simp [s1]
  have f2a : Fr (fun _ => False) (W1.alloc (.cells #[.slice none 0 0] 113)) W2 := by rw [← hW2]; exact (Fr.refl _ _).alloc _
  have f2 : Fr (fun _ => False) W1 W2 := ((Fr.refl _ _).alloc _).trans f2a (fun _ _ h => h)
  have kW : Bk W2 (b + 1) 113 #[.slice none 0 0] := by
    have := Bk.new W1 113 #[.slice none 0 0]
    rw [s1] at this
    exact this.fr f2a (fun h => h)
  have kX : Bk W2 (b + 1 + 1) 73 #[.pointer (some ⟨b + 1, 0, none⟩)] := by
    have := Bk.new (W1.alloc (.cells #[.slice none 0 0] 113)) 73 #[.pointer (some ⟨b + 1, 0, none⟩)]
    rw [s2a, hW2] at this
    exact this
  obtain ⟨W3, hW3⟩ : ∃ W3, W2.alloc (.cells #[.func (.func 29) #[] #[.pointer (some ⟨b + 1 + 1, 0, none⟩)]] 76) = W3 := ⟨_, rfl⟩
  have f3 : Fr (fun _ => False) W2 W3 := by rw [← hW3]; exact (Fr.refl _ _).alloc _
  have kI : Bk W3 (b + 1 + 1 + 1) 76 #[.func (.func 29) #[] #[.pointer (some ⟨b + 1 + 1, 0, none⟩)]] := by
    have := Bk.new W2 76 #[.func (.func 29) #[] #[.pointer (some ⟨b + 1 + 1, 0, none⟩)]]
    rw [s2, hW3] at this
    exact this
  have f03 : Fr (fun _ => False) w W3 := (f1.trans f2 (fun _ _ h => h)).trans f3 (fun _ _ h => h)
  have KT := Lib.hid (kT.fr (f2.trans f3 (fun _ _ h => h)) (fun h => h))
  have KW := Lib.hid (kW.fr f3 (fun h => h))
  have KX := Lib.hid (kX.fr f3 (fun h => h))
  have KI := Lib.hid kI
  have HM := Lib.hid (hM.fr f03 (fun _ _ h => h))
  have F03 := Lib.hid f03
  have HAV := Lib.hid (hav.fr f03 (fun _ _ h => h))
  have HAT := Lib.hid hat
  have HOK := Lib.hid ok
  have HSM := Lib.hid sm
  have HN := Lib.hid hn
  have HFB := Lib.hid (fun k (hk : F k) => hM.flt k hk)
  have HB := Lib.hid hb
  have s3 : W3.heap.size = b + 1 + 1 + 1 + 1 := by rw [← hW3]; simp [s2]
  have HS3 := Lib.hid s3
  have hc : I64 t.win ∧ I64 (t.cs.length : Int) := by
    have h1 := ok.w1; have h2 := ok.w2; have h3 := ok.cs_len
    exact ⟨I64.of (by omega) (by omega), I64.of (by omega) (by omega)⟩
  have HI := Lib.hid hc
  have HC : Hid (∀ w', Fr (fun _ => False) W3 w' → w'.cell? ⟨b + 1 + 1 + 1, 0, none⟩ = some (.func (.func 29) #[] #[.pointer (some ⟨b + 1 + 1, 0, none⟩)]) ∧ w'.cell? ⟨b, 0, none⟩ = some (.pointer (some ⟨g, 0, none⟩)) ∧ w'.cell? ⟨g, 0, none⟩ = some (.int .i64 t.win) ∧ w'.cell? ⟨g, 2, none⟩ = some (.map (some br)) ∧
      ∀ ty, (Builtin.len_ #[78] ty #[.map (some br)]).run Tryz.prog w' = .ok (.int .i64 (t.cs.length : Nat)) w') := Lib.hid (fun w' hf => by
    have hm := HM.out.fr hf (fun _ _ h => h)
    refine ⟨(KI.out.fr hf (fun h => h)).cell 0, (KT.out.fr hf (fun h => h)).cell 0, hm.blk.cell 0, hm.blk.cell 2, fun ty => ?_⟩
    have := World.ownsMap.len hm.mr tRow ty
    rw [hm.sr] at this
    exact this)
  have kx2 : W2.cell? ⟨b + 1 + 1, 0, none⟩ = some (.pointer (some ⟨b + 1, 0, none⟩)) := kX.cell 0
  clear hM hav hat f1 f2 f2a f3 f03 kT kW kX kI ok sm hn hc s3
  obtain ⟨win, hwin⟩ : ∃ win, t.win = win := ⟨_, rfl⟩
  obtain ⟨nc, hnc⟩ : ∃ nc, t.cs.length = nc := ⟨_, rfl⟩
  rw [hwin, hnc] at HI HC
  have HE : Hid (encT t = [win, (nc : Int)].flatMap eI ++ t.lst.flatMap (stepE t)) := Lib.hid (by unfold encT; rw [hwin, hnc])
  clear hwin hnc
  go_enter Tryz.func12, Tryz.ntmps12
  go_wp2_with fail
  refine CN.out.mono ?_; rintro e w1 ⟨rfl, rfl⟩
  go_wp2_with fail
  clear kx2 hW1 hW2 hW3 s1 s2 s2a hb CN
  refine wp_region_Z [11] (fun w' => Fr (fun _ => False) W3 w') (by kernel_rfl) ((Fr.refl _ _).drew) (fun hHeld => ?_)
  refine anyZ_read (i := 0) (v := ?_) (some 7) [11] rfl rfl (by kernel_rfl) (by kernel_rfl) (by kernel_rfl) (by kernel_rfl) (by kernel_rfl) (by kernel_rfl) (fun _ _ _ h => h) (Or.inl ⟨by rfl, ?_⟩) hHeld ?_
  rotate_left
  · intro w' hSw
    obtain ⟨y0, y1, y2, y3, y4⟩ := HC.out w' hSw
    go_simp
    first | done | with_reducible rfl
  try simp only [Act.put, List.setIfInBounds_toArray, List.set_cons_zero, List.set_cons_succ]
  refine anyZ_read (i := 1) (v := ?_) (some 8) [2, 3, 4, 10, 11] rfl rfl (by kernel_rfl) (by kernel_rfl) (by kernel_rfl) (by kernel_rfl) (by kernel_rfl) (by kernel_rfl) (fun _ _ _ h => h) (Or.inl ⟨by rfl, ?_⟩) hHeld ?_
  rotate_left
  · intro w' hSw
    obtain ⟨y0, y1, y2, y3, y4⟩ := HC.out w' hSw
    go_simp
    first | done | with_reducible rfl
  try simp only [Act.put, List.setIfInBounds_toArray, List.set_cons_zero, List.set_cons_succ]
  refine anyZ_pure (i := 2) (v := ?_) (some 9) rfl rfl (by kernel_rfl) (by kernel_rfl) (by kernel_rfl) (by kernel_rfl) (fun _ _ _ h => h) (Or.inl ⟨by rfl, ?_⟩) (fun _ => hHeld) ?_
  rotate_left
  · intro w' _
    go_simp
    first | done | with_reducible rfl
  try simp only [Act.put, List.setIfInBounds_toArray, List.set_cons_zero, List.set_cons_succ]
  refine anyZ_pure (i := 3) (v := ?_) (some 10) rfl rfl (by kernel_rfl) (by kernel_rfl) (by kernel_rfl) (by kernel_rfl) (fun _ _ _ h => h) (Or.inl ⟨by rfl, ?_⟩) (fun _ => hHeld) ?_
  rotate_left
  · intro w' _
    go_simp
    first | done | with_reducible rfl
  try simp only [Act.put, List.setIfInBounds_toArray, List.set_cons_zero, List.set_cons_succ]
  refine anyZ_read (i := 4) (v := ?_) (some 11) [10, 11] rfl rfl (by kernel_rfl) (by kernel_rfl) (by kernel_rfl) (by kernel_rfl) (by kernel_rfl) (by kernel_rfl) (fun _ _ _ h => h) (Or.inl ⟨by rfl, ?_⟩) hHeld ?_
  rotate_left
  · intro w' hSw
    obtain ⟨y0, y1, y2, y3, y4⟩ := HC.out w' hSw
    go_simp
    first | done | with_reducible rfl
  try simp only [Act.put, List.setIfInBounds_toArray, List.set_cons_zero, List.set_cons_succ]
  refine anyZ_read (i := 5) (v := ?_) (some 12) [6, 7, 8, 9, 10, 11] rfl rfl (by kernel_rfl) (by kernel_rfl) (by kernel_rfl) (by kernel_rfl) (by kernel_rfl) (by kernel_rfl) (fun _ _ _ h => h) (Or.inl ⟨by rfl, ?_⟩) hHeld ?_
  rotate_left
  · intro w' hSw
    obtain ⟨y0, y1, y2, y3, y4⟩ := HC.out w' hSw
    go_simp
    first | done | with_reducible rfl
  try simp only [Act.put, List.setIfInBounds_toArray, List.set_cons_zero, List.set_cons_succ]
  refine anyZ_pure (i := 6) (v := ?_) (some 13) rfl rfl (by kernel_rfl) (by kernel_rfl) (by kernel_rfl) (by kernel_rfl) (fun _ _ _ h => h) (Or.inl ⟨by rfl, ?_⟩) (fun _ => hHeld) ?_
  rotate_left
  · intro w' _
    go_simp
    first | done | with_reducible rfl
  try simp only [Act.put, List.setIfInBounds_toArray, List.set_cons_zero, List.set_cons_succ]
  refine anyZ_pure (i := 7) (v := ?_) (some 14) rfl rfl (by kernel_rfl) (by kernel_rfl) (by kernel_rfl) (by kernel_rfl) (fun _ _ _ h => h) (Or.inl ⟨by rfl, ?_⟩) (fun _ => hHeld) ?_
  rotate_left
  · intro w' _
    go_simp
    first | done | with_reducible rfl
  try simp only [Act.put, List.setIfInBounds_toArray, List.set_cons_zero, List.set_cons_succ]
  refine anyZ_read (i := 8) (v := ?_) (some 15) [9, 10, 11] rfl rfl (by kernel_rfl) (by kernel_rfl) (by kernel_rfl) (by kernel_rfl) (by kernel_rfl) (by kernel_rfl) (fun _ _ _ h => h) (Or.inl ⟨by rfl, ?_⟩) hHeld ?_
  rotate_left
  · intro w' hSw
    obtain ⟨y0, y1, y2, y3, y4⟩ := HC.out w' hSw
    go_simp
    first | done | with_reducible rfl
  try simp only [Act.put, List.setIfInBounds_toArray, List.set_cons_zero, List.set_cons_succ]
  refine anyZ_ready (rs := [9]) (by kernel_rfl) (by simp) ?_
  refine AllZ.step rfl (fun K hK => ?_) AllZ.nil
  obtain ⟨y0, y1, y2, y3, y4⟩ := HC.out _ hHeld
  go_simp
  try go_simp
  refine hK.out _ _ (hHeld) (fun hHeld => ?_)
  clear hK K
  try change anyZ _ _ _ _ _ _ _ _ (Act.put _ (some 16) _) _
  try simp only [Act.put, List.setIfInBounds_toArray, List.set_cons_zero, List.set_cons_succ]
  refine anyZ_ready (rs := [10]) (by kernel_rfl) (by simp) ?_
  refine AllZ.step rfl (fun K hK => ?_) AllZ.nil
  go_simp
  refine hK.out _ _ (hHeld.alloc _) (fun hHeld => ?_)
  clear hK K
  try change anyZ _ _ _ _ _ _ _ _ (Act.put _ (some 17) _) _
  try simp only [Act.put, List.setIfInBounds_toArray, List.set_cons_zero, List.set_cons_succ]
  refine anyZ_ready (rs := [11]) (by kernel_rfl) (by simp) ?_
  refine AllZ.last rfl (by kernel_rfl) (fun K hK => ?_) AllZ.nil
  go_simp
  have CI := ints_any (l := [win, (nc : Int)]) (n := 2) (ic := 2) (v := .slice none 0 0) (bs := []) (gw := b + 1) (wbx := b + 1 + 1) (ib := W3.heap.size) (w := (W3.alloc (.cells #[.int .i64 win, .int .i64 (nc : Int)] 3)).drew) ⟨KW.out.fr hHeld (fun h => h), Own8.nil _ _⟩ (KX.out.fr hHeld (fun h => h)) (Bk.new _ _ _).drew (by have := HI.out; intro a ha; simp at ha; rcases ha with rfl | rfl; exact this.1; exact this.2) (by simp) (by simp) rfl
  refine CI.mono ?_; rintro e w2 ⟨rfl, v2, hw2⟩
  clear CI
  rw [List.nil_append] at hw2
  have HW2 := Lib.hid hw2
  have HF2 := Lib.hid hHeld
  clear hw2
  try go_simp
  refine hK.out _ _ ?_
  clear hK K
  try change anyZ _ _ _ _ _ _ _ _ (Act.put _ (some 18) _) _
  try simp only [Act.put, List.setIfInBounds_toArray, List.set_cons_zero, List.set_cons_succ]
  refine anyZ_done (by kernel_rfl) ?_ _
  clear hHeld
  have k2n : ∀ k, (k = b + 1 ∨ (Value.slice none 0 0).ownBlock = some k) → b + 1 ≤ k := fun k hk => by
    rcases hk with e | e
    · omega
    · simp [Value.ownBlock] at e
  have f2 : Fr (fun k => k = b + 1) W3 w2 := (HF2.out.mono (fun _ _ h => h.elim)).trans HW2.out.2.1 (fun k _ e => by
    rcases e with e | e
    · exact e
    · simp [Value.ownBlock] at e)
  have hv2 : ∀ k, v2.ownBlock = some k → b ≤ k := fun k hk => by
    rcases HW2.out.2.2 with e | ⟨x, e, hx⟩
    · rw [e] at hk; simp [Value.ownBlock] at hk
    · rw [e] at hk; injection hk with hk
      have h1 := HF2.out.size; have h2 := HS3.out
      omega
  have hg : ∀ k, F k → k ≠ b + 1 := fun k hk e => by have := HFB.out k hk; have := HB.out; omega
  have hlen : ([win, (nc : Int)].flatMap eI).length ≤ 20 := eIs_len _ (by have := HI.out; intro a ha; simp at ha; rcases ha with rfl | rfl; exact this.1; exact this.2)
  have hWK := enc_walks (w0 := w) (HM.out.fr f2 hg) HOK.out HSM.out HN.out (HAV.out.fr f2 hg) HFB.out HW2.out.1 hlen (by have := HB.out; omega) (fun k hk => by have := hv2 k hk; have := HB.out; omega) (by have h1 := f2.size; have h2 := HS3.out; have := HB.out; omega)
    (KX.out.fr f2 (by omega)) (KI.out.fr f2 (by omega)) (KT.out.fr f2 (by omega))
  have CWK := Lib.hid (walk_any (HM.out.fr f2 hg) HOK.out (HAV.out.fr f2 hg) HAT.out hWK)
  have KX2 := Lib.hid (KX.out.fr f2 (by omega))
  have y1 : w2.cell? ⟨b, 0, none⟩ = some (.pointer (some ⟨g, 0, none⟩)) := (KT.out.fr f2 (by omega)).cell 0
  have F2 := Lib.hid f2
  have HV2 := Lib.hid hv2
  clear k2n f2 hv2 hg hlen hWK HC
  go_wp2_with fail
  refine CWK.out.mono ?_; rintro e w3 ⟨rfl, WX, hfX, hJ⟩
  obtain ⟨v3, hw3⟩ := hJ.resolve_right (fun h => h)
  rw [List.take_length, ← HE.out] at hw3
  have hlen : (encT t).length ≤ 140737488355328 := by
    rw [HE.out, List.length_append]
    have h1 : ([win, (nc : Int)].flatMap eI).length ≤ 20 := eIs_len _ (by have := HI.out; intro a ha; simp at ha; rcases ha with rfl | rfl; exact this.1; exact this.2)
    have h2 := steps_len HOK.out HSM.out (by omega) t.lst (fun p hp => hp)
    have h3 : t.lst.length ≤ 8192 := by rw [lst_len]; exact HN.out
    have h4 : t.lst.length * (50 + 8192) ≤ 8192 * 8242 := Nat.mul_le_mul_right _ h3
    omega
  have CD := Lib.hid (wDone_any (b + 1) v3 (encT t) w3 hw3.1 hlen)
  have fX : Fr (fun k => k = b + 1 ∨ v2.ownBlock = some k) w2 w3 := (hfX.mono (fun _ _ h => h.elim)).trans hw3.2.1 (fun _ _ h => h)
  have y2 : w3.cell? ⟨b + 1 + 1, 0, none⟩ = some (.pointer (some ⟨b + 1, 0, none⟩)) := (KX2.out.fr fX (by
    rintro (e | e)
    · omega
    · exact HW2.out.1.2.ne KX2.out (by decide) e)).cell 0
  have FW3 : Hid (Fr (fun _ => False) w w3) := Lib.hid (((((F03.out.mono (T := fun k => b ≤ k) (fun _ _ h => h.elim)).trans F2.out (fun k _ e => by omega)).trans fX (fun k _ e => by
    rcases e with e | e
    · omega
    · exact HV2.out k e))).mono (fun k hk e => by have := HB.out; omega))
  clear hw3 hlen fX hJ hfX y1 CWK
  go_wp2_with fail
  refine CD.out.mono ?_; rintro e w4 ⟨A, c, rfl, ho, hf⟩
  have HO := Lib.hid ho
  have HF := Lib.hid hf
  clear ho hf CD y2
  go_wp2
  go_ret
  refine ⟨A, c, rfl, HO.out, FW3.out.trans HF.out.1 (fun _ _ h => h), fun k hk => ?_⟩
  have h1 := HF.out.2 k hk
  have h2 := FW3.out.size
  omega
end Go.Proofs.YtdfkoehcmgcoiaaGreatDoor

/- The sum: CRC-32C, half a byte at a time. -/
namespace Go.Proofs.YtdfkoehcmgcoiaaGreatDoor
open Go.RowKit

/-- One bit of the sum. -/
def crc1 (r : Nat) : Nat := if r % 2 = 1 then (r / 2) ^^^ 0x82F63B78 else r / 2
def crc8 (r : Nat) : Nat := crc1 (crc1 (crc1 (crc1 (crc1 (crc1 (crc1 (crc1 r)))))))
/-- The sum's register behind a byte. -/
def crcB (r : Nat) (b : UInt8) : Nat := crc8 (r ^^^ b.toNat)
def crcL (r : Nat) (l : List UInt8) : Nat := l.foldl crcB r
def crcOf (l : List UInt8) : Nat := 4294967295 - crcL 4294967295 l

theorem crc1_lt (r : Nat) (h : r < 4294967296) : crc1 r < 4294967296 := by
  unfold crc1; split
  · exact Nat.xor_lt_two_pow (n := 32) (by omega) (by omega)
  · omega
theorem crcB_lt (r : Nat) (b : UInt8) (h : r < 4294967296) : crcB r b < 4294967296 := by
  unfold crcB crc8
  have := b.toNat_lt
  have : r ^^^ b.toNat < 4294967296 := Nat.xor_lt_two_pow (n := 32) h (by omega)
  exact crc1_lt _ (crc1_lt _ (crc1_lt _ (crc1_lt _ (crc1_lt _ (crc1_lt _ (crc1_lt _ (crc1_lt _ this)))))))
theorem crcL_lt : ∀ (l : List UInt8) (r : Nat), r < 4294967296 → crcL r l < 4294967296
  | [], _, h => h
  | b :: l, r, h => crcL_lt l (crcB r b) (crcB_lt r b h)

/-- The table of half bytes. -/
def halfN (i : Nat) : Nat := crc1 (crc1 (crc1 (crc1 i)))
def step4 (x : Nat) : Nat := x / 16 ^^^ halfN (x % 16)

theorem crc1_xor (a b : Nat) (hb : b % 2 = 0) : crc1 (a ^^^ b) = crc1 a ^^^ b / 2 := by
  have h1 : (a ^^^ b) % 2 = a % 2 := by
    have := @Nat.xor_mod_two_eq_one a b
    omega
  have h2 : (a ^^^ b) / 2 = a / 2 ^^^ b / 2 := by
    have := @Nat.shiftRight_xor_distrib 1 a b
    simpa [Nat.shiftRight_succ] using this
  unfold crc1
  rw [h1, h2]
  split
  · rw [Nat.xor_assoc, Nat.xor_comm (b / 2), ← Nat.xor_assoc]
  · rfl
theorem crc_half (x : Nat) : crc1 (crc1 (crc1 (crc1 x))) = step4 x := by
  have h : x = x % 16 ^^^ x / 16 * 16 := by
    have := nat_join 4 (x / 16 * 16) (x % 16) (by omega) (by omega)
    rw [Nat.xor_comm]
    have h2 : x / 16 * 16 ^^^ x % 16 = x / 16 * 16 ||| x % 16 := by
      apply Nat.eq_of_testBit_eq
      intro i
      rw [Nat.testBit_xor, Nat.testBit_or]
      by_cases hi : i < 4
      · have : (x / 16 * 16).testBit i = false := by
          rw [show (16 : Nat) = 2 ^ 4 from rfl, Nat.mul_comm, Nat.testBit_two_pow_mul]; simp; omega
        simp [this]
      · have : (x % 16).testBit i = false := by
          rw [show (16 : Nat) = 2 ^ 4 from rfl, Nat.testBit_mod_two_pow]; simp; omega
        simp [this]
    rw [h2, this]; omega
  conv => lhs; rw [h]
  rw [crc1_xor _ _ (by omega), crc1_xor _ _ (by omega), crc1_xor _ _ (by omega), crc1_xor _ _ (by omega)]
  unfold step4 halfN
  rw [Nat.xor_comm, show x / 16 * 16 / 2 / 2 / 2 / 2 = x / 16 by omega]
theorem crcB_step (r : Nat) (b : UInt8) : crcB r b = step4 (step4 (r ^^^ b.toNat)) := by
  unfold crcB crc8
  rw [crc_half, crc_half]
theorem halfN_lt (i : Nat) (h : i < 16) : halfN i < 4294967296 := by
  unfold halfN; exact crc1_lt _ (crc1_lt _ (crc1_lt _ (crc1_lt _ (by omega))))
theorem step4_lt (x : Nat) (h : x < 4294967296) : step4 x < 4294967296 := by
  rw [← crc_half]; exact crc1_lt _ (crc1_lt _ (crc1_lt _ (crc1_lt _ h)))

theorem xor_val (r : Nat) (b : Nat) (hr : r < 4294967296) (hb : b < 256) : bits BinOp.xor IntKind.u32 (r : Int) (b : Int) = ((r ^^^ b : Nat) : Int) := u32_xor_nat _ _ hr (by omega)
theorem and_val (x : Nat) (hx : x < 4294967296) : bits BinOp.and IntKind.u32 (x : Int) 15 = ((x % 16 : Nat) : Int) := by
  rw [show (15 : Int) = ((15 : Nat) : Int) from rfl, u32_and_nat _ _ hx (by omega), nat_mask4]
theorem step_val (x : Nat) (hx : x < 4294967296) : bits BinOp.xor IntKind.u32 ((x : Int) / 16) (halfN (x % 16) : Int) = (step4 x : Int) := by
  rw [show (x : Int) / 16 = ((x / 16 : Nat) : Int) by omega, u32_xor_nat _ _ (by omega) (halfN_lt _ (by omega))]
  rfl

theorem not_val (x : Nat) (hx : x < 4294967296) : bits BinOp.xor IntKind.u32 IntKind.u32.max (x : Int) = ((4294967295 - x : Nat) : Int) := by
  rw [show IntKind.u32.max = ((4294967295 : Nat) : Int) from rfl, u32_xor_nat _ _ (by omega) hx]
  have h : ∀ x : BitVec 32, 4294967295#32 ^^^ x = ~~~x := fun x => by
    rw [show (4294967295#32 : BitVec 32) = BitVec.allOnes 32 from rfl, BitVec.allOnes_xor]
  have := congrArg BitVec.toNat (h (BitVec.ofNat 32 x))
  rw [BitVec.toNat_xor, BitVec.toNat_not] at this
  simp only [BitVec.toNat_ofNat] at this
  rw [Nat.mod_eq_of_lt (show x < 2 ^ 32 by omega), show 4294967295 % 2 ^ 32 = 4294967295 from rfl] at this
  rw [this]

end Go.Proofs.YtdfkoehcmgcoiaaGreatDoor

/- Words of four bytes, frames. -/
namespace Go.Proofs.YtdfkoehcmgcoiaaGreatDoor
open Go.RowKit

/-- A number's four bytes, the lowest first. -/
def four (v : Nat) : List UInt8 := [UInt8.ofNat (v % 256), UInt8.ofNat (v / 256 % 256), UInt8.ofNat (v / 65536 % 256), UInt8.ofNat (v / 16777216 % 256)]
/-- The number of four bytes. -/
def le4 (a b c d : Nat) : Nat := a + 256 * b + 65536 * c + 16777216 * d
def le32 (l : List UInt8) : Nat := le4 (l.getD 0 0).toNat (l.getD 1 0).toNat (l.getD 2 0).toNat (l.getD 3 0).toNat
theorem le32_lt (l : List UInt8) : le32 l < 4294967296 := by
  unfold le32 le4
  have h0 := (l.getD 0 0).toNat_lt
  have h1 := (l.getD 1 0).toNat_lt
  have h2 := (l.getD 2 0).toNat_lt
  have h3 := (l.getD 3 0).toNat_lt
  omega

theorem four_rd (w : World) (x : Nat) (hx : (x : Int) ≤ 4294967295) :
    Rd8 (w.alloc (.cells #[.int .u8 ((x : Int) % 256), .int .u8 ((x : Int) / 256 % 256), .int .u8 ((x : Int) / 65536 % 256), .int .u8 ((x : Int) / 16777216)] 5)) (some ⟨w.heap.size, 0, none⟩) (four x) := fun _ => by
  refine ⟨_, rfl, rfl, fun j hj => ?_⟩
  have hj4 : j < 4 := hj
  rw [Nat.zero_add, (Bk.new w 5 _).cell j]
  match j, hj4 with
  | 0, _ => simp [four, UInt8.toNat_ofNat']
  | 1, _ => simp [four, UInt8.toNat_ofNat']
  | 2, _ => simp [four, UInt8.toNat_ofNat']
  | 3, _ => simp [four, UInt8.toNat_ofNat']; omega

theorem le4_val (a b c d : Nat) (ha : a < 2 ^ 8) (hb : b < 2 ^ 8) (hc : c < 2 ^ 8) (hd : d < 2 ^ 8) :
    bits BinOp.or IntKind.u32 (bits BinOp.or IntKind.u32 (bits BinOp.or IntKind.u32 (a : Int) ((b : Int) * 256)) ((c : Int) * 65536)) ((d : Int) * 16777216) = (le4 a b c d : Int) := by
  have o1 : a ||| b * 256 = a + b * 256 := by rw [Nat.or_comm, nat_join 8 _ _ (by omega) (by omega)]; omega
  have o2 : (a + b * 256) ||| c * 65536 = a + b * 256 + c * 65536 := by rw [Nat.or_comm, nat_join 16 _ _ (by omega) (by omega)]; omega
  have o3 : (a + b * 256 + c * 65536) ||| d * 16777216 = a + b * 256 + c * 65536 + d * 16777216 := by rw [Nat.or_comm, nat_join 24 _ _ (by omega) (by omega)]; omega
  rw [show (b : Int) * 256 = ((b * 256 : Nat) : Int) by omega, u32_or_nat _ _ (by omega) (by omega), o1,
    show (c : Int) * 65536 = ((c * 65536 : Nat) : Int) by omega, u32_or_nat _ _ (by omega) (by omega), o2,
    show (d : Int) * 16777216 = ((d * 16777216 : Nat) : Int) by omega, u32_or_nat _ _ (by omega) (by omega), o3]
  unfold le4; omega

/-- P103's frame of bytes. -/
def frameOf (bs : List UInt8) : List UInt8 := four (bs.length % 4294967296) ++ four (crcOf (four (bs.length % 4294967296))) ++ bs ++ four (crcOf bs)

theorem crcOf_le (l : List UInt8) : (crcOf l : Int) ≤ 4294967295 := by unfold crcOf; omega

end Go.Proofs.YtdfkoehcmgcoiaaGreatDoor
