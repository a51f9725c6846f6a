/- dedup: walk, whatever the step. -/
import Derived.Test.YtdfkoehcmgcoiaaJq
namespace Go.Proofs.Ytdfkoehcmgcoiaa
open Go.RowKit Go.Maps

theorem ecs_at (av : Int → Int → Value) : ∀ (l : List (Int × Int)) (i : Nat) (h : i < l.length), (ecs av l)[i * 3]? = some (.int .i64 l[i].1) ∧ (ecs av l)[i * 3 + 1]? = some (.int .i64 l[i].2) ∧ (ecs av l)[i * 3 + 2]? = some (av l[i].1 l[i].2)
  | p :: l, 0, _ => by simp [ecs]
  | p :: l, i + 1, h => by
    have h' : i < l.length := by simpa using h
    have := ecs_at av l i h'
    have e : ecs av (p :: l) = [.int .i64 p.1, .int .i64 p.2, av p.1 p.2] ++ ecs av l := rfl
    rw [e]
    have hs : ∀ x, ([Value.int .i64 p.1, .int .i64 p.2, av p.1 p.2] ++ ecs av l)[x + 3]? = (ecs av l)[x]? := fun x => by
      rw [List.getElem?_append_right (by simp)]; simp
    rw [show (i + 1) * 3 = i * 3 + 3 by omega, show i * 3 + 3 + 1 = i * 3 + 1 + 3 by omega, show i * 3 + 3 + 2 = i * 3 + 2 + 3 by omega, hs, hs, hs]
    simpa using this
/-- What a step keeps: J behind i steps, Jx where it said false. -/
structure Walks (w : World) (F : Nat → Prop) (t : DT) (av : Int → Int → Value) (fn : FuncId) (caps : Array Value) (J : World → Nat → World → Prop) (Jx : World → World → Prop) : Prop where
  cf : ∀ args (W : World), (callFunc fn args).run Try.prog W = .ok (.enter fn args) W
  start : ∀ W1, Fr (fun _ => False) w W1 → J W1 0 W1
  fr : ∀ W1 i W, J W1 i W → Fr (fun k => k < w.heap.size) W1 W
  more : ∀ W1 i W W', J W1 i W → Fr (fun _ => False) W W' → J W1 i W'
  step : ∀ W1, Fr (fun _ => False) w W1 → ∀ i (h : i < t.lst.length) W, J W1 i W → ∀ A n cap, av t.lst[i].1 t.lst[i].2 = .slice A n cap → Calls Try.prog fn (#[.agg #[.int .i64 t.lst[i].1, .int .i64 t.lst[i].2, .slice A n cap]] ++ caps) W fun e W' => ∃ b, e = .returned (.bool b) ∧ (b = true → J W1 (i + 1) W') ∧ (b = false → Jx W1 W')

set_option maxRecDepth 100000 in
set_option maxHeartbeats 8000000 in
theorem walk_any {g ba br : Nat} {F : Nat → Prop} {t : DT} {Da Dr : DV} {w : World} (h : TabM w g ba br F t Da Dr) (ok : t.ok) {av : Int → Int → Value} (hav : AV w F t av) (hat : ∀ c s, c ∈ t.cs → s ∈ t.row c → At Da (ky c s) (av c s))
    {fn : FuncId} {caps : Array Value} {J : World → Nat → World → Prop} {Jx : World → World → Prop} (hw : Walks w F t av fn caps J Jx) :
    Calls Try.prog 25 #[.pointer (some ⟨g, 0, none⟩), .func (.func fn) #[] caps] w fun e w' => e = .returned (.tuple #[]) ∧ ∃ W1, Fr (fun _ => False) w W1 ∧ (J W1 t.lst.length w' ∨ Jx W1 w') := by
  have CE := Lib.hid (entries_any h ok hav hat)
  have hcf := hw.cf
  have HW := Lib.hid hw
  have HV : Hid (∀ i (hi : i < t.lst.length), ∃ A cap, av t.lst[i].1 t.lst[i].2 = .slice A (t.ans t.lst[i].1 t.lst[i].2).length cap) := Lib.hid (fun i (hi : i < t.lst.length) => (hav.at_ _ _ (mem_lst.1 (List.getElem_mem hi)).1 (mem_lst.1 (List.getElem_mem hi)).2).imp fun A h => h.imp fun cap h => h.1)
  have hn : (t.lst.length : Int) ≤ 4294971392 := by have := ok.n_le; rw [lst_len]; omega
  clear h ok hav hat hw
  go_enter Try.func25, Try.ntmps25
  go_wp2_with fail
  refine CE.out.mono ?_; rintro e w1 ⟨v, rfl, hrow, hnew, hf⟩
  obtain ⟨A, cp, rfl, hl1, hl2, hA⟩ := hrow.form
  have HROW := Lib.hid hrow
  have HNEW := Lib.hid hnew
  have HF := Lib.hid hf
  have HA := Lib.hid hA
  have HJ0 := Lib.hid (HW.out.start w1 hf)
  have HST := Lib.hid (HW.out.step w1 hf)
  clear hrow hnew hf hl1 hl2 hA CE
  obtain ⟨n, hnn⟩ : ∃ n, t.lst.length = n := ⟨_, rfl⟩
  have HN := Lib.hid hnn
  rw [hnn] at hn HROW HNEW HA ⊢
  clear hnn
  have hn0 : (0 : Int) ≤ (n : Int) := by omega
  go_wp2_with fail
  go_loopw [9] (fun i wr => ∃ j : Nat, j ≤ n ∧ i = .int .i64 (j : Int) ∧ Hid (J w1 j wr)) (fun i _ => n - (intOf i).toNat)
  case atStart => exact ⟨0, Nat.zero_le _, rfl, HJ0⟩
  case round =>
    obtain ⟨j, hj, rfl, hJ⟩ := hrel
    have hj0 : (0 : Int) ≤ (j : Int) := by omega
    by_cases hlt : j < n
    · have hj1 : (j : Int) < (n : Int) := by omega
      have hjl : j < t.lst.length := by rw [HN.out]; exact hlt
      obtain ⟨A4, c4, hav4⟩ := HV.out j hjl
      have HFJ := HW.out.fr w1 j wr hJ.out
      have hrow := HROW.out.fr HFJ (fun k hk => by have h1 := HNEW.out k hk; omega)
      obtain ⟨b, off, e⟩ := HA.out (by omega)
      subst e
      obtain ⟨k0, k1, k2⟩ := ecs_at av t.lst j hjl
      rw [hav4] at k2
      have c0 := hrow.cell k0
      have c1 := hrow.cell k1
      have c2 := hrow.cell k2
      obtain ⟨n4, hn4⟩ : ∃ n4, (t.ans t.lst[j].1 t.lst[j].2).length = n4 := ⟨_, rfl⟩
      have CF := Lib.hid (fun W hq => HST.out j hjl W hq A4 _ c4 hav4)
      rw [hn4] at CF c2
      obtain ⟨pc, hpc⟩ : ∃ pc, t.lst[j].1 = pc := ⟨_, rfl⟩
      obtain ⟨ps, hps⟩ : ∃ ps, t.lst[j].2 = ps := ⟨_, rfl⟩
      rw [hpc, hps] at CF
      rw [hpc] at c0
      rw [hps] at c1
      simp only [← Nat.add_assoc] at c1 c2
      have HMO := Lib.hid (fun W' hf => HW.out.more w1 j wr W' hJ.out hf)
      have w1' : IntKind.i64.wrap ((j : Int) + 1) = (j : Int) + 1 := IntWalk.i64_in _ (by omega)
      clear hjl hav4 hrow k0 k1 k2 hn4 hpc hps HFJ hJ
      have HX := Lib.hid ((Fr.refl (fun _ => False) wr).alloc (.cells #[.int .i64 pc, .int .i64 ps, .slice A4 n4 c4] 63))
      go_wp2_with fail
      clear c0 c1 c2
      refine (CF.out _ (HMO.out _ HX.out)).mono ?_; rintro e w2 ⟨q, rfl, hy, hx⟩
      cases q with
      | true =>
        have HJ1 := Lib.hid (hy rfl)
        clear hy hx CF HMO HX
        go_wp2
        go_roundw
        case rel => exact ⟨j + 1, by omega, by go_num, HJ1⟩
        case measure => simp [intOf]; omega
      | false =>
        have HJX := Lib.hid (hx rfl)
        clear hy hx CF HMO HX
        go_wp2
        exact bodyPost_ret (v := .tuple #[]) (results_none rfl _ _ _) rfl ⟨rfl, w1, HF.out, .inr HJX.out⟩
    · obtain rfl : j = n := by omega
      have HJ := Lib.hid hJ.out
      clear hJ hlt hj
      go_wp2
      refine bodyPost_end (results_none rfl _ _ _) rfl ⟨rfl, w1, HF.out, .inl (by rw [HN.out]; exact HJ.out)⟩
end Go.Proofs.Ytdfkoehcmgcoiaa
