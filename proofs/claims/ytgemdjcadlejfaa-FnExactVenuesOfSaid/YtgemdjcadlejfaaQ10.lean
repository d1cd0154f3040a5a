/-
  Packed: RndImplF, RndImplG, RndExch, TySlTo, TySlAp, TySlUp, TyPairSSt.
-/
import Derived.BigRegion
import Derived.Test.YtgemdjcadlejfaaQ1
import Derived.Test.YtgemdjcadlejfaaQ3
import Derived.Test.YtgemdjcadlejfaaQ5
import Derived.Test.YtgemdjcadlejfaaQ9
set_option linter.unusedVariables false
namespace Go.Proofs.Ytgemdjcadlejfaa
open Go.RowKit

theorem cntR_app (h a : Int) : ∀ A B : PairL, cntR h a (A ++ B) = cntR h a A + cntR h a B
  | [], B => (Nat.zero_add _).symm
  | p :: A, B => by show cntR h a (p :: (A ++ B)) = _; rw [cntR_cons, cntR_cons, cntR_app h a A B]; omega
theorem cntL_app (h a : Int) : ∀ A B : List PairL, cntL h a (A ++ B) = cntL h a A + cntL h a B
  | [], B => (Nat.zero_add _).symm
  | r :: A, B => by show cntL h a (r :: (A ++ B)) = _; rw [cntL_cons, cntL_cons, cntL_app h a A B]; omega
theorem cnt_below (h a : Int) {d : List PairL} {r : PairL} {k : Nat} (hr : d[k]? = some r) (j : Nat) : cntL h a (d.take k) + cntR h a (r.take j) ≤ cntL h a d := by
  have e1 : cntL h a d = cntL h a (d.take k ++ d.drop k) := by rw [List.take_append_drop]
  have e2 : cntR h a r = cntR h a (r.take j ++ r.drop j) := by rw [List.take_append_drop]
  rw [e1, cntL_app, drop_at hr, cntL_cons, e2, cntR_app]
  omega
def IntA (cs : Array Value) (K : Nat) (C : Nat → Nat) : Prop := cs.size = K ∧ ∀ j, j < K → cs[j]? = some (.int .i64 (C j : Int))
theorem IntA.congr {cs : Array Value} {K : Nat} {C D : Nat → Nat} (h : IntA cs K C) (e : ∀ j, j < K → C j = D j) : IntA cs K D := ⟨h.1, fun j hj => by rw [h.2 j hj, e j hj]⟩
theorem IntA.set {cs : Array Value} {K : Nat} {C : Nat → Nat} (h : IntA cs K C) (m : Nat) (x : Nat) (hm : m < K) : IntA (cs.setIfInBounds m (.int .i64 (x : Int))) K (fun j => if j = m then x else C j) := by
  refine ⟨by rw [Array.size_setIfInBounds]; exact h.1, fun j hj => ?_⟩
  rw [Array.getElem?_setIfInBounds]
  by_cases e : m = j
  · subst e
    rw [if_pos rfl, if_pos (by rw [h.1]; exact hj)]
    show _ = some (Value.int .i64 ((if m = m then x else C m : Nat) : Int))
    rw [if_pos rfl]
  · rw [if_neg e]
    show _ = some (Value.int .i64 ((if j = m then x else C j : Nat) : Int))
    rw [if_neg (Ne.symm e)]
    exact h.2 j hj
theorem IntA.all {cs : Array Value} {K : Nat} {C : Nat → Nat} (h : IntA cs K C) : cs.all (·.oneCell') = true := by
  refine Array.all_eq_true_iff_forall_mem.2 fun v hv => ?_
  obtain ⟨j, hj, rfl⟩ := Array.mem_iff_getElem.1 hv
  have h1 := h.2 j (by rw [← h.1]; exact hj)
  rw [Array.getElem?_eq_getElem hj] at h1
  rw [Option.some.inj h1]
  rfl
set_option maxRecDepth 100000 in
set_option maxHeartbeats 4000000 in
theorem homeGames_impl (v : Value) (d : List PairL) (w : World) (h : RdA tPairSS w [v] d) (hw : tPairSS.wt d ≤ 1048576)
    (hp : ∀ r ∈ d, ∀ p ∈ (r : List tPair.D), (0 ≤ hm p ∧ hm p ≤ 7) ∧ (0 ≤ aw p ∧ aw p ≤ 7)) :
    Calls Try.prog 49 #[v] w fun e w' => ∃ cs : Array Value, e = .returned (.agg cs) ∧ IntA cs 64 (fun j => cntL (j / 8 : Nat) (j % 8 : Nat) d) ∧ Below w.heap.size w w' := by
  obtain ⟨a, c, rfl, hn⟩ := schedule_form h
  have HR := Lib.hid h
  have HP := Lib.hid hp
  have HCL : Hid (∀ x y : Int, cntL x y d ≤ 1048576) := fun x y => Nat.le_trans (cntL_le x y d) hw
  clear h hp hw
  obtain ⟨n, hd⟩ : ∃ n, List.length (α := PairL) d = n := ⟨_, rfl⟩
  have HD := Lib.hid hd
  rw [hd] at hn ⊢
  clear hd
  obtain ⟨U, hU⟩ : ∃ U, (w.alloc (.cells #[.int .i64 0, .int .i64 0, .int .i64 0, .int .i64 0, .int .i64 0, .int .i64 0, .int .i64 0, .int .i64 0, .int .i64 0, .int .i64 0, .int .i64 0, .int .i64 0, .int .i64 0, .int .i64 0, .int .i64 0, .int .i64 0, .int .i64 0, .int .i64 0, .int .i64 0, .int .i64 0, .int .i64 0, .int .i64 0, .int .i64 0, .int .i64 0, .int .i64 0, .int .i64 0, .int .i64 0, .int .i64 0, .int .i64 0, .int .i64 0, .int .i64 0, .int .i64 0, .int .i64 0, .int .i64 0, .int .i64 0, .int .i64 0, .int .i64 0, .int .i64 0, .int .i64 0, .int .i64 0, .int .i64 0, .int .i64 0, .int .i64 0, .int .i64 0, .int .i64 0, .int .i64 0, .int .i64 0, .int .i64 0, .int .i64 0, .int .i64 0, .int .i64 0, .int .i64 0, .int .i64 0, .int .i64 0, .int .i64 0, .int .i64 0, .int .i64 0, .int .i64 0, .int .i64 0, .int .i64 0, .int .i64 0, .int .i64 0, .int .i64 0, .int .i64 0] 63)).alloc (.cells #[.int .i64 0, .int .i64 0, .int .i64 0, .int .i64 0, .int .i64 0, .int .i64 0, .int .i64 0, .int .i64 0, .int .i64 0, .int .i64 0, .int .i64 0, .int .i64 0, .int .i64 0, .int .i64 0, .int .i64 0, .int .i64 0, .int .i64 0, .int .i64 0, .int .i64 0, .int .i64 0, .int .i64 0, .int .i64 0, .int .i64 0, .int .i64 0, .int .i64 0, .int .i64 0, .int .i64 0, .int .i64 0, .int .i64 0, .int .i64 0, .int .i64 0, .int .i64 0, .int .i64 0, .int .i64 0, .int .i64 0, .int .i64 0, .int .i64 0, .int .i64 0, .int .i64 0, .int .i64 0, .int .i64 0, .int .i64 0, .int .i64 0, .int .i64 0, .int .i64 0, .int .i64 0, .int .i64 0, .int .i64 0, .int .i64 0, .int .i64 0, .int .i64 0, .int .i64 0, .int .i64 0, .int .i64 0, .int .i64 0, .int .i64 0, .int .i64 0, .int .i64 0, .int .i64 0, .int .i64 0, .int .i64 0, .int .i64 0, .int .i64 0, .int .i64 0] 63) = U := ⟨_, rfl⟩
  have hs1 : (w.alloc (.cells #[.int .i64 0, .int .i64 0, .int .i64 0, .int .i64 0, .int .i64 0, .int .i64 0, .int .i64 0, .int .i64 0, .int .i64 0, .int .i64 0, .int .i64 0, .int .i64 0, .int .i64 0, .int .i64 0, .int .i64 0, .int .i64 0, .int .i64 0, .int .i64 0, .int .i64 0, .int .i64 0, .int .i64 0, .int .i64 0, .int .i64 0, .int .i64 0, .int .i64 0, .int .i64 0, .int .i64 0, .int .i64 0, .int .i64 0, .int .i64 0, .int .i64 0, .int .i64 0, .int .i64 0, .int .i64 0, .int .i64 0, .int .i64 0, .int .i64 0, .int .i64 0, .int .i64 0, .int .i64 0, .int .i64 0, .int .i64 0, .int .i64 0, .int .i64 0, .int .i64 0, .int .i64 0, .int .i64 0, .int .i64 0, .int .i64 0, .int .i64 0, .int .i64 0, .int .i64 0, .int .i64 0, .int .i64 0, .int .i64 0, .int .i64 0, .int .i64 0, .int .i64 0, .int .i64 0, .int .i64 0, .int .i64 0, .int .i64 0, .int .i64 0, .int .i64 0] 63)).heap.size = w.heap.size + 1 := by simp
  have WR0 : Hid (∃ zs : Array Value, zs.size = 64 ∧ Whole U w.heap.size zs 63) := by
    rw [← hU]
    exact ⟨#[.int .i64 0, .int .i64 0, .int .i64 0, .int .i64 0, .int .i64 0, .int .i64 0, .int .i64 0, .int .i64 0, .int .i64 0, .int .i64 0, .int .i64 0, .int .i64 0, .int .i64 0, .int .i64 0, .int .i64 0, .int .i64 0, .int .i64 0, .int .i64 0, .int .i64 0, .int .i64 0, .int .i64 0, .int .i64 0, .int .i64 0, .int .i64 0, .int .i64 0, .int .i64 0, .int .i64 0, .int .i64 0, .int .i64 0, .int .i64 0, .int .i64 0, .int .i64 0, .int .i64 0, .int .i64 0, .int .i64 0, .int .i64 0, .int .i64 0, .int .i64 0, .int .i64 0, .int .i64 0, .int .i64 0, .int .i64 0, .int .i64 0, .int .i64 0, .int .i64 0, .int .i64 0, .int .i64 0, .int .i64 0, .int .i64 0, .int .i64 0, .int .i64 0, .int .i64 0, .int .i64 0, .int .i64 0, .int .i64 0, .int .i64 0, .int .i64 0, .int .i64 0, .int .i64 0, .int .i64 0, .int .i64 0, .int .i64 0, .int .i64 0, .int .i64 0], rfl, (Whole.made w #[.int .i64 0, .int .i64 0, .int .i64 0, .int .i64 0, .int .i64 0, .int .i64 0, .int .i64 0, .int .i64 0, .int .i64 0, .int .i64 0, .int .i64 0, .int .i64 0, .int .i64 0, .int .i64 0, .int .i64 0, .int .i64 0, .int .i64 0, .int .i64 0, .int .i64 0, .int .i64 0, .int .i64 0, .int .i64 0, .int .i64 0, .int .i64 0, .int .i64 0, .int .i64 0, .int .i64 0, .int .i64 0, .int .i64 0, .int .i64 0, .int .i64 0, .int .i64 0, .int .i64 0, .int .i64 0, .int .i64 0, .int .i64 0, .int .i64 0, .int .i64 0, .int .i64 0, .int .i64 0, .int .i64 0, .int .i64 0, .int .i64 0, .int .i64 0, .int .i64 0, .int .i64 0, .int .i64 0, .int .i64 0, .int .i64 0, .int .i64 0, .int .i64 0, .int .i64 0, .int .i64 0, .int .i64 0, .int .i64 0, .int .i64 0, .int .i64 0, .int .i64 0, .int .i64 0, .int .i64 0, .int .i64 0, .int .i64 0, .int .i64 0, .int .i64 0] 63).below ((Below.refl _ _).alloc (Nat.le_refl _) _)⟩
  have WC0 : Hid (∃ cs : Array Value, IntA cs 64 (fun _ => 0) ∧ Whole U (w.heap.size + 1) cs 63) := by
    rw [← hU, ← hs1]
    refine ⟨#[.int .i64 0, .int .i64 0, .int .i64 0, .int .i64 0, .int .i64 0, .int .i64 0, .int .i64 0, .int .i64 0, .int .i64 0, .int .i64 0, .int .i64 0, .int .i64 0, .int .i64 0, .int .i64 0, .int .i64 0, .int .i64 0, .int .i64 0, .int .i64 0, .int .i64 0, .int .i64 0, .int .i64 0, .int .i64 0, .int .i64 0, .int .i64 0, .int .i64 0, .int .i64 0, .int .i64 0, .int .i64 0, .int .i64 0, .int .i64 0, .int .i64 0, .int .i64 0, .int .i64 0, .int .i64 0, .int .i64 0, .int .i64 0, .int .i64 0, .int .i64 0, .int .i64 0, .int .i64 0, .int .i64 0, .int .i64 0, .int .i64 0, .int .i64 0, .int .i64 0, .int .i64 0, .int .i64 0, .int .i64 0, .int .i64 0, .int .i64 0, .int .i64 0, .int .i64 0, .int .i64 0, .int .i64 0, .int .i64 0, .int .i64 0, .int .i64 0, .int .i64 0, .int .i64 0, .int .i64 0, .int .i64 0, .int .i64 0, .int .i64 0, .int .i64 0], ⟨rfl, ?_⟩, Whole.made _ #[.int .i64 0, .int .i64 0, .int .i64 0, .int .i64 0, .int .i64 0, .int .i64 0, .int .i64 0, .int .i64 0, .int .i64 0, .int .i64 0, .int .i64 0, .int .i64 0, .int .i64 0, .int .i64 0, .int .i64 0, .int .i64 0, .int .i64 0, .int .i64 0, .int .i64 0, .int .i64 0, .int .i64 0, .int .i64 0, .int .i64 0, .int .i64 0, .int .i64 0, .int .i64 0, .int .i64 0, .int .i64 0, .int .i64 0, .int .i64 0, .int .i64 0, .int .i64 0, .int .i64 0, .int .i64 0, .int .i64 0, .int .i64 0, .int .i64 0, .int .i64 0, .int .i64 0, .int .i64 0, .int .i64 0, .int .i64 0, .int .i64 0, .int .i64 0, .int .i64 0, .int .i64 0, .int .i64 0, .int .i64 0, .int .i64 0, .int .i64 0, .int .i64 0, .int .i64 0, .int .i64 0, .int .i64 0, .int .i64 0, .int .i64 0, .int .i64 0, .int .i64 0, .int .i64 0, .int .i64 0, .int .i64 0, .int .i64 0, .int .i64 0, .int .i64 0] 63⟩
    have key : ∀ j : Fin 64, (#[.int .i64 0, .int .i64 0, .int .i64 0, .int .i64 0, .int .i64 0, .int .i64 0, .int .i64 0, .int .i64 0, .int .i64 0, .int .i64 0, .int .i64 0, .int .i64 0, .int .i64 0, .int .i64 0, .int .i64 0, .int .i64 0, .int .i64 0, .int .i64 0, .int .i64 0, .int .i64 0, .int .i64 0, .int .i64 0, .int .i64 0, .int .i64 0, .int .i64 0, .int .i64 0, .int .i64 0, .int .i64 0, .int .i64 0, .int .i64 0, .int .i64 0, .int .i64 0, .int .i64 0, .int .i64 0, .int .i64 0, .int .i64 0, .int .i64 0, .int .i64 0, .int .i64 0, .int .i64 0, .int .i64 0, .int .i64 0, .int .i64 0, .int .i64 0, .int .i64 0, .int .i64 0, .int .i64 0, .int .i64 0, .int .i64 0, .int .i64 0, .int .i64 0, .int .i64 0, .int .i64 0, .int .i64 0, .int .i64 0, .int .i64 0, .int .i64 0, .int .i64 0, .int .i64 0, .int .i64 0, .int .i64 0, .int .i64 0, .int .i64 0, .int .i64 0] : Array Value)[j.1]? = some (.int .i64 ((0 : Nat) : Int)) := by
      intro j
      have : (#[.int .i64 0, .int .i64 0, .int .i64 0, .int .i64 0, .int .i64 0, .int .i64 0, .int .i64 0, .int .i64 0, .int .i64 0, .int .i64 0, .int .i64 0, .int .i64 0, .int .i64 0, .int .i64 0, .int .i64 0, .int .i64 0, .int .i64 0, .int .i64 0, .int .i64 0, .int .i64 0, .int .i64 0, .int .i64 0, .int .i64 0, .int .i64 0, .int .i64 0, .int .i64 0, .int .i64 0, .int .i64 0, .int .i64 0, .int .i64 0, .int .i64 0, .int .i64 0, .int .i64 0, .int .i64 0, .int .i64 0, .int .i64 0, .int .i64 0, .int .i64 0, .int .i64 0, .int .i64 0, .int .i64 0, .int .i64 0, .int .i64 0, .int .i64 0, .int .i64 0, .int .i64 0, .int .i64 0, .int .i64 0, .int .i64 0, .int .i64 0, .int .i64 0, .int .i64 0, .int .i64 0, .int .i64 0, .int .i64 0, .int .i64 0, .int .i64 0, .int .i64 0, .int .i64 0, .int .i64 0, .int .i64 0, .int .i64 0, .int .i64 0, .int .i64 0] : Array Value) = Array.replicate 64 (.int .i64 0) := by rfl
      rw [this, Array.getElem?_replicate, if_pos j.2]
      rfl
    exact fun j hj => key ⟨j, hj⟩
  have HB0 : Hid (Below w.heap.size w U) := by
    rw [← hU]
    exact ((Below.refl _ _).alloc (Nat.le_refl _) _).alloc (by simp) _
  go_enter Try.func49, Try.ntmps49
  go_wp2
  clear hU
  go_loopw [10] (fun iv wr => ∃ (k : Nat) (cs : Array Value), k ≤ n ∧ iv = .int .i64 k ∧ Hid (IntA cs 64 (fun t => cntL (t / 8 : Nat) (t % 8 : Nat) (d.take k))) ∧ Hid (Whole wr (w.heap.size + 1) cs 63) ∧ Hid (∃ zs : Array Value, zs.size = 64 ∧ Whole wr w.heap.size zs 63) ∧ Hid (Below w.heap.size w wr)) (fun iv _ => n - (RowKit.intOf iv).toNat)
  case atStart =>
    obtain ⟨cs, h1, h2⟩ := WC0.out
    exact ⟨0, cs, Nat.zero_le _, rfl, h1.congr (fun j _ => by rfl), h2, WR0, HB0⟩
  case round =>
    clear WC0 WR0 HB0
    obtain ⟨k, cs, hk9, rfl, HC, HW, HZ, HB⟩ := hrel
    by_cases hlt : k < n
    · obtain ⟨r, hr⟩ : ∃ r : PairL, d[k]? = some r := ⟨_, List.getElem?_eq_getElem (by rw [HD.out]; exact hlt)⟩
      obtain ⟨b, off, x, xc, rfl, hcap, q00, hrr, hm63⟩ := round_cells HR.out hr
      have q0 := (HB.out.cell (p := ⟨b, off + k, none⟩) (World.block_lt_of_cell? w _ q00)).trans q00
      rw [HD.out] at hcap
      have hj1 : (k : Int) < (n : Int) := by omega
      have HRW := Lib.hid hrr
      obtain ⟨m, hm⟩ : ∃ m, List.length (α := tPair.D) r = m := ⟨_, rfl⟩
      have HM := Lib.hid hm
      rw [hm] at q0 hm63
      clear hm hrr q00
      have HRD := Lib.hid hr
      clear hr
      have HC2 : Hid (IntA cs 64 (fun t => cntL (t / 8 : Nat) (t % 8 : Nat) (d.take k) + cntR (t / 8 : Nat) (t % 8 : Nat) (r.take 0))) := HC.out.congr (fun j _ => by rfl)
      clear HC
      go_wp2
      generalize wr = w1 at *
      go_loopw [16] (fun iv wi => ∃ (j : Nat) (cs : Array Value), j ≤ m ∧ iv = .int .i64 j ∧ Hid (IntA cs 64 (fun t => cntL (t / 8 : Nat) (t % 8 : Nat) (d.take k) + cntR (t / 8 : Nat) (t % 8 : Nat) (r.take j))) ∧ Hid (Whole wi (w.heap.size + 1) cs 63) ∧ Hid (∃ zs : Array Value, zs.size = 64 ∧ Whole wi w.heap.size zs 63) ∧ Hid (Below w.heap.size w wi)) (fun iv _ => m - (RowKit.intOf iv).toNat)
      case atStart => exact ⟨0, cs, Nat.zero_le _, rfl, HC2, HW, HZ, HB⟩
      case round =>
        clear HC2 HW HZ HB
        obtain ⟨j, cs, hj9, rfl, HC, HW, HZ, HB⟩ := hrel
        by_cases hlt2 : j < m
        · obtain ⟨p, hp⟩ : ∃ p : tPair.D, r[j]? = some p := ⟨_, List.getElem?_eq_getElem (by rw [HM.out]; exact hlt2)⟩
          have HRr := HRW.out.below HB.out
          obtain ⟨bp, op, rfl, hcap2, e0, e1⟩ := pair_cells HRr hp
          rw [HM.out] at hcap2
          have hj2 : (j : Int) < (m : Int) := by omega
          obtain ⟨⟨o1, o2⟩, o3, o4⟩ := HP.out r (List.mem_of_getElem? HRD.out) p (List.mem_of_getElem? hp)
          have HTK : Hid (∀ t u : Nat, cntR t u (r.take (j + 1)) = cntR t u (r.take j) + (if hm p = t ∧ aw p = u then 1 else 0)) := fun t u => by
            rw [List.take_add_one, hp]
            show cntR t u (r.take j ++ [p]) = _
            rw [cntR_app, cntR_cons]
            show _ + (0 + _) = _
            omega
          have HLE : Hid (∀ t u : Nat, cntL t u (d.take k) + cntR t u (r.take j) ≤ 1048576) := fun t u => Nat.le_trans (cnt_below _ _ HRD.out j) (HCL.out _ _)
          clear HRr hp
          generalize hm p = ph at *
          generalize aw p = pa at *
          obtain ⟨p, rfl⟩ : ∃ p : Nat, ph = p := ⟨ph.toNat, by omega⟩
          obtain ⟨q, rfl⟩ : ∃ q : Nat, pa = q := ⟨pa.toNat, by omega⟩
          have p8 : p < 8 := by omega
          have q8 : q < 8 := by omega
          have p8' : (p : Int) < 8 := by omega
          have q8' : (q : Int) < 8 := by omega
          obtain ⟨C, hC⟩ : ∃ C : Nat, cntL p q (d.take k) + cntR p q (r.take j) = C := ⟨_, rfl⟩
          have hC6 : C ≤ 1048576 := by rw [← hC]; exact HLE.out p q
          have hx : cs[p * 8 + q]? = some (.int .i64 (C : Int)) := by
            have e1 : (p * 8 + q) / 8 = p := by omega
            have e2 : (p * 8 + q) % 8 = q := by omega
            have h9 := HC.out.2 (p * 8 + q) (by omega)
            rw [h9]
            show some (Value.int .i64 ((cntL ((p * 8 + q) / 8 : Nat) ((p * 8 + q) % 8 : Nat) (d.take k) + cntR ((p * 8 + q) / 8 : Nat) ((p * 8 + q) % 8 : Nat) (r.take j) : Nat) : Int)) = _
            rw [e1, e2, hC]
          have HCN : Hid (IntA (cs.setIfInBounds (p * 8 + q) (.int .i64 ((C : Int) + 1))) 64 (fun t => cntL (t / 8 : Nat) (t % 8 : Nat) (d.take k) + cntR (t / 8 : Nat) (t % 8 : Nat) (r.take (j + 1)))) := by
            refine (IntA.set HC.out (p * 8 + q) (C + 1) (by omega)).congr fun t ht => ?_
            show (if t = p * 8 + q then C + 1 else _) = _
            rw [HTK.out]
            by_cases e : t = p * 8 + q
            · have e1 : t / 8 = p := by omega
              have e2 : t % 8 = q := by omega
              rw [if_pos e, e1, e2, if_pos ⟨rfl, rfl⟩, ← hC]
              omega
            · have hne : ¬ ((p : Int) = (t / 8 : Nat) ∧ (q : Int) = (t % 8 : Nat)) := fun h => e (by omega)
              rw [if_neg e, if_neg hne]
              rfl
          have s1 : IntKind.i64.wrap ((C : Int) + 1) = (C : Int) + 1 := IntWalk.i64_in _ (by omega)
          clear hC HTK HLE
          obtain ⟨U, hU⟩ : ∃ U, wr.alloc (.cells #[.int .i64 p, .int .i64 q] 38) = U := ⟨_, rfl⟩
          have bU : Below wr.heap.size wr U := by rw [← hU]; exact (Below.refl _ _).alloc (Nat.le_refl _) _
          have HXU : Hid (BoxN U wr.heap.size [.int .i64 p, .int .i64 q]) := by rw [← hU]; exact BoxN.made (Below.refl _ _) rfl
          have x0 := HXU.out.2 0 _ rfl
          have x1 := HXU.out.2 1 _ rfl
          have HWU := Lib.hid (HW.out.below bU)
          have c0 := HWU.out.cell hx
          have f0 := HWU.out.free (p * 8 + q)
          have HBU := Lib.hid (HB.out.trans (bU.mono HB.out.size))
          have HZU : Hid (∃ zs : Array Value, zs.size = 64 ∧ Whole U w.heap.size zs 63) := by obtain ⟨zs, h1, h2⟩ := HZ.out; exact ⟨zs, h1, h2.below bU⟩
          have hne : w.heap.size + 1 ≠ wr.heap.size := fun e => by have := HW.out.lt; omega
          have HWN := Lib.hid (HWU.out.set (p * 8 + q) (.int .i64 ((C : Int) + 1)))
          have HZN : Hid (∃ zs : Array Value, zs.size = 64 ∧ Whole (U.setCell ⟨w.heap.size + 1, p * 8 + q, none⟩ (.int .i64 ((C : Int) + 1))) w.heap.size zs 63) := by obtain ⟨zs, h1, h2⟩ := HZU.out; exact ⟨zs, h1, h2.other _ _ (by show w.heap.size + 1 ≠ _; omega)⟩
          have HBN : Hid (Below w.heap.size w (U.setCell ⟨w.heap.size + 1, p * 8 + q, none⟩ (.int .i64 ((C : Int) + 1)))) := HBU.out.setCell (p := ⟨w.heap.size + 1, p * 8 + q, none⟩) (Nat.le_succ _) _
          clear HW HB HC HZ HWU HZU HBU bU hx
          go_wp2_with fail
          clear hU
          go_region
          all_goals (try go_wp2)
          all_goals go_roundw
          case rel => exact ⟨j + 1, _, by omega, by go_num, HCN, HWN.out.below (Below.refl _ _).drew, (by obtain ⟨zs, h1, h2⟩ := HZN.out; exact ⟨zs, h1, h2.below (Below.refl _ _).drew⟩), HBN.out.drew⟩
          case measure => simp [RowKit.intOf]; omega
        obtain rfl : j = m := by omega
        have HCx : Hid (IntA cs 64 (fun t => cntL (t / 8 : Nat) (t % 8 : Nat) (d.take (k + 1)))) := HC.out.congr fun t _ => by
          have e : r.take j = r := List.take_of_length_le (Nat.le_of_eq HM.out)
          rw [e, List.take_add_one, HRD.out]
          show _ = cntL _ _ (d.take k ++ [r])
          rw [cntL_app, cntL_cons]
          rfl
        clear HC
        go_wp2
        go_roundw
        case rel => exact ⟨k + 1, cs, by omega, by go_num, HCx, HW, HZ, HB⟩
        case measure => simp [RowKit.intOf]; omega
    obtain rfl : k = n := by omega
    have HCx : Hid (IntA cs 64 (fun t => cntL (t / 8 : Nat) (t % 8 : Nat) d)) := HC.out.congr fun t _ => by rw [List.take_of_length_le (by have := HD.out; omega)]
    clear HC
    obtain ⟨zs, hz1, hz2⟩ := HZ.out
    have HZ2 := Lib.hid hz2
    clear hz2 HZ
    have HAL : Hid (cs.all (·.oneCell') = true) := HCx.out.all
    have HSZ : Hid ((Try.prog.info? 63).map (·.size) = some cs.size) := by show _ = _; rw [HCx.out.1]; kernel_rfl
    have HSE : Hid (zs.size = cs.size) := hz1.trans HCx.out.1.symm
    have HLD : Hid ((loadVar 63 ⟨w.heap.size, 0, none⟩).run Try.prog (wr.setRow w.heap.size cs) = .ok (.agg cs) (wr.setRow w.heap.size cs)) := run_loadVar_row _ _ 63 63 cs (0, 0) _ HZ2.out.setRow Try.underlying63 rfl HSZ.out
    have HBx : Hid (Below w.heap.size w (wr.setRow w.heap.size cs)) := below_setRow HB.out (Nat.le_refl _)
    clear hz1
    go_wp2_with (first | (refine wpList_load_row rfl 63 (.tmp 3) rfl (w.heap.size + 1) rfl 63 cs (0, 0) _ HW.out Try.underlying63 rfl HSZ.out ?_) | (refine wpList_store_row rfl 63 (.tmp 2) (.tmp 32) rfl w.heap.size cs rfl rfl 63 zs HZ2.out HSZ.out HSE.out HAL.out ?_))
    refine bodyPost_ret (v := .agg cs) (results_cell1 (Try.results49) rfl HLD.out) rfl ⟨cs, rfl, HCx.out, HBx.out⟩
end Go.Proofs.Ytgemdjcadlejfaa
set_option linter.unusedVariables false
namespace Go.Proofs.Ytgemdjcadlejfaa
open Go.RowKit

theorem teamsR_mem {p : tPair.D} : ∀ {r : PairL}, p ∈ (r : List tPair.D) → hm p ∈ teamsR r ∧ aw p ∈ teamsR r
  | q :: r, h => by
    rcases List.mem_cons.1 h with h | h
    · subst h
      exact ⟨List.mem_cons_self .., List.mem_cons_of_mem _ (List.mem_cons_self ..)⟩
    · have h9 := teamsR_mem h
      exact ⟨List.mem_cons_of_mem _ (List.mem_cons_of_mem _ h9.1), List.mem_cons_of_mem _ (List.mem_cons_of_mem _ h9.2)⟩
theorem sched_pairs {N : Int} {d : List PairL} (h : schedP N d) : ∀ r ∈ d, ∀ p ∈ (r : List tPair.D), (0 ≤ hm p ∧ hm p ≤ 7) ∧ (0 ≤ aw p ∧ aw p ≤ 7) := fun r hr p hp => by
  have h1 := (h.2.2 r hr).1
  have h2 := teamsR_mem hp
  have h3 := h1 _ h2.1
  have h4 := h1 _ h2.2
  have h5 := h.1
  exact ⟨⟨h3.1, by omega⟩, h4.1, by omega⟩
set_option maxRecDepth 100000 in
set_option maxHeartbeats 4000000 in
theorem isRoundRobin_impl (v : Value) (d : List PairL) (N T : Int) (R : Bool) (w : World) (hR : R = true ↔ robinP N d T) (h : RdA tPairSS w [v] d) (hw : tPairSS.wt d ≤ 1048576) :
    Calls Try.prog 16 #[.int .i64 N, v, .int .i64 T] w fun e w' => e = .returned (.bool R) ∧ Below w.heap.size w w' := by
  obtain ⟨a, c, rfl, hn⟩ := schedule_form h
  have HR := Lib.hid h
  obtain ⟨r1, hr1⟩ := boolEx (schedP N d)
  have C1 := Lib.hid (isSchedule_impl _ d N r1 w hr1 h hw)
  have CH : Hid (schedP N d → ∀ wa, Below w.heap.size w wa → Calls Try.prog 49 #[.slice a (List.length (α := PairL) d) c] wa fun e w' => ∃ cs : Array Value, e = .returned (.agg cs) ∧ IntA cs 64 (fun j => cntL (j / 8 : Nat) (j % 8 : Nat) d) ∧ Below wa.heap.size wa w') := fun hs wa hb => homeGames_impl _ d wa (HR.out.below hb) hw (sched_pairs hs)
  have CL : Hid (∀ x y : Int, cntL x y d ≤ 1048576) := fun x y => Nat.le_trans (cntL_le x y d) hw
  have HN := Lib.hid (boolF hR)
  have HY := Lib.hid (boolT hR)
  have HR1 := Lib.hid hr1
  clear hR hr1 h hw HR
  generalize hdl : List.length (α := PairL) d = n at *
  clear hdl
  by_cases hT1 : 1 ≤ T
  case neg =>
    have g1 : decide (T < 1) = true := decide_eq_true (by omega)
    obtain rfl := HN.out (fun e => hT1 e.2.1.1)
    clear HN HY CH HR1
    go_enter Try.func16, Try.ntmps16
    go_wp2_with fail
    refine C1.out.mono ?_
    rintro e w1 ⟨rfl, b1⟩
    have HB1 := Lib.hid b1
    clear b1 C1
    cases r1 with
    | true => go_wp2; go_ret; exact ⟨rfl, HB1.out⟩
    | false => go_wp2; go_ret; exact ⟨rfl, HB1.out⟩
  have g1 : decide (T < 1) = false := decide_eq_false (by omega)
  by_cases hT2 : T ≤ 2
  case neg =>
    have g2 : decide (2 < T) = true := decide_eq_true (by omega)
    obtain rfl := HN.out (fun e => hT2 e.2.1.2)
    clear HN HY CH HR1
    go_enter Try.func16, Try.ntmps16
    go_wp2_with fail
    refine C1.out.mono ?_
    rintro e w1 ⟨rfl, b1⟩
    have HB1 := Lib.hid b1
    clear b1 C1
    cases r1 with
    | true => go_wp2; go_ret; exact ⟨rfl, HB1.out⟩
    | false => go_wp2; go_ret; exact ⟨rfl, HB1.out⟩
  have g2 : decide (2 < T) = false := decide_eq_false (by omega)
  go_enter Try.func16, Try.ntmps16
  go_wp2_with fail
  refine C1.out.mono ?_
  rintro e w1 ⟨rfl, b1⟩
  have HB1 := Lib.hid b1
  clear b1 C1
  cases r1 with
  | false =>
    obtain rfl := HN.out (fun e => by have := HR1.out.2 e.1; cases this)
    go_wp2
    go_ret
    exact ⟨rfl, HB1.out⟩
  | true =>
  have HS : Hid (schedP N d) := HR1.out.1 (by first | rfl | trivial)
  clear HR1
  have hN2 : 2 ≤ N ∧ N ≤ 8 := HS.out.1
  have CH2 := Lib.hid (CH.out HS.out _ HB1.out)
  clear CH
  go_wp2_with fail
  refine CH2.out.mono ?_
  rintro e w2 ⟨cs, rfl, hcs, b2⟩
  have HC := Lib.hid hcs
  have HB2 := Lib.hid (HB1.out.trans (b2.mono HB1.out.size))
  clear hcs b2 HB1 CH2 g1 g2
  have HAL : Hid (cs.all (·.oneCell') = true) := HC.out.all
  have HSZ : Hid ((Try.prog.info? 63).map (·.size) = some cs.size) := by show _ = _; rw [HC.out.1]; kernel_rfl
  obtain ⟨U, hU⟩ : ∃ U, w2.alloc (.cells #[.int .i64 0, .int .i64 0, .int .i64 0, .int .i64 0, .int .i64 0, .int .i64 0, .int .i64 0, .int .i64 0, .int .i64 0, .int .i64 0, .int .i64 0, .int .i64 0, .int .i64 0, .int .i64 0, .int .i64 0, .int .i64 0, .int .i64 0, .int .i64 0, .int .i64 0, .int .i64 0, .int .i64 0, .int .i64 0, .int .i64 0, .int .i64 0, .int .i64 0, .int .i64 0, .int .i64 0, .int .i64 0, .int .i64 0, .int .i64 0, .int .i64 0, .int .i64 0, .int .i64 0, .int .i64 0, .int .i64 0, .int .i64 0, .int .i64 0, .int .i64 0, .int .i64 0, .int .i64 0, .int .i64 0, .int .i64 0, .int .i64 0, .int .i64 0, .int .i64 0, .int .i64 0, .int .i64 0, .int .i64 0, .int .i64 0, .int .i64 0, .int .i64 0, .int .i64 0, .int .i64 0, .int .i64 0, .int .i64 0, .int .i64 0, .int .i64 0, .int .i64 0, .int .i64 0, .int .i64 0, .int .i64 0, .int .i64 0, .int .i64 0, .int .i64 0] 63) = U := ⟨_, rfl⟩
  have HU : ∃ zs : Array Value, zs.size = 64 ∧ Whole U w2.heap.size zs 63 := by rw [← hU]; exact ⟨#[.int .i64 0, .int .i64 0, .int .i64 0, .int .i64 0, .int .i64 0, .int .i64 0, .int .i64 0, .int .i64 0, .int .i64 0, .int .i64 0, .int .i64 0, .int .i64 0, .int .i64 0, .int .i64 0, .int .i64 0, .int .i64 0, .int .i64 0, .int .i64 0, .int .i64 0, .int .i64 0, .int .i64 0, .int .i64 0, .int .i64 0, .int .i64 0, .int .i64 0, .int .i64 0, .int .i64 0, .int .i64 0, .int .i64 0, .int .i64 0, .int .i64 0, .int .i64 0, .int .i64 0, .int .i64 0, .int .i64 0, .int .i64 0, .int .i64 0, .int .i64 0, .int .i64 0, .int .i64 0, .int .i64 0, .int .i64 0, .int .i64 0, .int .i64 0, .int .i64 0, .int .i64 0, .int .i64 0, .int .i64 0, .int .i64 0, .int .i64 0, .int .i64 0, .int .i64 0, .int .i64 0, .int .i64 0, .int .i64 0, .int .i64 0, .int .i64 0, .int .i64 0, .int .i64 0, .int .i64 0, .int .i64 0, .int .i64 0, .int .i64 0, .int .i64 0], rfl, Whole.made w2 #[.int .i64 0, .int .i64 0, .int .i64 0, .int .i64 0, .int .i64 0, .int .i64 0, .int .i64 0, .int .i64 0, .int .i64 0, .int .i64 0, .int .i64 0, .int .i64 0, .int .i64 0, .int .i64 0, .int .i64 0, .int .i64 0, .int .i64 0, .int .i64 0, .int .i64 0, .int .i64 0, .int .i64 0, .int .i64 0, .int .i64 0, .int .i64 0, .int .i64 0, .int .i64 0, .int .i64 0, .int .i64 0, .int .i64 0, .int .i64 0, .int .i64 0, .int .i64 0, .int .i64 0, .int .i64 0, .int .i64 0, .int .i64 0, .int .i64 0, .int .i64 0, .int .i64 0, .int .i64 0, .int .i64 0, .int .i64 0, .int .i64 0, .int .i64 0, .int .i64 0, .int .i64 0, .int .i64 0, .int .i64 0, .int .i64 0, .int .i64 0, .int .i64 0, .int .i64 0, .int .i64 0, .int .i64 0, .int .i64 0, .int .i64 0, .int .i64 0, .int .i64 0, .int .i64 0, .int .i64 0, .int .i64 0, .int .i64 0, .int .i64 0, .int .i64 0] 63⟩
  have HB4 : Hid (Below w.heap.size w U) := by rw [← hU]; exact HB2.out.alloc HB2.out.size _
  obtain ⟨zs, hz1, hz2⟩ := HU
  have HSE : Hid (zs.size = cs.size) := hz1.trans HC.out.1.symm
  have HZ2 := Lib.hid hz2
  have HW0 : Hid (Whole (U.setRow w2.heap.size cs) w2.heap.size cs 63) := hz2.setRow
  have HB3 : Hid (Below w.heap.size w (U.setRow w2.heap.size cs)) := below_setRow HB4.out HB2.out.size
  clear hz1 hz2
  go_wp2_with (refine wpList_store_row rfl 63 (.tmp 7) (.tmp 25) rfl w2.heap.size cs rfl rfl 63 zs HZ2.out HSZ.out HSE.out HAL.out ?_)
  clear hU HB4 HZ2 HSE HAL HSZ
  go_loopw [27] (fun av wr => ∃ x : Nat, (x : Int) ≤ N ∧ av = .int .i64 x ∧ Hid (∀ a b : Nat, b < a → a < x → metP d T a b) ∧ Hid (Whole wr w2.heap.size cs 63) ∧ Hid (Below w.heap.size w wr)) (fun av _ => N.toNat - (RowKit.intOf av).toNat)
  case atStart => exact ⟨0, by omega, rfl, fun a b _ h => absurd h (Nat.not_lt_zero _), HW0, HB3⟩
  case round =>
    clear HW0 HB3 HB2
    obtain ⟨x, hx9, rfl, HV, HW, HB⟩ := hrel
    by_cases hlt : (x : Int) < N
    · have x8 : x < 8 := by omega
      have x8' : (x : Int) < 8 := by omega
      go_wp2
      generalize wr = w4 at *
      go_loopw [31] (fun bv wi => ∃ y : Nat, y ≤ x ∧ bv = .int .i64 y ∧ Hid (∀ b : Nat, b < y → metP d T x b) ∧ Hid (Whole wi w2.heap.size cs 63) ∧ Hid (Below w.heap.size w wi)) (fun bv _ => x - (RowKit.intOf bv).toNat)
      case atStart => exact ⟨0, Nat.zero_le _, rfl, fun b h => absurd h (Nat.not_lt_zero _), HW, HB⟩
      case round =>
        clear HB HW
        obtain ⟨y, hy9, rfl, HZ, HW, HB⟩ := hrel
        by_cases hlt2 : y < x
        · have hj2 : (y : Int) < (x : Int) := by omega
          have y8 : y < 8 := by omega
          have y8' : (y : Int) < 8 := by omega
          have hp1 := CL.out x y
          have hp2 := CL.out y x
          obtain ⟨p, hp⟩ : ∃ p, cntL x y d = p := ⟨_, rfl⟩
          obtain ⟨q, hq⟩ : ∃ q, cntL y x d = q := ⟨_, rfl⟩
          have c0 : wr.cell? ⟨w2.heap.size, x * 8 + y, none⟩ = some (.int .i64 (p : Int)) := HW.out.cell (by
            have e1 : (x * 8 + y) / 8 = x := by omega
            have e2 : (x * 8 + y) % 8 = y := by omega
            rw [HC.out.2 (x * 8 + y) (by omega)]
            show some (Value.int .i64 ((cntL ((x * 8 + y) / 8 : Nat) ((x * 8 + y) % 8 : Nat) d : Nat) : Int)) = _
            rw [e1, e2, hp])
          have c1 : wr.cell? ⟨w2.heap.size, y * 8 + x, none⟩ = some (.int .i64 (q : Int)) := HW.out.cell (by
            have e1 : (y * 8 + x) / 8 = y := by omega
            have e2 : (y * 8 + x) % 8 = x := by omega
            rw [HC.out.2 (y * 8 + x) (by omega)]
            show some (Value.int .i64 ((cntL ((y * 8 + x) / 8 : Nat) ((y * 8 + x) % 8 : Nat) d : Nat) : Int)) = _
            rw [e1, e2, hq])
          have HM : Hid (metP d T x y ↔ (p ≤ 1 ∧ q ≤ 1 ∧ (p : Int) + (q : Int) = T)) := by unfold metP; rw [hp, hq]; exact Iff.rfl
          rw [hp] at hp1
          rw [hq] at hp2
          clear hp hq
          have HBAD : Hid (¬ (p ≤ 1 ∧ q ≤ 1 ∧ (p : Int) + (q : Int) = T) → R = false) := fun h => HN.out (fun e => h (HM.out.1 (e.2.2 x y hlt2 hlt)))
          have s1 : IntKind.i64.wrap ((p : Int) + (q : Int)) = (p : Int) + (q : Int) := IntWalk.i64_in _ (by omega)
          by_cases h1 : p ≤ 1
          case neg =>
            obtain rfl := HBAD.out (fun h => h1 h.1)
            have g1 : decide ((1 : Int) < (p : Int)) = true := decide_eq_true (by omega)
            have g1' : decide (1 < p) = true := decide_eq_true (by omega)
            clear HBAD HM
            go_wp2_with (go_quiet (fail))
            go_ret
            exact ⟨rfl, below_drewN HB.out _⟩
          have g1 : decide ((1 : Int) < (p : Int)) = false := decide_eq_false (by omega)
          have g1' : decide (1 < p) = false := decide_eq_false (by omega)
          by_cases h2 : q ≤ 1
          case neg =>
            obtain rfl := HBAD.out (fun h => h2 h.2.1)
            have g2 : decide ((1 : Int) < (q : Int)) = true := decide_eq_true (by omega)
            have g2' : decide (1 < q) = true := decide_eq_true (by omega)
            clear HBAD HM
            go_wp2_with (go_quiet (fail))
            go_ret
            exact ⟨rfl, below_drewN HB.out _⟩
          have g2 : decide ((1 : Int) < (q : Int)) = false := decide_eq_false (by omega)
          have g2' : decide (1 < q) = false := decide_eq_false (by omega)
          by_cases h3 : (p : Int) + (q : Int) = T
          case neg =>
            obtain rfl := HBAD.out (fun h => h3 h.2.2)
            have g3 : ((p : Int) + (q : Int) != T) = true := by simpa using h3
            clear HBAD HM h3
            go_wp2_with (go_quiet (fail))
            go_ret
            exact ⟨rfl, below_drewN HB.out _⟩
          have g3 : ((p : Int) + (q : Int) != T) = false := by simpa using h3
          have HMY : Hid (metP d T x y) := HM.out.2 ⟨h1, h2, h3⟩
          clear HBAD HM h3
          have HZ2 : Hid (∀ b : Nat, b < y + 1 → metP d T x b) := fun b hb => by
            by_cases e : b = y
            · subst e; exact HMY.out
            · exact HZ.out b (by omega)
          go_wp2_with (go_quiet (fail))
          go_roundw
          case rel => exact ⟨y + 1, by omega, by go_num, HZ2, HW.out.below (below_drewN (Below.refl _ _) _), below_drewN HB.out _⟩
          case measure => simp [RowKit.intOf]; omega
        obtain rfl : y = x := by omega
        have HV2 : Hid (∀ a b : Nat, b < a → a < y + 1 → metP d T a b) := fun a b h1 h2 => by
          by_cases e : a = y
          · subst e; exact HZ.out b h1
          · exact HV.out a b h1 (by omega)
        go_wp2
        go_roundw
        case rel => exact ⟨y + 1, by omega, by go_num, HV2, HW, HB⟩
        case measure => simp [RowKit.intOf]; omega
    obtain rfl : N = x := by omega
    obtain rfl := HY.out ⟨HS.out, ⟨hT1, hT2⟩, fun a b h1 h2 => HV.out a b h1 (by omega)⟩
    clear HN HY
    go_wp2
    go_ret
    exact ⟨rfl, HB.out⟩
set_option maxRecDepth 100000 in
set_option maxHeartbeats 4000000 in
theorem totalBreaks_impl (v : Value) (d : List PairL) (N : Int) (R : Bool) (w : World) (hR : R = true ↔ schedP N d) (h : RdA tPairSS w [v] d) (hw : tPairSS.wt d ≤ 1048576) :
    Calls Try.prog 21 #[.int .i64 N, v] w fun e w' => e = .returned (.int .i64 (if R = true then (totB d N.toNat : Nat) else -1)) ∧ Below w.heap.size w w' := by
  obtain ⟨a, c, rfl, hn⟩ := schedule_form h
  have HR := Lib.hid h
  obtain ⟨r1, hr1⟩ := boolEx (schedP N d)
  obtain rfl : R = r1 := by cases R <;> cases r1 <;> simp_all
  have C1 := Lib.hid (isSchedule_impl _ d N R w hr1 h hw)
  have CC : Hid (∀ (x : Int) wa, Below w.heap.size w wa → Calls Try.prog 20 #[.slice a (List.length (α := PairL) d) c, .int .i64 x] wa fun e w' => e = .returned (.int .i64 (breaksL d x)) ∧ Below wa.heap.size wa w') := fun x wa hb => breaksOf_impl _ d x wa (HR.out.below hb) hw
  have HS : Hid (R = true → schedP N d) := fun e => hR.1 e
  have CL : Hid (R = true → ∀ x : Int, breaksL d x ≤ 14) := fun e x => Nat.le_trans (brkN_le _ _) (hR.1 e).2.1
  clear hR hr1 h hw HR
  generalize hdl : List.length (α := PairL) d = n at *
  clear hdl
  go_enter Try.func21, Try.ntmps21
  go_wp2_with fail
  refine C1.out.mono ?_
  rintro e w1 ⟨rfl, b1⟩
  have HB1 := Lib.hid b1
  clear b1 C1
  cases R with
  | false =>
    go_wp2
    go_ret
    exact ⟨by rfl, HB1.out⟩
  | true =>
  have hN2 : 2 ≤ N ∧ N ≤ 8 := (HS.out (by first | rfl | trivial)).1
  have CB := Lib.hid (CL.out (by first | rfl | trivial))
  clear HS CL
  go_wp2
  go_loopw [5, 12] (fun sv av wr => ∃ x z : Nat, (x : Int) ≤ N ∧ av = .int .i64 x ∧ sv = .int .i64 z ∧ Hid (z = totB d x) ∧ z ≤ 14 * x ∧ Hid (Below w.heap.size w wr)) (fun _ av _ => N.toNat - (RowKit.intOf av).toNat)
  case atStart => exact ⟨0, 0, by omega, rfl, rfl, rfl, Nat.le_refl _, HB1⟩
  case round =>
    clear HB1
    obtain ⟨x, z, hx9, rfl, rfl, HZ, hz, HB⟩ := hrel
    by_cases hlt : (x : Int) < N
    · have hb14 := CB.out x
      have HZ2 : Hid (z + breaksL d x = totB d (x + 1)) := by show _ = _; rw [totB_succ, HZ.out]
      go_wp2_with fail
      refine (CC.out _ _ HB.out).mono ?_
      rintro e w3 ⟨rfl, b3⟩
      have HB3 := Lib.hid (HB.out.trans (b3.mono HB.out.size))
      clear b3 HB
      generalize breaksL d x = y at *
      have s1 : IntKind.i64.wrap ((z : Int) + (y : Int)) = (z : Int) + (y : Int) := IntWalk.i64_in _ (by omega)
      go_wp2
      go_roundw
      case rel => exact ⟨x + 1, z + y, by omega, by go_num, by go_num, HZ2, by omega, HB3⟩
      case measure => simp [RowKit.intOf]; omega
    obtain rfl : N.toNat = x := by omega
    have HZ2 := HZ
    go_wp2
    go_ret
    exact ⟨by rw [HZ2.out]; rfl, HB.out⟩
end Go.Proofs.Ytgemdjcadlejfaa
set_option linter.unusedVariables false
namespace Go.Proofs.Ytgemdjcadlejfaa
open Go.RowKit

theorem Try.infoPairZ : (Try.prog.info? 38).map (·.size) = some 2 := by kernel_rfl
theorem exchanged_at (h a : Int) (w : World) :
    Calls Try.prog 48 #[.agg #[.int .i64 h, .int .i64 a]] w fun e w' => e = .returned (.agg #[.int .i64 a, .int .i64 h]) ∧ w' = (w.alloc (.cells #[.int .i64 h, .int .i64 a] 38)).alloc (.cells #[.int .i64 a, .int .i64 h] 38) := by
  have HW : Hid (Whole ((w.alloc (.cells #[.int .i64 h, .int .i64 a] 38)).alloc (.cells #[.int .i64 a, .int .i64 h] 38)) (w.heap.size + 1) #[.int .i64 a, .int .i64 h] 38) := by
    have e : (w.alloc (.cells #[.int .i64 h, .int .i64 a] 38)).heap.size = w.heap.size + 1 := by simp
    rw [← e]
    exact Whole.made _ _ _
  go_enter Try.func48, Try.ntmps48
  go_wp2
  exact bodyPost_ret (results_cell1 (Try.results48) rfl (run_loadVar_row _ _ 38 38 _ (0, 0) _ HW.out Try.underlying38 rfl Try.infoPairZ)) rfl ⟨rfl, rfl⟩
theorem exchanged_impl (h a : Int) (w : World) :
    Calls Try.prog 48 #[.agg #[.int .i64 h, .int .i64 a]] w fun e w' => e = .returned (.agg #[.int .i64 a, .int .i64 h]) ∧ Below w.heap.size w w' :=
  (exchanged_at h a w).mono fun e w' ⟨h1, h2⟩ => ⟨h1, by rw [h2]; exact ((Below.refl _ _).alloc (Nat.le_refl _) _).alloc (by simp) _⟩
end Go.Proofs.Ytgemdjcadlejfaa
set_option linter.unusedVariables false
namespace Go.Proofs.Ytgemdjcadlejfaa
open Go.RowKit

def RowsMk (e : Ty) (w : World) (O : Nat) (d : List e.D) (j : Nat) (ys : List Value) : Prop :=
  ∃ f : Nat → List Nat, (∀ i x, i < j → d[i]? = some x → e.Ow w (O + 1) [ys.getD i undef] x (f i)) ∧ (∀ i, i < j → (f i).Nodup) ∧ (∀ i k, i < j → k < j → i ≠ k → ∀ q, q ∈ f i → q ∉ f k) ∧ ∀ i, i < j → ∀ q, q ∈ f i → O < q ∧ q < w.heap.size
theorem RowsMk.nil {e : Ty} {w : World} {O : Nat} {d : List e.D} {ys : List Value} : RowsMk e w O d 0 ys :=
  ⟨fun _ => [], fun i _ h => absurd h (Nat.not_lt_zero _), fun i h => absurd h (Nat.not_lt_zero _), fun i _ h => absurd h (Nat.not_lt_zero _), fun i h => absurd h (Nat.not_lt_zero _)⟩
theorem RowsMk.next {e : Ty} {w u w' : World} {O : Nat} {d : List e.D} {j : Nat} {ys : List Value} {v : Value} {x : e.D} (h : RowsMk e w O d j ys) (hO : O < w.heap.size) (hb : Below w.heap.size w u) (ho : OwN e u w.heap.size u.heap.size [v] x)
    (hx : d[j]? = some x) (hj : j < ys.length) (hs : u.heap.size ≤ w'.heap.size) (hk : ∀ q, q ≠ O → q < u.heap.size → w'.heap[q]? = u.heap[q]?) : RowsMk e w' O d (j + 1) (ys.set j v) := by
  obtain ⟨f, h1, h2, h3, h4⟩ := h
  obtain ⟨bs, b1, b2, b3, _⟩ := ho
  have b4 := e.ow_lt b1
  have hsz := hb.size
  obtain ⟨F, hF1, hF2⟩ : ∃ F : Nat → List Nat, F j = bs ∧ ∀ i, i ≠ j → F i = f i := ⟨fun i => if i = j then bs else f i, if_pos rfl, fun i h => if_neg h⟩
  refine ⟨F, fun i y hi hy => ?_, fun i hi => ?_, fun i k hi hkk hik q hq => ?_, fun i hi q hq => ?_⟩
  · by_cases e1 : i = j
    · subst e1
      rw [hx] at hy
      obtain rfl := Option.some.inj hy
      rw [hF1]
      have e2 : (ys.set i v).getD i undef = v := by simp [List.getD_eq_getElem?_getD, hj]
      rw [e2]
      exact e.ow_mono (e.ow_frame b1 (fun q hq => hk q (by have := (b4 q hq).1; omega) (b4 q hq).2) hs) (by omega)
    · rw [hF2 i e1]
      have e2 : (ys.set j v).getD i undef = ys.getD i undef := by simp [List.getD_eq_getElem?_getD, Ne.symm e1]
      rw [e2]
      refine e.ow_frame (h1 i y (by omega) hy) (fun q hq => ?_) (Nat.le_trans hsz hs)
      have h5 := h4 i (by omega) q hq
      exact (hk q (by omega) (by omega)).trans (hb.block q h5.2)
  · by_cases e1 : i = j
    · rw [e1, hF1]; exact b2
    · rw [hF2 i e1]; exact h2 i (by omega)
  · by_cases e1 : i = j
    · rw [e1, hF1] at hq
      rw [hF2 k (by omega)]
      intro hq2
      have := h4 k (by omega) q hq2
      have := (b4 q hq).1
      omega
    · rw [hF2 i e1] at hq
      have h5 := h4 i (by omega) q hq
      by_cases e2 : k = j
      · rw [e2, hF1]; intro hq2; have := (b4 q hq2).1; omega
      · rw [hF2 k e2]; exact h3 i k (by omega) (by omega) hik q hq
  · by_cases e1 : i = j
    · rw [e1, hF1] at hq
      have := b4 q hq
      exact ⟨by omega, by omega⟩
    · rw [hF2 i e1] at hq
      have := h4 i (by omega) q hq
      exact ⟨this.1, by omega⟩
theorem flat_nodup_of {f : Nat → List Nat} : ∀ n, (∀ i, i < n → (f i).Nodup) → (∀ i k, i < n → k < n → i ≠ k → ∀ q, q ∈ f i → q ∉ f k) → ((List.range n).flatMap f).Nodup
  | 0, _, _ => List.nodup_nil
  | n + 1, h1, h2 => by
    rw [range_flat_succ]
    refine List.nodup_append.2 ⟨flat_nodup_of n (fun i hi => h1 i (by omega)) (fun i k hi hk => h2 i k (by omega) (by omega)), h1 n (Nat.lt_succ_self _), fun a ha b hb e => ?_⟩
    subst e
    obtain ⟨i, hi, ha⟩ := List.mem_flatMap.1 ha
    have := List.mem_range.1 hi
    exact h2 i n (by omega) (Nat.lt_succ_self _) (by omega) a ha hb
theorem RowsMk.own {t : TypeId} {e : Ty} {w : World} {O n c : Nat} {d : List e.D} {ys : List Value} (he : e.n = 1) (hn : d.length = n) (h : RowsMk e w O d n ys) (ho : w.ownsRow O t 1 (.slice (some ⟨O, 0, none⟩) n c) n ys) (hO : O < w.heap.size) :
    OwN (tSl t e) w O w.heap.size [.slice (some ⟨O, 0, none⟩) n c] d := by
  subst hn
  obtain ⟨f, h1, h2, h3, h4⟩ := h
  have hl := ho.1
  rw [Nat.mul_one] at hl
  refine ⟨O :: (List.range d.length).flatMap f, ⟨_, ys, f, rfl, by rw [he]; exact ho, fun i x hx => ?_, rfl⟩, List.nodup_cons.2 ⟨fun hm => ?_, flat_nodup_of _ h2 h3⟩, fun q hq => ?_, Nat.le_refl _⟩
  · have hi := (List.getElem?_eq_some_iff.1 hx).1
    rw [he, Nat.mul_one, List.drop_eq_getElem_cons (by omega : i < ys.length)]
    have h5 := h1 i x hi hx
    rw [List.getD_eq_getElem?_getD, List.getElem?_eq_getElem (by omega : i < ys.length)] at h5
    exact e.ow_mono h5 (Nat.le_succ _)
  · obtain ⟨i, hi, hq⟩ := List.mem_flatMap.1 hm
    have := h4 i (List.mem_range.1 hi) O hq
    omega
  · rcases List.mem_cons.1 hq with rfl | hq
    · exact hO
    · obtain ⟨i, hi, hq⟩ := List.mem_flatMap.1 hq
      exact (h4 i (List.mem_range.1 hi) q hq).2
end Go.Proofs.Ytgemdjcadlejfaa
set_option linter.unusedVariables false
namespace Go.Proofs.Ytgemdjcadlejfaa
open Go.RowKit

def RowsAp (t : TypeId) (e : Ty) (w : World) (B : Nat) (v : Value) (d : List e.D) (xs : List Value) : Prop :=
  w.ownsRow B t 1 v d.length xs ∧ ∃ f : Nat → List Nat, (∀ i x, d[i]? = some x → e.Ow w B [xs.getD i undef] x (f i)) ∧ (∀ i, i < d.length → (f i).Nodup) ∧ (∀ i k, i < d.length → k < d.length → i ≠ k → ∀ q, q ∈ f i → q ∉ f k) ∧ ∀ i, i < d.length → ∀ q, q ∈ f i → v.ownBlock ≠ some q
theorem RowsAp.nil {t : TypeId} {e : Ty} {w : World} {B : Nat} {v : Value} (h : w.ownsRow B t 1 v 0 []) : RowsAp t e w B v [] [] :=
  ⟨h, fun _ => [], fun i x hx => (by cases hx), fun i hi => absurd hi (Nat.not_lt_zero _), fun i _ hi => absurd hi (Nat.not_lt_zero _), fun i hi => absurd hi (Nat.not_lt_zero _)⟩
theorem RowsAp.below {t : TypeId} {e : Ty} {w w' : World} {B : Nat} {v : Value} {d : List e.D} {xs : List Value} (h : RowsAp t e w B v d xs) (hb : Below w.heap.size w w') : RowsAp t e w' B v d xs := by
  obtain ⟨h0, f, h1, h2, h3, h4⟩ := h
  exact ⟨owns_below h0 hb (Nat.le_refl _), f, fun i x hx => e.ow_frame (h1 i x hx) (fun q hq => hb.block q (e.ow_lt (h1 i x hx) q hq).2) hb.size, h2, h3, h4⟩
theorem RowsAp.own {t : TypeId} {e : Ty} {w : World} {B : Nat} {v : Value} {d : List e.D} {xs : List Value} (he : e.n = 1) (h : RowsAp t e w B v d xs) : OwN (tSl t e) w B w.heap.size [v] d := by
  obtain ⟨h0, f, h1, h2, h3, h4⟩ := h
  have hl := h0.1
  rw [Nat.mul_one] at hl
  refine ⟨v.ownBlock.toList ++ (List.range d.length).flatMap f, ⟨v, xs, f, rfl, by rw [he]; exact h0, fun i x hx => ?_, rfl⟩, List.nodup_append.2 ⟨by cases v.ownBlock <;> simp, flat_nodup_of _ h2 h3, fun a ha b hb e => ?_⟩, fun q hq => ?_, Nat.le_refl _⟩
  · have hi := (List.getElem?_eq_some_iff.1 hx).1
    rw [he, Nat.mul_one, List.drop_eq_getElem_cons (by omega : i < xs.length)]
    have h5 := h1 i x hx
    rw [List.getD_eq_getElem?_getD, List.getElem?_eq_getElem (by omega : i < xs.length)] at h5
    exact h5
  · subst e
    obtain ⟨i, hi, hq⟩ := List.mem_flatMap.1 hb
    refine h4 i (List.mem_range.1 hi) a hq ?_
    cases hv : v.ownBlock with
    | none => rw [hv] at ha; cases ha
    | some z => rw [hv] at ha; simp at ha; rw [ha]
  · rcases List.mem_append.1 hq with hq | hq
    · cases hv : v.ownBlock with
      | none => rw [hv] at hq; cases hq
      | some z => rw [hv] at hq; simp at hq; subst hq; exact (h0.lt _ hv).2
    · obtain ⟨i, hi, hq⟩ := List.mem_flatMap.1 hq
      exact (e.ow_lt (h1 i _ (List.getElem?_eq_getElem (List.mem_range.1 hi))) q hq).2
theorem RowsAp.push {t : TypeId} {e : Ty} {w1 w2 w3 : World} {B : Nat} {v vv rv : Value} {d : List e.D} {xs : List Value} {x : e.D} (h : RowsAp t e w1 B v d xs) (hb : Below w1.heap.size w1 w2) (ho : OwN e w2 w1.heap.size w2.heap.size [rv] x) (hB : B ≤ w1.heap.size)
    (hg : w2.grownBy w3 v.ownBlock) (hown : w3.ownsRow B t 1 vv (d.length + 1) (xs ++ [rv])) (hat : ∀ q, vv.ownBlock = some q → v.ownBlock = some q ∨ w2.heap.size ≤ q) : RowsAp t e w3 B vv (d ++ [x]) (xs ++ [rv]) := by
  obtain ⟨h0, f, h1, h2, h3, h4⟩ := h
  obtain ⟨bs, b1, b2, b3, _⟩ := ho
  have b4 := e.ow_lt b1
  have hsz := hb.size
  obtain ⟨_, _, _, hs3, hk⟩ := hg
  have hl := h0.1
  rw [Nat.mul_one] at hl
  have hvlt : ∀ q, v.ownBlock = some q → q < w1.heap.size := fun q hq => (h0.lt q hq).2
  obtain ⟨F, hF1, hF2⟩ : ∃ F : Nat → List Nat, F d.length = bs ∧ ∀ i, i ≠ d.length → F i = f i := ⟨fun i => if i = d.length then bs else f i, if_pos rfl, fun i h => if_neg h⟩
  have hdl : (d ++ [x]).length = d.length + 1 := by simp
  have hlt : ∀ i, i < d.length → ∀ q, q ∈ f i → q < w1.heap.size := fun i hi q hq => (e.ow_lt (h1 i _ (List.getElem?_eq_getElem hi)) q hq).2
  refine ⟨by rw [hdl]; exact hown, F, fun i y hy => ?_, fun i hi => ?_, fun i k hi hkk hik q hq => ?_, fun i hi q hq => ?_⟩
  · by_cases e1 : i = d.length
    · subst e1
      have hyx : y = x := by simpa using hy.symm
      subst hyx
      rw [hF1]
      have e2 : (xs ++ [rv]).getD d.length undef = rv := by rw [← hl]; simp [List.getD_eq_getElem?_getD]
      rw [e2]
      exact e.ow_mono (e.ow_frame b1 (fun q hq => hk q (b4 q hq).2 (fun e => by have h7 := hvlt q e.symm; have := (b4 q hq).1; omega)) hs3) hB
    · have hi : i < d.length := by have := (List.getElem?_eq_some_iff.1 hy).1; omega
      rw [hF2 i e1]
      have e2 : (xs ++ [rv]).getD i undef = xs.getD i undef := by simp [List.getD_eq_getElem?_getD, List.getElem?_append_left (show i < xs.length by omega)]
      rw [e2]
      have hy2 : d[i]? = some y := by rw [List.getElem?_append_left hi] at hy; exact hy
      refine e.ow_frame (h1 i y hy2) (fun q hq => ?_) (Nat.le_trans hsz hs3)
      have h5 := hlt i hi q hq
      exact (hk q (by omega) (fun e => h4 i hi q hq e.symm)).trans (hb.block q h5)
  · by_cases e1 : i = d.length
    · rw [e1, hF1]; exact b2
    · rw [hF2 i e1]; exact h2 i (by omega)
  · by_cases e1 : i = d.length
    · rw [e1, hF1] at hq
      rw [hF2 k (by omega)]
      intro hq2
      have := hlt k (by omega) q hq2
      have := (b4 q hq).1
      omega
    · rw [hF2 i e1] at hq
      have h5 := hlt i (by omega) q hq
      by_cases e2 : k = d.length
      · rw [e2, hF1]; intro hq2; have := (b4 q hq2).1; omega
      · rw [hF2 k e2]; exact h3 i k (by omega) (by omega) hik q hq
  · intro e3
    by_cases e1 : i = d.length
    · rw [e1, hF1] at hq
      have h5 := b4 q hq
      rcases hat q e3 with h6 | h6
      · have := hvlt q h6; omega
      · omega
    · rw [hF2 i e1] at hq
      rcases hat q e3 with h6 | h6
      · exact h4 i (by omega) q hq h6
      · have := hlt i (by omega) q hq; omega
end Go.Proofs.Ytgemdjcadlejfaa
set_option linter.unusedVariables false
namespace Go.Proofs.Ytgemdjcadlejfaa
open Go.RowKit

theorem RowsAp.zero {t : TypeId} {e : Ty} {w : World} {B N : Nat} {v z : Value} {x0 : e.D} (h : w.ownsRow B t 1 v N (List.replicate N z)) (hz : e.Ow w B [z] x0 []) : RowsAp t e w B v (List.replicate N x0) (List.replicate N z) := by
  refine ⟨by rw [List.length_replicate]; exact h, fun _ => [], fun i x hx => ?_, fun i _ => List.nodup_nil, fun i k _ _ _ q hq => (by cases hq), fun i _ q hq => (by cases hq)⟩
  rw [List.getElem?_replicate] at hx
  split at hx
  · rename_i hi
    cases hx
    rw [List.getD_eq_getElem?_getD, List.getElem?_replicate, if_pos hi]
    exact hz
  · cases hx
theorem RowsAp.upd {t : TypeId} {e : Ty} {w w' : World} {B : Nat} {v : Value} {d d' : List e.D} {xs xs' : List Value} (h : RowsAp t e w B v d xs) (hd : d'.length = d.length)
    (hk : ∀ q, q < w.heap.size → v.ownBlock ≠ some q → w'.heap[q]? = w.heap[q]?) (hs : w.heap.size ≤ w'.heap.size) (ho : w'.ownsRow B t 1 v d.length xs')
    (J : Nat → Option (List Nat)) (h0 : ∀ i, J i = none → xs'.getD i undef = xs.getD i undef ∧ d'[i]? = d[i]?)
    (h1 : ∀ i bs, J i = some bs → bs.Nodup ∧ (∀ q ∈ bs, w.heap.size ≤ q) ∧ ∀ x, d'[i]? = some x → e.Ow w' B [xs'.getD i undef] x bs)
    (h2 : ∀ i k bs cs, J i = some bs → J k = some cs → i ≠ k → ∀ q ∈ bs, q ∉ cs) : RowsAp t e w' B v d' xs' := by
  obtain ⟨o0, f, f1, f2, f3, f4⟩ := h
  have hlt : ∀ i, i < d.length → ∀ q, q ∈ f i → q < w.heap.size := fun i hi q hq => (e.ow_lt (f1 i _ (List.getElem?_eq_getElem hi)) q hq).2
  have hv : ∀ q, v.ownBlock = some q → q < w.heap.size := fun q hq => (o0.lt q hq).2
  obtain ⟨F, hF⟩ : ∃ F : Nat → List Nat, ∀ i, F i = (J i).getD (f i) := ⟨_, fun _ => rfl⟩
  have hN : ∀ i, J i = none → F i = f i := fun i hi => by rw [hF, hi]; rfl
  have hS : ∀ i bs, J i = some bs → F i = bs := fun i bs hi => by rw [hF, hi]; rfl
  clear hF
  refine ⟨by rw [hd]; exact ho, F, fun i x hx => ?_, fun i hi => ?_, fun i k hi hkk hik q hq => ?_, fun i hi q hq => ?_⟩
  · cases hj : J i with
    | none =>
      obtain ⟨e1, e2⟩ := h0 i hj
      rw [e1, hN i hj]
      rw [e2] at hx
      exact e.ow_frame (f1 i x hx) (fun q hq => hk q (hlt i (List.getElem?_eq_some_iff.1 hx).1 q hq) fun e3 => f4 i (List.getElem?_eq_some_iff.1 hx).1 q hq e3) hs
    | some bs => rw [hS i bs hj]; exact (h1 i bs hj).2.2 x hx
  · cases hj : J i with
    | none => rw [hN i hj]; exact f2 i (by omega)
    | some bs => rw [hS i bs hj]; exact (h1 i bs hj).1
  · rw [hd] at hi hkk
    cases hj : J i with
    | none =>
      rw [hN i hj] at hq
      cases hl : J k with
      | none => rw [hN k hl]; exact f3 i k hi hkk hik q hq
      | some cs =>
        rw [hS k cs hl]
        intro hq2
        have := (h1 k cs hl).2.1 q hq2
        have := hlt i hi q hq
        omega
    | some bs =>
      rw [hS i bs hj] at hq
      cases hl : J k with
      | none =>
        rw [hN k hl]
        intro hq2
        have := (h1 i bs hj).2.1 q hq
        have := hlt k hkk q hq2
        omega
      | some cs => rw [hS k cs hl]; exact h2 i k bs cs hj hl hik q hq
  · rw [hd] at hi
    intro e3
    cases hj : J i with
    | none => rw [hN i hj] at hq; exact f4 i hi q hq e3
    | some bs =>
      rw [hS i bs hj] at hq
      have := (h1 i bs hj).2.1 q hq
      have := hv q e3
      omega
end Go.Proofs.Ytgemdjcadlejfaa
set_option linter.unusedVariables false
namespace Go.Proofs.Ytgemdjcadlejfaa
open Go.RowKit

set_option maxRecDepth 100000 in
set_option maxHeartbeats 2000000 in
theorem y_sz_PairSS (v : Value) (d : List tPairS.D) (left : Int) (w : World) (hl0 : 0 ≤ left) (hl : left ≤ 1048576) (h : RdA tPairSS w [v] d) : Calls Try.prog 27 #[v, .int .i64 left] w (SzT tPairSS d left w) := by
  obtain ⟨a, cap, rfl, hn⟩ := rd_row_form h
  have HV := Lib.hid h
  clear h
  obtain ⟨n, hd⟩ : ∃ n, d.length = n := ⟨_, rfl⟩
  have HD := Lib.hid hd
  have HW : Hid ((tPairSS.wt d : Int) = n + ((d.map tPairS.wt).sum : Nat)) := by show _ = _; rw [← hd]; show ((d.length + (d.map tPairS.wt).sum : Nat) : Int) = _; omega
  rw [hd] at hn ⊢
  clear hd
  have s0 : IntKind.i64.wrap (left - (n : Int)) = left - n := IntWalk.i64_in _ (by omega)
  by_cases hb : left - (n : Int) < 0
  · have g0 : decide (left - (n : Int) < 0) = true := decide_eq_true hb
    go_enter Try.func27, Try.ntmps27
    go_wp2
    go_ret
    exact ⟨⟨-1, rfl, .inl (by omega)⟩, Below.refl _ _⟩
  have g0 : decide (left - (n : Int) < 0) = false := decide_eq_false hb
  go_enter Try.func27, Try.ntmps27
  go_wp2
  go_loopw [1, 5] (fun lv iv wr => ∃ (j : Nat) (l : Int), j ≤ n ∧ iv = .int .i64 j ∧ lv = .int .i64 l ∧ (0 ≤ l ∧ l ≤ 1048576) ∧ Hid ((n : Int) + (((d.take j).map tPairS.wt).sum : Nat) + l = left) ∧ Hid (Below w.heap.size w wr)) (fun _ iv _ => n - (RowKit.intOf iv).toNat)
  case atStart => exact ⟨0, left - n, Nat.zero_le _, rfl, rfl, ⟨by omega, by omega⟩, (by show _ = _; simp; omega), Below.refl _ _⟩
  case round =>
    obtain ⟨j, l, hj, rfl, rfl, hl2, HS, HB⟩ := hrel
    by_cases hlt : j < n
    · obtain ⟨y, hy⟩ : ∃ y, d[j]? = some y := ⟨_, List.getElem?_eq_getElem (by have := HD.out; omega)⟩
      obtain ⟨b, off, k, u, hv, hcap, hc, hu⟩ := rd_cell rfl (RdA.below HV.out HB.out) hy
      simp only [Value.slice.injEq] at hv
      obtain ⟨rfl, hv2, rfl⟩ := hv
      clear hv2
      rw [HD.out] at hcap
      have hj1 : (j : Int) < (n : Int) := by omega
      have c0 : wr.cell? ⟨b, off + j, none⟩ = some u := hc.2 0 _ rfl
      have HU := Lib.hid hu
      have hts := take_sum (f := tPairS.wt) hy
      have HTS := Lib.hid hts
      clear hc hu hts hy
      go_wp2_with fail
      refine (y_sz_PairS u y l _ hl2.1 hl2.2 HU.out).mono ?_
      rintro e w2 ⟨⟨r, rfl, hr⟩, b2⟩
      have HB2 := Lib.hid (HB.out.trans (b2.mono HB.out.size))
      have HSS : Hid (r < 0 ∨ (0 ≤ r ∧ r ≤ l ∧ (n : Int) + (((d.take (j + 1)).map tPairS.wt).sum : Nat) + r = left)) := by
        rcases hr with hr | ⟨h1, h2⟩
        · exact .inl hr
        · exact .inr ⟨h1, by omega, by have h3 := HS.out; rw [HTS.out]; omega⟩
      clear b2 hr HB HS HTS HU
      by_cases hr0 : r < 0
      · have g1 : decide (r < 0) = true := decide_eq_true hr0
        go_wp2
        go_ret
        exact ⟨⟨-1, rfl, .inl (by omega)⟩, HB2.out⟩
      have g1 : decide (r < 0) = false := decide_eq_false hr0
      have HS3 := HSS.out.resolve_left hr0
      have HS4 : Hid ((n : Int) + (((d.take (j + 1)).map tPairS.wt).sum : Nat) + r = left) := HS3.2.2
      have hr1 : 0 ≤ r ∧ r ≤ 1048576 := ⟨HS3.1, by have := HS3.2.1; omega⟩
      clear HSS HS3
      go_wp2
      go_roundw
      case rel => exact ⟨j + 1, r, by omega, by go_num, rfl, hr1, HS4, HB2⟩
      case measure => simp [RowKit.intOf]; omega
    · obtain rfl : j = n := by omega
      have HE : Hid ((tPairSS.wt d : Int) + l = left) := by
        show _ = _
        have h1 := HS.out
        rw [List.take_of_length_le (by have := HD.out; omega)] at h1
        rw [HW.out]; exact h1
      go_wp2
      go_ret
      exact ⟨⟨l, rfl, .inr ⟨hl2.1, HE.out⟩⟩, HB.out⟩
theorem y_form_PairS {w : World} {lo hi : Nat} {v : Value} {d : tPairS.D} (h : OwN tPairS w lo hi [v] d) : ∃ a c, v = .slice a (List.length d) c := by
  have h1 : RdA tPairS w [v] d := Ty.rd_mono _ (OwN.rd h) fun q hq => Nat.lt_of_lt_of_le hq.2 (OwN.hi_le h)
  obtain ⟨a, c, e, _⟩ := rd_row_form h1
  exact ⟨a, c, e⟩
theorem Try.infoPairSS : (Try.prog.info? 30).map (fun i => (i.zero, i.size, i.bytes)) = some (some (.slice none 0 0), 1, 24) := by kernel_rfl
set_option maxRecDepth 100000 in
set_option maxHeartbeats 2000000 in
theorem y_to_PairSS (v : Value) (d : List tPairS.D) (w : World) (h : RdA tPairSS w [v] d) (hw : tPairSS.wt d ≤ 1048576) : Calls Try.prog 29 #[v] w (MadeT tPairSS d w) := by
  obtain ⟨i0, hi, hz0, hz1, hz2⟩ := info_parts Try.infoPairSS
  obtain ⟨a, cap, rfl, hn⟩ := rd_row_form h
  have HV := Lib.hid h
  clear h
  obtain ⟨n, hd⟩ : ∃ n, d.length = n := ⟨_, rfl⟩
  have HD := Lib.hid hd
  have hwe : tPairSS.wt d = d.length + (d.map tPairS.wt).sum := rfl
  have hn6 : n ≤ 1048576 := by omega
  have HE : Hid (∀ j y, d[j]? = some y → tPairS.wt y ≤ 1048576) := fun j y hy => by
    have h1 := take_sum (f := tPairS.wt) hy
    have h2 := take_sum_le (f := tPairS.wt) (L := d) (j + 1)
    omega
  rw [hd] at hn ⊢
  clear hd hwe hw
  go_enter Try.func29, Try.ntmps29
  go_wp2_with (at_make; refine wpList_make_full _ rfl _ _ 24 rfl w.heap.size 30 i0 (.slice none 0 0) 1 Try.underlying24 hi hz0 hz1 .i64 .i64 n n n rfl rfl rfl rfl (by rw [hz2]; omega) (by unfold maxLen; omega) (Nat.le_refl _) ?_; intro w1 hown hg1)
  have hb1 : Below w.heap.size w w1 := (Below.refl _ _).grown hg1 (Nat.le_refl _) (fun k hk => by cases hk)
  have hlt1 : w.heap.size < w1.heap.size := (hown.lt w.heap.size rfl).2
  have HB1 := Lib.hid hb1
  have HO1 := Lib.hid hown
  clear hg1 hb1 hown
  go_loopw [4] (fun iv wr => ∃ (j : Nat) (ys : List Value), j ≤ n ∧ iv = .int .i64 j ∧ w.heap.size < wr.heap.size ∧ Hid (wr.ownsRow w.heap.size 30 1 (.slice (some ⟨w.heap.size, 0, none⟩) n n) n ys) ∧ Hid (RowsMk tPairS wr w.heap.size d j ys) ∧ Hid (Below w.heap.size w wr)) (fun iv _ => n - (RowKit.intOf iv).toNat)
  case atStart => exact ⟨0, _, Nat.zero_le _, rfl, hlt1, HO1, RowsMk.nil, HB1⟩
  case round =>
    clear HO1 HB1 hlt1
    obtain ⟨j, ys, hj, rfl, hO, HO, HR, HB⟩ := hrel
    by_cases hlt : j < n
    · obtain ⟨y, hy⟩ : ∃ y, d[j]? = some y := ⟨_, List.getElem?_eq_getElem (by have := HD.out; omega)⟩
      obtain ⟨b, off, k, u, hv, hcap, hc, hu⟩ := rd_cell rfl (RdA.below HV.out HB.out) hy
      simp only [Value.slice.injEq] at hv
      obtain ⟨rfl, hv2, rfl⟩ := hv
      clear hv2
      rw [HD.out] at hcap
      have hj1 : (j : Int) < (n : Int) := by omega
      have c0 : wr.cell? ⟨b, off + j, none⟩ = some u := hc.2 0 _ rfl
      have HU := Lib.hid hu
      have HY := Lib.hid hy
      have HYW := Lib.hid (HE.out j y hy)
      have HYL : Hid (j < ys.length) := by have := HO.out.1; show _ < _; omega
      clear hc hu hy
      go_wp2_with (go_at_call 61; refine (y_to_PairS u y _ HU.out HYW.out).mono ?_; rintro e w2 ⟨v2, rfl, ho2, b2⟩; obtain ⟨xa, xc, hvf⟩ := y_form_PairS ho2; subst hvf; have hown2 := owns_below HO.out b2 (Nat.le_refl _); obtain ⟨u0, e0⟩ := owns_cellR hown2 j (by omega); have f0 := hown2.frozenAt j)
      go_roundw
      case rel =>
        have hs2 := b2.size
        refine ⟨j + 1, _, by omega, by go_num, (by have h9 : w2.heap.size ≤ (w2.setCell ⟨w.heap.size, j, none⟩ (.slice xa (List.length y) xc)).heap.size := by simp [World.setCell]
                                                   omega), (hown2.stored j _).1, ?_, (HB.out.trans (b2.mono HB.out.size)).setCell (Nat.le_refl _) _⟩
        exact HR.out.next hO b2 ho2 HY.out HYL.out (Nat.le_of_eq (by simp [World.setCell])) fun q hq _ => Below.heap_setCell _ _ _ _ hq
      case measure => simp [RowKit.intOf]; omega
    · obtain rfl : j = n := by omega
      go_wp2
      go_ret
      exact ⟨_, rfl, RowsMk.own rfl HD.out HR.out HO.out hO, HB.out⟩
end Go.Proofs.Ytgemdjcadlejfaa
