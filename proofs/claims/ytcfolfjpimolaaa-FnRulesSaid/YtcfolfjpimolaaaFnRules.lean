/-
  The law FnRules holds for every argument: drawn rules pass the checker, and their variants have the faults that it names.
-/
import Derived.Test.YtcfolfjpimolaaaRows
import Derived.WalkKit
import Derived.ProofKit
import Derived.OpenShut
import Derived.ShutString
import Derived.ChangeOld
import Derived.Below
import Derived.Lib.Hide
import Derived.Test.YtcfolfjpimolaaaRulesFacts
import Derived.Deep.RegionHeld3
import Derived.Deep.DeepCutAuto
namespace Go.Proofs.Ytcfolfjpimolaaa.fnRules
open Go.ChangeShapes Go.WideShapes Go.ChangeAt Go.RowKit
open Go.ChangeMaps (open_string shut_string)
set_option linter.unusedVariables false

theorem own : ownKnob Try.prog.godebug = none := by kernel_rfl
theorem laidOut : laidOutB Try.prog = true := by kernel_rfl
def CutR (w : World) (B1 Bw gu gv cu cv : Nat) (win : Int) (ag : Bool) (K : List Int) (wx : World) : Prop :=
  ∃ gw cw, BoxN wx B1 [.int .i64 win, .int .i64 1, .int .i64 0, .slice (some ⟨gu, 0, none⟩) (K.length + 1) cu, .bool ag] ∧ BoxN wx (B1 + 1) [.int .i64 win, .int .i64 1, .int .i64 0, .slice (some ⟨gv, 0, none⟩) K.length cv, .bool ag] ∧ BoxN wx Bw [.int .i64 win, .int .i64 1, .int .i64 0, .slice (some ⟨gw, 0, none⟩) (K.length + 1 + 1) cw, .bool ag] ∧
    IntRow wx (.slice (some ⟨gu, 0, none⟩) (K.length + 1) cu) (K.length + 1) (getI (K ++ [8])) ∧ IntRow wx (.slice (some ⟨gv, 0, none⟩) K.length cv) K.length (getI K) ∧ IntRow wx (.slice (some ⟨gw, 0, none⟩) (K.length + 1 + 1) cw) (K.length + 1 + 1) (getI (K ++ [8] ++ [1])) ∧ Below w.heap.size w wx
set_option maxRecDepth 100000 in
set_option maxHeartbeats 4000000 in
theorem walk (a : Option Addr) (len cap : Nat) (zs : List Int) (w : World) (hr : IsRow .u8 w a len cap zs) :
    Calls Try.prog 3 #[.slice a len cap] w fun e w' => e = .returned (.bool true) ∧ Below w.heap.size w w' := by
  obtain ⟨hrow, hsm, hfit⟩ := hr.bytes
  clear hr
  generalize getN zs = g at *
  by_cases hl : 1048576 < len
  · have g0 : decide ((1048576 : Int) < (len : Int)) = true := decide_eq_true (by omega)
    clear hrow hsm
    go_enter Try.func3, Try.ntmps3
    go_wp2
    go_ret
    exact ⟨rfl, Below.refl _ _⟩
  have g0 : decide ((1048576 : Int) < (len : Int)) = false := decide_eq_false (by omega)
  have hle : len ≤ 1048576 := by omega
  have CM := Lib.hid (makeRules_any a len cap g w hrow hsm hle)
  obtain ⟨i0, hi, hz0, hz1, hz2⟩ := info_parts Try.infoI
  clear hrow hsm
  go_enter Try.func3, Try.ntmps3
  go_wp2_with fail
  refine CM.out.mono ?_
  rintro e w1 ⟨vu, win, ag, L, rfl, ⟨hwin, K, hLK, hK, hK4⟩, ou, b1⟩
  subst hLK
  have hK1 := drawn_pos hK
  have hlen : (K ++ [8]).length = K.length + 1 := by simp
  rw [hlen] at ou
  have ru : IntRow w1 vu (K.length + 1) (getI (K ++ [8])) := by have := IntRow.of_list (L := K ++ [8]) (by rw [hlen]; exact ou) (by simp; omega); rw [hlen] at this; exact this
  have iu : InW w.heap.size w1.heap.size vu := InW.of_owns ou
  obtain ⟨gu, cu, rfl, hcu⟩ : ∃ gu cu, vu = .slice (some ⟨gu, 0, none⟩) (K.length + 1) cu ∧ K.length + 1 ≤ cu := by
    rcases ou.2 with ⟨_, h0⟩ | ⟨g, cap, cur, rfl, _, _, hcap, _⟩
    · omega
    · exact ⟨g, cap, rfl, hcap⟩
  have hgu := iu gu rfl
  have cells : Hid (∀ j, j < K.length + 1 → w1.cell? ⟨gu, j, none⟩ = some (.int .i64 (getI (K ++ [8]) j))) := fun j hj => by
    rcases ru with ⟨_, _, _, h0⟩ | ⟨b, off, cap, he, _, _, hc, _⟩
    · omega
    · simp only [Value.slice.injEq, Option.some.injEq, Addr.mk.injEq, and_true] at he
      obtain ⟨⟨rfl, rfl⟩, _⟩ := he
      simpa using hc j hj
  have RU := Lib.hid ru
  have IU := Lib.hid iu
  have B1 := Lib.hid b1
  have HK := Lib.hid hK
  have HW := Lib.hid hwin
  have z1 := b1.size
  clear ru iu ou b1 hK hwin hlen CM
  have hcuI : (K.length : Int) + 1 ≤ cu := by omega
  have hcuJ : (K.length : Int) ≤ cu := by omega
  have o0 := fun (wa : World) => World.ownsRow_lit (e := 3) (size := 1) wa #[] 0 (Nat.le_refl wa.heap.size) (by decide) rfl
  have RK : Hid (∀ wa, Below w1.heap.size w1 wa → IntRow wa (.slice (some ⟨gu, 0, none⟩) K.length cu) K.length (getI K)) := fun wa hb =>
    (IntRow.take (off := 0) (cap := cu) K.length (Nat.le_refl _) (by omega) (by omega) (fun i hi => by
      rw [Nat.zero_add, hb.cell (p := ⟨gu, i, none⟩) hgu.2, cells.out i (by omega), getI_left _ _ _ hi]))
  go_wp2_with (at_builtin; refine wpList_cloneI rfl (.tmp 13) (.tmp 20) 23 rfl 3 Try.underlying23 hi hz0 hz1 hz2 (by simp [go_sem]) rfl (RK.out _ (((Below.refl _ w1).alloc (Nat.le_refl _) _).alloc (by simp) _)) hK1 (by omega) ?_; intro gv cv w5 o5 r5 b5 hgv hgv5; have bv := BoxN.made b5 (B := w1.heap.size + 1) (by simp); have fv := BoxN.free b5 (B := w1.heap.size + 1) (by simp) 3; have b5' := below_prev b5; have bu := BoxN.made b5' (B := w1.heap.size) rfl; have b5'' := below_prev b5'; have c0 := bu.2 0 _ rfl; have c1 := bu.2 1 _ rfl; have c2 := bu.2 2 _ rfl; have c3 := bu.2 3 _ rfl; have c4 := bu.2 4 _ rfl; have d3 := bv.2 3 _ rfl; have z5 := bv.1; have z5' := bu.1)
  clear c0 c1 c2 c3 c4 d3
  have hgv2 : w1.heap.size + 2 ≤ gv := by simpa using hgv
  have ru6 : Hid (IntRow (w5.setCell ⟨w1.heap.size + 1, 3, none⟩ (.slice (some ⟨gv, 0, none⟩) K.length cv)) (.slice (some ⟨gu, 0, none⟩) (K.length + 1) cu) (K.length + 1) (getI (K ++ [8]))) :=
    (RU.out.below b5'' (Nat.le_refl _)).setOther 3 _ (by simp [Value.ownBlock]; omega)
  have rv6 : Hid (IntRow (w5.setCell ⟨w1.heap.size + 1, 3, none⟩ (.slice (some ⟨gv, 0, none⟩) K.length cv)) (.slice (some ⟨gv, 0, none⟩) K.length cv) K.length (getI K)) :=
    r5.setOther 3 _ (by simp [Value.ownBlock]; omega)
  have bu6 : Hid (BoxN (w5.setCell ⟨w1.heap.size + 1, 3, none⟩ (.slice (some ⟨gv, 0, none⟩) K.length cv)) w1.heap.size [.int .i64 win, .int .i64 1, .int .i64 0, .slice (some ⟨gu, 0, none⟩) (K.length + 1) cu, .bool ag]) := bu.other 3 _ (by omega)
  have bv6 : Hid (BoxN (w5.setCell ⟨w1.heap.size + 1, 3, none⟩ (.slice (some ⟨gv, 0, none⟩) K.length cv)) (w1.heap.size + 1) [.int .i64 win, .int .i64 1, .int .i64 0, .slice (some ⟨gv, 0, none⟩) K.length cv, .bool ag]) := bv.set 3 _
  have hb6 : Hid (Below w.heap.size w (w5.setCell ⟨w1.heap.size + 1, 3, none⟩ (.slice (some ⟨gv, 0, none⟩) K.length cv))) := (B1.out.trans (b5''.mono z1)).setCell (by show w.heap.size ≤ w1.heap.size + 1; omega) _
  have hz6 : (w5.setCell ⟨w1.heap.size + 1, 3, none⟩ (.slice (some ⟨gv, 0, none⟩) K.length cv)).heap.size = w5.heap.size := by simp [World.setCell]
  have HZ := Lib.hid hz6
  clear hz6 o5 r5 b5 b5' b5'' bv bu fv RK
  generalize w5.setCell ⟨w1.heap.size + 1, 3, none⟩ (.slice (some ⟨gv, 0, none⟩) K.length cv) = w6 at *
  have ru7 : Hid (∀ wa, Below w6.heap.size w6 wa → IntRow wa (.slice (some ⟨gu, 0, none⟩) (K.length + 1) cu) (K.length + 1) (getI (K ++ [8]))) := fun wa hb => ru6.out.below hb (Nat.le_refl _)
  have hz7 : w5.heap.size = w6.heap.size := HZ.out.symm
  rw [hz7]
  have hgu6 : gu < w6.heap.size := by omega
  have hgv6 : gv < w6.heap.size := by omega
  have hW6 : w1.heap.size + 1 < w6.heap.size := by omega
  clear hz7 HZ z5 z5'
  generalize hBw : w6.heap.size = Bw at *
  have HBw := Lib.hid hBw
  clear hBw
  have gI0 : getI (K ++ [8]) 0 = 1 := by rw [getI_left _ _ _ hK1]; exact getI_zero HK.out
  have GI0 := Lib.hid gI0
  clear gI0
  go_cut [] (fun wx => CutR w w1.heap.size Bw gu gv cu cv win ag K wx)
  case first =>
    obtain ⟨S, HSd⟩ : ∃ S : World → Prop, S = fun w' => w'.cell? ⟨w1.heap.size, 3, none⟩ = some (.slice (some ⟨gu, 0, none⟩) (K.length + 1) cu) ∧ w'.cell? ⟨gu, 0, none⟩ = some (.int .i64 1) ∧ (∃ x, w'.heap[Bw]? = some (.cells #[.int .i64 win, .int .i64 1, .int .i64 0, x, .bool ag] 25 (0, 0))) ∧ Bw + 1 ≤ w'.heap.size ∧ Below Bw w6 w' := ⟨_, rfl⟩
    have KS : Hid (∀ wa wb, S wa → Below (Bw + 1) wa wb → S wb) := by subst HSd; exact fun wa wb ⟨s0, s1, s2, s3, s4⟩ b => ⟨(b.cell (p := ⟨w1.heap.size, 3, none⟩) (by show w1.heap.size < _; omega)).trans s0, (b.cell (p := ⟨gu, 0, none⟩) (by show gu < _; omega)).trans s1, s2.imp fun _ h => (b.block Bw (by omega)).trans h, Nat.le_trans s3 b.size, s4.trans (b.mono (by omega))⟩
    have OS : Hid (∀ wa, S wa → wa.cell? ⟨w1.heap.size, 3, none⟩ = some (.slice (some ⟨gu, 0, none⟩) (K.length + 1) cu) ∧ wa.cell? ⟨gu, 0, none⟩ = some (.int .i64 1) ∧ (∃ x, wa.heap[Bw]? = some (.cells #[.int .i64 win, .int .i64 1, .int .i64 0, x, .bool ag] 25 (0, 0))) ∧ Bw + 1 ≤ wa.heap.size ∧ Below Bw w6 wa) := by subst HSd; exact fun wa h => h
    have b6 : Below Bw w6 (w6.alloc (.cells #[.int .i64 win, .int .i64 1, .int .i64 0, .slice (some ⟨gu, 0, none⟩) (K.length + 1) cu, .bool ag] 25)) := by have := (Below.refl w6.heap.size w6).alloc (Nat.le_refl _) (.cells #[.int .i64 win, .int .i64 1, .int .i64 0, .slice (some ⟨gu, 0, none⟩) (K.length + 1) cu, .bool ag] 25); rw [HBw.out] at this; exact this
    have KS0 : Hid (S (w6.alloc (.cells #[.int .i64 win, .int .i64 1, .int .i64 0, .slice (some ⟨gu, 0, none⟩) (K.length + 1) cu, .bool ag] 25)).drew) := by subst HSd; exact ⟨(b6.drew.cell (p := ⟨w1.heap.size, 3, none⟩) (by show w1.heap.size < _; omega)).trans (bu6.out.2 3 _ rfl), (b6.drew.cell (p := ⟨gu, 0, none⟩) (by show gu < _; omega)).trans (by have hc := news_of_row ru6.out 0 (.int .i64 1) (by simp [GI0.out]); simpa [Addr.add] using hc), ⟨_, by have := heap_alloc_new w6 (.cells #[.int .i64 win, .int .i64 1, .int .i64 0, .slice (some ⟨gu, 0, none⟩) (K.length + 1) cu, .bool ag] 25); rw [HBw.out] at this; exact this⟩, by have := HBw.out; show Bw + 1 ≤ (w6.alloc (.cells #[.int .i64 win, .int .i64 1, .int .i64 0, .slice (some ⟨gu, 0, none⟩) (K.length + 1) cu, .bool ag] 25)).heap.size; simp; omega, b6.drew⟩
    have SET : Hid (∀ wa x, S wa → S (wa.setCell ⟨Bw, 3, none⟩ x)) := by subst HSd; exact fun wa x ⟨s0, s1, ⟨y, s2⟩, s3, s4⟩ => ⟨(World.cell?_setCell_other _ _ _ _ (by intro e2; simp only [Addr.mk.injEq] at e2; omega)).trans s0, (World.cell?_setCell_other _ _ _ _ (by intro e2; simp only [Addr.mk.injEq] at e2; omega)).trans s1, ⟨x, by rw [heap_setCell_same wa Bw 3 _ _ _ s2]; rfl⟩, by simpa [World.setCell] using s3, s4.setCell (Nat.le_refl _) _⟩
    clear HSd
    go_wp2_with fail
    refine wp_region_held_drew (S := S) (by kernel_rfl) ?_ (fun hHeld => ?_)
    · exact KS0.out
    clear KS0
    generalize (w6.alloc (.cells #[.int .i64 win, .int .i64 1, .int .i64 0, .slice (some ⟨gu, 0, none⟩) (K.length + 1) cu, .bool ag] 25)).drew = wz at *
    have GG : Hid (∀ wa, S wa → IntRow wa (.slice (some ⟨gu, 0, none⟩) (K.length + 1) cu) (K.length + 1) (getI (K ++ [8]))) := fun wa h => ru7.out wa (OS.out wa h).2.2.2.2
    refine wpAnyH_take (i := 1) (v := ?_) rfl (by kernel_rfl) (by kernel_rfl) (by kernel_rfl) (fun _ _ _ h => h) (Or.inl ⟨by rfl, ?_⟩) (by assumption) ?_
    rotate_left
    · (intro wa hSw; obtain ⟨s0, s1, _, _, _⟩ := OS.out _ hSw; go_simp; try with_reducible rfl)
    simp only [Act.put, List.getElem_toArray, List.getElem_cons_zero, List.getElem_cons_succ, List.setIfInBounds_toArray, List.set_cons_zero, List.set_cons_succ]
    refine wpAnyH_take (i := 2) (v := ?_) rfl (by kernel_rfl) (by kernel_rfl) (by kernel_rfl) (fun _ _ _ h => h) (Or.inl ⟨by rfl, ?_⟩) (by assumption) ?_
    rotate_left
    · (intro wa hSw; obtain ⟨s0, s1, _, _, _⟩ := OS.out _ hSw; go_simp; try with_reducible rfl)
    simp only [Act.put, List.getElem_toArray, List.getElem_cons_zero, List.getElem_cons_succ, List.setIfInBounds_toArray, List.set_cons_zero, List.set_cons_succ]
    refine wpAnyH_take (i := 4) (v := ?_) rfl (by kernel_rfl) (by kernel_rfl) (by kernel_rfl) (fun _ _ _ h => h) (Or.inl ⟨by rfl, ?_⟩) (by assumption) ?_
    rotate_left
    · (intro wa hSw; obtain ⟨s0, s1, _, _, _⟩ := OS.out _ hSw; go_simp; try with_reducible rfl)
    simp only [Act.put, List.getElem_toArray, List.getElem_cons_zero, List.getElem_cons_succ, List.setIfInBounds_toArray, List.set_cons_zero, List.set_cons_succ]
    refine wpAnyH_take (i := 5) (v := ?_) rfl (by kernel_rfl) (by kernel_rfl) (by kernel_rfl) (fun _ _ _ h => h) (Or.inl ⟨by rfl, ?_⟩) (by assumption) ?_
    rotate_left
    · (intro wa hSw; obtain ⟨s0, s1, _, _, _⟩ := OS.out _ hSw; go_simp; try with_reducible rfl)
    simp only [Act.put, List.getElem_toArray, List.getElem_cons_zero, List.getElem_cons_succ, List.setIfInBounds_toArray, List.set_cons_zero, List.set_cons_succ]
    refine wpAnyH_take (i := 6) (v := ?_) rfl (by kernel_rfl) (by kernel_rfl) (by kernel_rfl) (fun _ _ _ h => h) (Or.inl ⟨by rfl, ?_⟩) (by assumption) ?_
    rotate_left
    · (intro wa hSw; obtain ⟨s0, s1, _, _, _⟩ := OS.out _ hSw; go_simp; try with_reducible rfl)
    simp only [Act.put, List.getElem_toArray, List.getElem_cons_zero, List.getElem_cons_succ, List.setIfInBounds_toArray, List.set_cons_zero, List.set_cons_succ]
    refine wpAnyH_take (i := 7) (v := ?_) rfl (by kernel_rfl) (by kernel_rfl) (by kernel_rfl) (fun _ _ _ h => h) (Or.inl ⟨by rfl, ?_⟩) (by assumption) ?_
    rotate_left
    · (intro wa hSw; obtain ⟨s0, s1, _, _, _⟩ := OS.out _ hSw; go_simp; try with_reducible rfl)
    simp only [Act.put, List.getElem_toArray, List.getElem_cons_zero, List.getElem_cons_succ, List.setIfInBounds_toArray, List.set_cons_zero, List.set_cons_succ]
    refine wpAnyH_ready (rs := [0, 8]) (by kernel_rfl) (by simp) ?_
    refine AllReadyH.cons (o := _) rfl (fun K0 hK0 => ?_) (AllReadyH.cons (o := _) rfl (fun K8 hK8 => ?_) AllReadyH.nil)
    · have hb : Below (Bw + 1) wz (wz.alloc (.cells #[] 3)) := (Below.refl _ _).alloc (OS.out _ hHeld).2.2.2.1 _
      have hS0 := KS.out _ _ hHeld hb
      have own0 : (wz.alloc (.cells #[] 3)).ownsRow (Bw + 1) 3 1 (.slice (some ⟨wz.heap.size, 0, none⟩) 0 0) 0 [] := owns_mono (World.ownsRow_lit wz #[] 0 (Nat.le_refl _) (by decide) rfl) (OS.out _ hHeld).2.2.2.1
      go_simp
      refine hK0.out _ _ ?_ (fun _ => ?_)
      · exact hS0
      have l0 : wz.heap.size < (wz.alloc (.cells #[] 3)).heap.size := by simp
      generalize wz.alloc (.cells #[] 3) = wq0 at *
      generalize hX0 : wz.heap.size = X0 at *
      clear hb
      clear hK0 K0
      refine wpAnyH_ready (rs := [3, 8]) (by kernel_rfl) (by simp) ?_
      refine AllReadyH.cons (o := _) rfl (fun K3 hK3 => ?_) (AllReadyH.cons (o := _) rfl (fun K8 hK8 => ?_) AllReadyH.nil)
      · have RR := GG.out _ hS0
        refine step_append_lies _ (by rfl) (.tmp 24) (.tmp 26) 23 (by rfl) (Bw + 1) 3 i0 (.int .i64 0) 1 8 Try.underlying23 hi hz0 hz1 hz2 rfl (by decide) (.slice (some ⟨X0, 0, none⟩) 0 0) 0 [] (by rfl) own0 ⟨gu, 0, none⟩ (K.length + 1) cu ((List.range (K.length + 1)).map fun j => Value.int .i64 (getI (K ++ [8]) j)) (by rfl) (by simp) (news_of_row RR) ones_row (by omega) (by unfold maxLen; omega) (by omega) (OS.out _ hS0).2.2.2.1 _ rfl ?_
        intro gg1 cc1 wq1 own1 g1 at1 lt1
        simp only [Nat.zero_add, List.nil_append] at own1 ⊢
        have hb : Below (Bw + 1) wq0 wq1 := (Below.refl _ _).grown g1 (OS.out _ hS0).2.2.2.1 (fun k hk => (own0.lt k hk).1)
        have hS1 := KS.out _ _ hS0 hb
        refine hK3.out _ _ ?_ (fun _ => ?_)
        · exact hS1
        clear own0 g1 at1 RR hb
        clear hK3 K3
        refine wpAnyH_ready (rs := [8]) (by kernel_rfl) (by simp) ?_
        refine AllReadyH.cons (o := _) rfl (fun K8 hK8 => ?_) AllReadyH.nil
        have hb : Below (Bw + 1) wq1 (wq1.alloc (.cells #[.int .i64 1] 3)) := (Below.refl _ _).alloc (OS.out _ hS1).2.2.2.1 _
        have hS2 := KS.out _ _ hS1 hb
        have h8 := heap_alloc_new wq1 (.cells #[.int .i64 1] 3)
        replace own1 := own1.alloc (.cells #[.int .i64 1] 3)
        go_simp
        refine hK8.out _ _ ?_ (fun _ => ?_)
        · exact hS2
        have l8 : wq1.heap.size < (wq1.alloc (.cells #[.int .i64 1] 3)).heap.size := by simp
        generalize wq1.alloc (.cells #[.int .i64 1] 3) = wq2 at *
        generalize hX8 : wq1.heap.size = X8 at *
        clear hb
        clear hK8 K8
        refine wpAnyH_ready (rs := [9]) (by kernel_rfl) (by simp) ?_
        refine AllReadyH.cons (o := _) rfl (fun K9 hK9 => ?_) AllReadyH.nil
        refine step_append_lies _ (by rfl) (.tmp 27) (.tmp 32) 23 (by rfl) (Bw + 1) 3 i0 (.int .i64 0) 1 8 Try.underlying23 hi hz0 hz1 hz2 rfl (by decide) (.slice (some ⟨gg1, 0, none⟩) (K.length + 1) cc1) (K.length + 1) ((List.range (K.length + 1)).map fun j => Value.int .i64 (getI (K ++ [8]) j)) (by rfl) own1 ⟨X8, 0, none⟩ 1 1 [.int .i64 1] (by rfl) (by simp) (by simpa using World.news_of_block h8) (by intro u hu; simp at hu; subst hu; rfl) (by omega) (by unfold maxLen; omega) (by omega) (OS.out _ hS2).2.2.2.1 _ rfl ?_
        intro gg2 cc2 wq3 own2 g2 at2 lt2
        have hb : Below (Bw + 1) wq2 wq3 := (Below.refl _ _).grown g2 (OS.out _ hS2).2.2.2.1 (fun k hk => (own1.lt k hk).1)
        have hS3 := KS.out _ _ hS2 hb
        refine hK9.out _ _ ?_ (fun _ => ?_)
        · exact hS3
        clear own1 g2 at2 hb h8
        clear hK9 K9
        refine wpAnyH_take (i := 10) (v := ?_) rfl (by kernel_rfl) (by kernel_rfl) (by kernel_rfl) (fun _ _ _ h => h) (Or.inl ⟨by rfl, ?_⟩) (by assumption) ?_
        rotate_left
        · (intro wa hSw; obtain ⟨s0, s1, _, _, _⟩ := OS.out _ hSw; go_simp; try with_reducible rfl)
        simp only [Act.put, List.getElem_toArray, List.getElem_cons_zero, List.getElem_cons_succ, List.setIfInBounds_toArray, List.set_cons_zero, List.set_cons_succ]
        obtain ⟨s0, s1, ⟨xb, s2⟩, s3, s4⟩ := OS.out _ hS3
        have SF := SET.out _ (.slice (some ⟨gg2, 0, none⟩) (K.length + 1 + 1) cc2) hS3
        have q3 : wq3.cell? ⟨Bw, 3, none⟩ = some xb := cell_of_row wq3 Bw 3 _ _ (0, 0) s2
        have qf := frozen_of_row wq3 Bw 3 _ _ s2
        have EB : BoxN wq3 Bw [.int .i64 win, .int .i64 1, .int .i64 0, xb, .bool ag] := ⟨by omega, fun j v hv => (cell_of_row wq3 Bw j _ _ (0, 0) s2).trans (by simpa using hv)⟩
        have hgw : Bw + 1 ≤ gg2 := (own2.lt gg2 rfl).1
        have RW : IntRow wq3 (.slice (some ⟨gg2, 0, none⟩) (K.length + 1 + 1) cc2) (K.length + 1 + 1) (getI (K ++ [8] ++ [1])) := IntRow.of_owns own2 (by omega) (twice_cells K)
        have CUT : CutR w w1.heap.size Bw gu gv cu cv win ag K (wq3.setCell ⟨Bw, 3, none⟩ (.slice (some ⟨gg2, 0, none⟩) (K.length + 1 + 1) cc2)) :=
          ⟨gg2, cc2, (bu6.out.belowB s4 (by omega)).other 3 _ (by omega), (bv6.out.belowB s4 (by omega)).other 3 _ (by omega), EB.set 3 _, (ru6.out.below s4 (by rw [HBw.out]; omega)).setOther 3 _ (by simp [Value.ownBlock]; omega), (rv6.out.below s4 (by rw [HBw.out]; omega)).setOther 3 _ (by simp [Value.ownBlock]; omega), RW.setOther 3 _ (by simp [Value.ownBlock]; omega), (hb6.out.trans (s4.mono (by omega))).setCell (by show w.heap.size ≤ Bw; omega) _⟩
        refine wpAnyH_ready (rs := [11]) (by kernel_rfl) (by simp) ?_
        refine AllReadyH.cons (o := _) rfl (fun K1 hK1' => ?_) AllReadyH.nil
        go_simp
        refine hK1'.out _ _ ?_ (fun _ => ?_)
        · exact SF
        refine wpAnyH_done (by kernel_rfl) ?_ _
        go_wp2_with fail
        go_meet
        case rel => exact CUT
      · have hb : Below (Bw + 1) wq0 (wq0.alloc (.cells #[.int .i64 1] 3)) := (Below.refl _ _).alloc (OS.out _ hS0).2.2.2.1 _
        have hS1 := KS.out _ _ hS0 hb
        have h8 := heap_alloc_new wq0 (.cells #[.int .i64 1] 3)
        replace own0 := own0.alloc (.cells #[.int .i64 1] 3)
        have n08 : X0 ≠ wq0.heap.size := by have := own0.lt X0 rfl; have := l0; omega
        go_simp
        refine hK8.out _ _ ?_ (fun _ => ?_)
        · exact hS1
        have l8 : wq0.heap.size < (wq0.alloc (.cells #[.int .i64 1] 3)).heap.size := by simp
        generalize wq0.alloc (.cells #[.int .i64 1] 3) = wq1 at *
        generalize hX8 : wq0.heap.size = X8 at *
        clear hb
        replace l0 : X0 < wq1.heap.size := by omega
        clear hK8 K8
        refine wpAnyH_ready (rs := [3]) (by kernel_rfl) (by simp) ?_
        refine AllReadyH.cons (o := _) rfl (fun K3 hK3 => ?_) AllReadyH.nil
        have RR := GG.out _ hS1
        refine step_append_lies _ (by rfl) (.tmp 24) (.tmp 26) 23 (by rfl) (Bw + 1) 3 i0 (.int .i64 0) 1 8 Try.underlying23 hi hz0 hz1 hz2 rfl (by decide) (.slice (some ⟨X0, 0, none⟩) 0 0) 0 [] (by rfl) own0 ⟨gu, 0, none⟩ (K.length + 1) cu ((List.range (K.length + 1)).map fun j => Value.int .i64 (getI (K ++ [8]) j)) (by rfl) (by simp) (news_of_row RR) ones_row (by omega) (by unfold maxLen; omega) (by omega) (OS.out _ hS1).2.2.2.1 _ rfl ?_
        intro gg1 cc1 wq2 own1 g1 at1 lt1
        simp only [Nat.zero_add, List.nil_append] at own1 ⊢
        have hb : Below (Bw + 1) wq1 wq2 := (Below.refl _ _).grown g1 (OS.out _ hS1).2.2.2.1 (fun k hk => (own0.lt k hk).1)
        have hS2 := KS.out _ _ hS1 hb
        replace h8 := (g1.block X8 l8 (by simp [Value.ownBlock]; omega)).trans h8
        replace l8 : X8 < wq2.heap.size := Nat.lt_of_lt_of_le l8 g1.size
        refine hK3.out _ _ ?_ (fun _ => ?_)
        · exact hS2
        clear own0 g1 at1 RR hb
        clear hK3 K3
        refine wpAnyH_ready (rs := [9]) (by kernel_rfl) (by simp) ?_
        refine AllReadyH.cons (o := _) rfl (fun K9 hK9 => ?_) AllReadyH.nil
        refine step_append_lies _ (by rfl) (.tmp 27) (.tmp 32) 23 (by rfl) (Bw + 1) 3 i0 (.int .i64 0) 1 8 Try.underlying23 hi hz0 hz1 hz2 rfl (by decide) (.slice (some ⟨gg1, 0, none⟩) (K.length + 1) cc1) (K.length + 1) ((List.range (K.length + 1)).map fun j => Value.int .i64 (getI (K ++ [8]) j)) (by rfl) own1 ⟨X8, 0, none⟩ 1 1 [.int .i64 1] (by rfl) (by simp) (by simpa using World.news_of_block h8) (by intro u hu; simp at hu; subst hu; rfl) (by omega) (by unfold maxLen; omega) (by omega) (OS.out _ hS2).2.2.2.1 _ rfl ?_
        intro gg2 cc2 wq3 own2 g2 at2 lt2
        have hb : Below (Bw + 1) wq2 wq3 := (Below.refl _ _).grown g2 (OS.out _ hS2).2.2.2.1 (fun k hk => (own1.lt k hk).1)
        have hS3 := KS.out _ _ hS2 hb
        refine hK9.out _ _ ?_ (fun _ => ?_)
        · exact hS3
        clear own1 g2 at2 hb h8
        clear hK9 K9
        refine wpAnyH_take (i := 10) (v := ?_) rfl (by kernel_rfl) (by kernel_rfl) (by kernel_rfl) (fun _ _ _ h => h) (Or.inl ⟨by rfl, ?_⟩) (by assumption) ?_
        rotate_left
        · (intro wa hSw; obtain ⟨s0, s1, _, _, _⟩ := OS.out _ hSw; go_simp; try with_reducible rfl)
        simp only [Act.put, List.getElem_toArray, List.getElem_cons_zero, List.getElem_cons_succ, List.setIfInBounds_toArray, List.set_cons_zero, List.set_cons_succ]
        obtain ⟨s0, s1, ⟨xb, s2⟩, s3, s4⟩ := OS.out _ hS3
        have SF := SET.out _ (.slice (some ⟨gg2, 0, none⟩) (K.length + 1 + 1) cc2) hS3
        have q3 : wq3.cell? ⟨Bw, 3, none⟩ = some xb := cell_of_row wq3 Bw 3 _ _ (0, 0) s2
        have qf := frozen_of_row wq3 Bw 3 _ _ s2
        have EB : BoxN wq3 Bw [.int .i64 win, .int .i64 1, .int .i64 0, xb, .bool ag] := ⟨by omega, fun j v hv => (cell_of_row wq3 Bw j _ _ (0, 0) s2).trans (by simpa using hv)⟩
        have hgw : Bw + 1 ≤ gg2 := (own2.lt gg2 rfl).1
        have RW : IntRow wq3 (.slice (some ⟨gg2, 0, none⟩) (K.length + 1 + 1) cc2) (K.length + 1 + 1) (getI (K ++ [8] ++ [1])) := IntRow.of_owns own2 (by omega) (twice_cells K)
        have CUT : CutR w w1.heap.size Bw gu gv cu cv win ag K (wq3.setCell ⟨Bw, 3, none⟩ (.slice (some ⟨gg2, 0, none⟩) (K.length + 1 + 1) cc2)) :=
          ⟨gg2, cc2, (bu6.out.belowB s4 (by omega)).other 3 _ (by omega), (bv6.out.belowB s4 (by omega)).other 3 _ (by omega), EB.set 3 _, (ru6.out.below s4 (by rw [HBw.out]; omega)).setOther 3 _ (by simp [Value.ownBlock]; omega), (rv6.out.below s4 (by rw [HBw.out]; omega)).setOther 3 _ (by simp [Value.ownBlock]; omega), RW.setOther 3 _ (by simp [Value.ownBlock]; omega), (hb6.out.trans (s4.mono (by omega))).setCell (by show w.heap.size ≤ Bw; omega) _⟩
        refine wpAnyH_ready (rs := [11]) (by kernel_rfl) (by simp) ?_
        refine AllReadyH.cons (o := _) rfl (fun K1 hK1' => ?_) AllReadyH.nil
        go_simp
        refine hK1'.out _ _ ?_ (fun _ => ?_)
        · exact SF
        refine wpAnyH_done (by kernel_rfl) ?_ _
        go_wp2_with fail
        go_meet
        case rel => exact CUT
    · have hb : Below (Bw + 1) wz (wz.alloc (.cells #[.int .i64 1] 3)) := (Below.refl _ _).alloc (OS.out _ hHeld).2.2.2.1 _
      have hS0 := KS.out _ _ hHeld hb
      have h8 := heap_alloc_new wz (.cells #[.int .i64 1] 3)
      go_simp
      refine hK8.out _ _ ?_ (fun _ => ?_)
      · exact hS0
      have l8 : wz.heap.size < (wz.alloc (.cells #[.int .i64 1] 3)).heap.size := by simp
      generalize wz.alloc (.cells #[.int .i64 1] 3) = wq0 at *
      generalize hX8 : wz.heap.size = X8 at *
      clear hb
      clear hK8 K8
      refine wpAnyH_ready (rs := [0]) (by kernel_rfl) (by simp) ?_
      refine AllReadyH.cons (o := _) rfl (fun K0 hK0 => ?_) AllReadyH.nil
      have hb : Below (Bw + 1) wq0 (wq0.alloc (.cells #[] 3)) := (Below.refl _ _).alloc (OS.out _ hS0).2.2.2.1 _
      have hS1 := KS.out _ _ hS0 hb
      have own0 : (wq0.alloc (.cells #[] 3)).ownsRow (Bw + 1) 3 1 (.slice (some ⟨wq0.heap.size, 0, none⟩) 0 0) 0 [] := owns_mono (World.ownsRow_lit wq0 #[] 0 (Nat.le_refl _) (by decide) rfl) (OS.out _ hS0).2.2.2.1
      replace h8 := (Below.heap_alloc wq0 (.cells #[] 3) X8 l8).trans h8
      have n08 : wq0.heap.size ≠ X8 := by omega
      go_simp
      refine hK0.out _ _ ?_ (fun _ => ?_)
      · exact hS1
      have l0 : wq0.heap.size < (wq0.alloc (.cells #[] 3)).heap.size := by simp
      generalize wq0.alloc (.cells #[] 3) = wq1 at *
      generalize hX0 : wq0.heap.size = X0 at *
      clear hb
      replace l8 : X8 < wq1.heap.size := by omega
      clear hK0 K0
      refine wpAnyH_ready (rs := [3]) (by kernel_rfl) (by simp) ?_
      refine AllReadyH.cons (o := _) rfl (fun K3 hK3 => ?_) AllReadyH.nil
      have RR := GG.out _ hS1
      refine step_append_lies _ (by rfl) (.tmp 24) (.tmp 26) 23 (by rfl) (Bw + 1) 3 i0 (.int .i64 0) 1 8 Try.underlying23 hi hz0 hz1 hz2 rfl (by decide) (.slice (some ⟨X0, 0, none⟩) 0 0) 0 [] (by rfl) own0 ⟨gu, 0, none⟩ (K.length + 1) cu ((List.range (K.length + 1)).map fun j => Value.int .i64 (getI (K ++ [8]) j)) (by rfl) (by simp) (news_of_row RR) ones_row (by omega) (by unfold maxLen; omega) (by omega) (OS.out _ hS1).2.2.2.1 _ rfl ?_
      intro gg1 cc1 wq2 own1 g1 at1 lt1
      simp only [Nat.zero_add, List.nil_append] at own1 ⊢
      have hb : Below (Bw + 1) wq1 wq2 := (Below.refl _ _).grown g1 (OS.out _ hS1).2.2.2.1 (fun k hk => (own0.lt k hk).1)
      have hS2 := KS.out _ _ hS1 hb
      replace h8 := (g1.block X8 l8 (by simp [Value.ownBlock]; omega)).trans h8
      replace l8 : X8 < wq2.heap.size := Nat.lt_of_lt_of_le l8 g1.size
      refine hK3.out _ _ ?_ (fun _ => ?_)
      · exact hS2
      clear own0 g1 at1 RR hb
      clear hK3 K3
      refine wpAnyH_ready (rs := [9]) (by kernel_rfl) (by simp) ?_
      refine AllReadyH.cons (o := _) rfl (fun K9 hK9 => ?_) AllReadyH.nil
      refine step_append_lies _ (by rfl) (.tmp 27) (.tmp 32) 23 (by rfl) (Bw + 1) 3 i0 (.int .i64 0) 1 8 Try.underlying23 hi hz0 hz1 hz2 rfl (by decide) (.slice (some ⟨gg1, 0, none⟩) (K.length + 1) cc1) (K.length + 1) ((List.range (K.length + 1)).map fun j => Value.int .i64 (getI (K ++ [8]) j)) (by rfl) own1 ⟨X8, 0, none⟩ 1 1 [.int .i64 1] (by rfl) (by simp) (by simpa using World.news_of_block h8) (by intro u hu; simp at hu; subst hu; rfl) (by omega) (by unfold maxLen; omega) (by omega) (OS.out _ hS2).2.2.2.1 _ rfl ?_
      intro gg2 cc2 wq3 own2 g2 at2 lt2
      have hb : Below (Bw + 1) wq2 wq3 := (Below.refl _ _).grown g2 (OS.out _ hS2).2.2.2.1 (fun k hk => (own1.lt k hk).1)
      have hS3 := KS.out _ _ hS2 hb
      refine hK9.out _ _ ?_ (fun _ => ?_)
      · exact hS3
      clear own1 g2 at2 hb h8
      clear hK9 K9
      refine wpAnyH_take (i := 10) (v := ?_) rfl (by kernel_rfl) (by kernel_rfl) (by kernel_rfl) (fun _ _ _ h => h) (Or.inl ⟨by rfl, ?_⟩) (by assumption) ?_
      rotate_left
      · (intro wa hSw; obtain ⟨s0, s1, _, _, _⟩ := OS.out _ hSw; go_simp; try with_reducible rfl)
      simp only [Act.put, List.getElem_toArray, List.getElem_cons_zero, List.getElem_cons_succ, List.setIfInBounds_toArray, List.set_cons_zero, List.set_cons_succ]
      obtain ⟨s0, s1, ⟨xb, s2⟩, s3, s4⟩ := OS.out _ hS3
      have SF := SET.out _ (.slice (some ⟨gg2, 0, none⟩) (K.length + 1 + 1) cc2) hS3
      have q3 : wq3.cell? ⟨Bw, 3, none⟩ = some xb := cell_of_row wq3 Bw 3 _ _ (0, 0) s2
      have qf := frozen_of_row wq3 Bw 3 _ _ s2
      have EB : BoxN wq3 Bw [.int .i64 win, .int .i64 1, .int .i64 0, xb, .bool ag] := ⟨by omega, fun j v hv => (cell_of_row wq3 Bw j _ _ (0, 0) s2).trans (by simpa using hv)⟩
      have hgw : Bw + 1 ≤ gg2 := (own2.lt gg2 rfl).1
      have RW : IntRow wq3 (.slice (some ⟨gg2, 0, none⟩) (K.length + 1 + 1) cc2) (K.length + 1 + 1) (getI (K ++ [8] ++ [1])) := IntRow.of_owns own2 (by omega) (twice_cells K)
      have CUT : CutR w w1.heap.size Bw gu gv cu cv win ag K (wq3.setCell ⟨Bw, 3, none⟩ (.slice (some ⟨gg2, 0, none⟩) (K.length + 1 + 1) cc2)) :=
        ⟨gg2, cc2, (bu6.out.belowB s4 (by omega)).other 3 _ (by omega), (bv6.out.belowB s4 (by omega)).other 3 _ (by omega), EB.set 3 _, (ru6.out.below s4 (by rw [HBw.out]; omega)).setOther 3 _ (by simp [Value.ownBlock]; omega), (rv6.out.below s4 (by rw [HBw.out]; omega)).setOther 3 _ (by simp [Value.ownBlock]; omega), RW.setOther 3 _ (by simp [Value.ownBlock]; omega), (hb6.out.trans (s4.mono (by omega))).setCell (by show w.heap.size ≤ Bw; omega) _⟩
      refine wpAnyH_ready (rs := [11]) (by kernel_rfl) (by simp) ?_
      refine AllReadyH.cons (o := _) rfl (fun K1 hK1' => ?_) AllReadyH.nil
      go_simp
      refine hK1'.out _ _ ?_ (fun _ => ?_)
      · exact SF
      refine wpAnyH_done (by kernel_rfl) ?_ _
      go_wp2_with fail
      go_meet
      case rel => exact CUT
  case rest =>
    obtain ⟨gw, cw, bu, bv, bw, ru, rv, rw, hb⟩ := hcut
    clear ru6 rv6 bu6 bv6 hb6 ru7 HBw RU IU B1 cells
    have KK := HK.out
    have WW := HW.out
    have R1 := good_rules WW KK hK4
    have C1 : Hid (∀ wa, IntRow wa (.slice (some ⟨gu, 0, none⟩) (K.length + 1) cu) (K.length + 1) (getI (K ++ [8])) → _) := fun wa h => rulesOk_impl win 1 0 ag true _ _ _ wa ⟨fun _ => R1, fun _ => rfl⟩ h
    have D1 := good_decisive WW KK hK4
    have C2 : Hid (∀ wa, IntRow wa (.slice (some ⟨gu, 0, none⟩) (K.length + 1) cu) (K.length + 1) (getI (K ++ [8])) → _) := fun wa h => isDecisive_impl win 1 0 ag true _ _ _ wa ⟨fun _ => D1, fun _ => rfl⟩ h
    have C3 : Hid (∀ wa, IntRow wa (.slice (some ⟨gu, 0, none⟩) (K.length + 1) cu) (K.length + 1) (getI (K ++ [8])) → _) := fun wa h => faultOf_impl win 1 0 ag _ _ _ _ wa (good_fault WW KK hK4) h
    have C4 : Hid (∀ wa, IntRow wa (.slice (some ⟨gv, 0, none⟩) K.length cv) K.length (getI K) → _) := fun wa h => faultOf_impl win 1 0 ag _ _ _ _ wa (cut_fault WW KK hK4) h
    have C5 : Hid (∀ wa, IntRow wa (.slice (some ⟨gw, 0, none⟩) (K.length + 1 + 1) cw) (K.length + 1 + 1) (getI (K ++ [8] ++ [1])) → _) := fun wa h => faultOf_impl win 1 0 ag _ _ _ _ wa (twice_fault KK) h
    have C6 : Hid (∀ wa, IntRow wa (.slice (some ⟨gu, 0, none⟩) (K.length + 1) cu) (K.length + 1) (getI (K ++ [8])) → _) := fun wa h => faultOf_impl 0 0 0 ag _ _ _ _ wa (flat_fault KK hK4) h
    have C9 : Hid (∀ wa, Calls Try.prog 18 #[.int .i64 1] wa fun e w' => e = .returned (.string (knm 1)) ∧ Below wa.heap.size wa w') := fun wa => (keyNameI_yes 1 wa (by omega) (by omega)).mono fun _ _ ⟨h, h'⟩ => ⟨h, h' ▸ Below.refl _ _⟩
    have C10 : Hid (∀ wa, Calls Try.prog 17 #[.string (knm 1)] wa fun e w' => e = .returned (.int .i64 1) ∧ Below wa.heap.size wa w') := fun wa => (keyNamed_impl (knm 1) wa).mono fun _ _ ⟨h, h'⟩ => ⟨by rw [h, key_one]; rfl, h' ▸ Below.refl _ _⟩
    have C11 : Hid (∀ wa, IntRow wa (.slice (some ⟨gu, 0, none⟩) (K.length + 1) cu) (K.length + 1) (getI (K ++ [8])) → IntRow wa (.slice (some ⟨gv, 0, none⟩) K.length cv) K.length (getI K) → _) := fun wa h h2 => sameRules_impl win 1 0 ag _ _ _ win 1 0 ag _ _ _ false wa ⟨(fun e => by cases e), fun e => absurd e not_same⟩ h h2
    generalize knm 1 = k1 at *
    clear KK WW R1 D1
    have cu0 := bu.2 0 _ rfl
    have cu1 := bu.2 1 _ rfl
    have cu2 := bu.2 2 _ rfl
    have cu3 := bu.2 3 _ rfl
    have cu4 := bu.2 4 _ rfl
    have lu := bu.1
    have HG0 := Lib.hid GI0.out
    obtain ⟨S, HSd⟩ : ∃ S : World → Prop, S = fun w' => BoxN w' w1.heap.size [.int .i64 win, .int .i64 1, .int .i64 0, .slice (some ⟨gu, 0, none⟩) (K.length + 1) cu, .bool ag] ∧ BoxN w' (w1.heap.size + 1) [.int .i64 win, .int .i64 1, .int .i64 0, .slice (some ⟨gv, 0, none⟩) K.length cv, .bool ag] ∧ BoxN w' Bw [.int .i64 win, .int .i64 1, .int .i64 0, .slice (some ⟨gw, 0, none⟩) (K.length + 1 + 1) cw, .bool ag] ∧ BoxN w' wc.heap.size [.int .i64 0, .int .i64 0, .int .i64 0, .slice (some ⟨gu, 0, none⟩) (K.length + 1) cu, .bool ag] ∧ IntRow w' (.slice (some ⟨gu, 0, none⟩) (K.length + 1) cu) (K.length + 1) (getI (K ++ [8])) ∧ IntRow w' (.slice (some ⟨gv, 0, none⟩) K.length cv) K.length (getI K) ∧ IntRow w' (.slice (some ⟨gw, 0, none⟩) (K.length + 1 + 1) cw) (K.length + 1 + 1) (getI (K ++ [8] ++ [1])) ∧ Below w.heap.size w w' := ⟨_, rfl⟩
    have KS : Hid (∀ wa wb, S wa → Below wa.heap.size wa wb → S wb) := by subst HSd; exact fun wa wb ⟨bu, bv, bw, bx, ru, rv, rw, hb⟩ b => ⟨bu.below b, bv.below b, bw.below b, bx.below b, ru.below b (Nat.le_refl _), rv.below b (Nat.le_refl _), rw.below b (Nat.le_refl _), hb.trans (b.mono hb.size)⟩
    have OS : Hid (∀ wa, S wa → BoxN wa w1.heap.size [.int .i64 win, .int .i64 1, .int .i64 0, .slice (some ⟨gu, 0, none⟩) (K.length + 1) cu, .bool ag] ∧ BoxN wa (w1.heap.size + 1) [.int .i64 win, .int .i64 1, .int .i64 0, .slice (some ⟨gv, 0, none⟩) K.length cv, .bool ag] ∧ BoxN wa Bw [.int .i64 win, .int .i64 1, .int .i64 0, .slice (some ⟨gw, 0, none⟩) (K.length + 1 + 1) cw, .bool ag] ∧ BoxN wa wc.heap.size [.int .i64 0, .int .i64 0, .int .i64 0, .slice (some ⟨gu, 0, none⟩) (K.length + 1) cu, .bool ag] ∧ IntRow wa (.slice (some ⟨gu, 0, none⟩) (K.length + 1) cu) (K.length + 1) (getI (K ++ [8])) ∧ IntRow wa (.slice (some ⟨gv, 0, none⟩) K.length cv) K.length (getI K) ∧ IntRow wa (.slice (some ⟨gw, 0, none⟩) (K.length + 1 + 1) cw) (K.length + 1 + 1) (getI (K ++ [8] ++ [1])) ∧ Below w.heap.size w wa) := by subst HSd; exact fun wa h => h
    have KS0 : Hid (S (wc.alloc (.cells #[.int .i64 0, .int .i64 0, .int .i64 0, .slice (some ⟨gu, 0, none⟩) (K.length + 1) cu, .bool ag] 25)).drew) := by subst HSd; exact (fun (b : Below wc.heap.size wc (wc.alloc (.cells #[.int .i64 0, .int .i64 0, .int .i64 0, .slice (some ⟨gu, 0, none⟩) (K.length + 1) cu, .bool ag] 25)).drew) => ⟨bu.below b, bv.below b, bw.below b, BoxN.made (u := wc) ((Below.refl _ _).drew) rfl, ru.below b (Nat.le_refl _), rv.below b (Nat.le_refl _), rw.below b (Nat.le_refl _), hb.trans (b.mono hb.size)⟩) ((Below.refl _ wc).alloc (Nat.le_refl _) _).drew
    clear HSd
    go_wp2_with fail
    refine wp_region_held_drew (S := S) (by kernel_rfl) ?_ (fun hHeld => ?_)
    · exact KS0.out
    clear KS0 bu bv bw ru rv rw hb
    refine wpAnyH_take (i := 0) (v := ?_) rfl (by kernel_rfl) (by kernel_rfl) (by kernel_rfl) (fun _ _ _ h => h) (Or.inl ⟨by rfl, ?_⟩) (by assumption) ?_
    rotate_left
    · (intro wa hSw; obtain ⟨bu, bv, bw, bx, ru, rv, rw, hb⟩ := OS.out _ hSw; have uc0 := bu.2 0 _ rfl; have uc1 := bu.2 1 _ rfl; have uc2 := bu.2 2 _ rfl; have uc3 := bu.2 3 _ rfl; have uc4 := bu.2 4 _ rfl; have vc0 := bv.2 0 _ rfl; have vc1 := bv.2 1 _ rfl; have vc2 := bv.2 2 _ rfl; have vc3 := bv.2 3 _ rfl; have vc4 := bv.2 4 _ rfl; have wc0 := bw.2 0 _ rfl; have wc1 := bw.2 1 _ rfl; have wc2 := bw.2 2 _ rfl; have wc3 := bw.2 3 _ rfl; have wc4 := bw.2 4 _ rfl; have xc0 := bx.2 0 _ rfl; have xc1 := bx.2 1 _ rfl; have xc2 := bx.2 2 _ rfl; have xc3 := bx.2 3 _ rfl; have xc4 := bx.2 4 _ rfl; have g00 := row_cell ru 0 (by omega); rw [HG0.out] at g00; go_simp; try with_reducible rfl)
    simp only [Act.put, List.getElem_toArray, List.getElem_cons_zero, List.setIfInBounds_toArray, List.set_cons_zero, List.set_cons_succ]
    refine wpAnyH_ready (rs := [1]) (by kernel_rfl) (by simp) ?_
    refine AllReadyH.cons (o := _) rfl (fun K hK => ?_) AllReadyH.nil
    go_simp
    obtain ⟨bu, bv, bw, bx, ru, rv, rw, hb⟩ := OS.out _ hHeld
    refine (C1.out _ ru).mono ?_
    rintro e w101 ⟨rfl, b101⟩
    clear bu bv bw bx ru rv rw hb
    (try go_wp2_with fail)
    refine hK.out _ _ ?_ (fun hHeld101 => ?_)
    · exact KS.out _ _ hHeld b101
    clear hK K
    refine wpAnyH_take (i := 2) (v := ?_) rfl (by kernel_rfl) (by kernel_rfl) (by kernel_rfl) (fun _ _ _ h => h) (Or.inl ⟨by rfl, ?_⟩) (by assumption) ?_
    rotate_left
    · (intro wa hSw; obtain ⟨bu, bv, bw, bx, ru, rv, rw, hb⟩ := OS.out _ hSw; have uc0 := bu.2 0 _ rfl; have uc1 := bu.2 1 _ rfl; have uc2 := bu.2 2 _ rfl; have uc3 := bu.2 3 _ rfl; have uc4 := bu.2 4 _ rfl; have vc0 := bv.2 0 _ rfl; have vc1 := bv.2 1 _ rfl; have vc2 := bv.2 2 _ rfl; have vc3 := bv.2 3 _ rfl; have vc4 := bv.2 4 _ rfl; have wc0 := bw.2 0 _ rfl; have wc1 := bw.2 1 _ rfl; have wc2 := bw.2 2 _ rfl; have wc3 := bw.2 3 _ rfl; have wc4 := bw.2 4 _ rfl; have xc0 := bx.2 0 _ rfl; have xc1 := bx.2 1 _ rfl; have xc2 := bx.2 2 _ rfl; have xc3 := bx.2 3 _ rfl; have xc4 := bx.2 4 _ rfl; have g00 := row_cell ru 0 (by omega); rw [HG0.out] at g00; go_simp; try with_reducible rfl)
    simp only [Act.put, List.getElem_toArray, List.getElem_cons_zero, List.getElem_cons_succ, List.setIfInBounds_toArray, List.set_cons_zero, List.set_cons_succ]
    refine wpAnyH_take (i := 3) (v := ?_) rfl (by kernel_rfl) (by kernel_rfl) (by kernel_rfl) (fun _ _ _ h => h) (Or.inl ⟨by rfl, ?_⟩) (by assumption) ?_
    rotate_left
    · (intro wa hSw; obtain ⟨bu, bv, bw, bx, ru, rv, rw, hb⟩ := OS.out _ hSw; have uc0 := bu.2 0 _ rfl; have uc1 := bu.2 1 _ rfl; have uc2 := bu.2 2 _ rfl; have uc3 := bu.2 3 _ rfl; have uc4 := bu.2 4 _ rfl; have vc0 := bv.2 0 _ rfl; have vc1 := bv.2 1 _ rfl; have vc2 := bv.2 2 _ rfl; have vc3 := bv.2 3 _ rfl; have vc4 := bv.2 4 _ rfl; have wc0 := bw.2 0 _ rfl; have wc1 := bw.2 1 _ rfl; have wc2 := bw.2 2 _ rfl; have wc3 := bw.2 3 _ rfl; have wc4 := bw.2 4 _ rfl; have xc0 := bx.2 0 _ rfl; have xc1 := bx.2 1 _ rfl; have xc2 := bx.2 2 _ rfl; have xc3 := bx.2 3 _ rfl; have xc4 := bx.2 4 _ rfl; have g00 := row_cell ru 0 (by omega); rw [HG0.out] at g00; go_simp; try with_reducible rfl)
    simp only [Act.put, List.getElem_toArray, List.getElem_cons_zero, List.getElem_cons_succ, List.setIfInBounds_toArray, List.set_cons_zero, List.set_cons_succ]
    refine wpAnyH_ready (rs := [4]) (by kernel_rfl) (by simp) ?_
    refine AllReadyH.cons (o := _) rfl (fun K hK => ?_) AllReadyH.nil
    go_simp
    obtain ⟨bu, bv, bw, bx, ru, rv, rw, hb⟩ := OS.out _ hHeld101
    refine (C2.out _ ru).mono ?_
    rintro e w102 ⟨rfl, b102⟩
    clear bu bv bw bx ru rv rw hb
    (try go_wp2_with fail)
    refine hK.out _ _ ?_ (fun hHeld102 => ?_)
    · exact KS.out _ _ hHeld101 b102
    clear hK K
    clear hHeld101
    refine wpAnyH_take (i := 5) (v := ?_) rfl (by kernel_rfl) (by kernel_rfl) (by kernel_rfl) (fun _ _ _ h => h) (Or.inl ⟨by rfl, ?_⟩) (by assumption) ?_
    rotate_left
    · (intro wa hSw; obtain ⟨bu, bv, bw, bx, ru, rv, rw, hb⟩ := OS.out _ hSw; have uc0 := bu.2 0 _ rfl; have uc1 := bu.2 1 _ rfl; have uc2 := bu.2 2 _ rfl; have uc3 := bu.2 3 _ rfl; have uc4 := bu.2 4 _ rfl; have vc0 := bv.2 0 _ rfl; have vc1 := bv.2 1 _ rfl; have vc2 := bv.2 2 _ rfl; have vc3 := bv.2 3 _ rfl; have vc4 := bv.2 4 _ rfl; have wc0 := bw.2 0 _ rfl; have wc1 := bw.2 1 _ rfl; have wc2 := bw.2 2 _ rfl; have wc3 := bw.2 3 _ rfl; have wc4 := bw.2 4 _ rfl; have xc0 := bx.2 0 _ rfl; have xc1 := bx.2 1 _ rfl; have xc2 := bx.2 2 _ rfl; have xc3 := bx.2 3 _ rfl; have xc4 := bx.2 4 _ rfl; have g00 := row_cell ru 0 (by omega); rw [HG0.out] at g00; go_simp; try with_reducible rfl)
    simp only [Act.put, List.getElem_toArray, List.getElem_cons_zero, List.getElem_cons_succ, List.setIfInBounds_toArray, List.set_cons_zero, List.set_cons_succ]
    refine wpAnyH_take (i := 6) (v := ?_) rfl (by kernel_rfl) (by kernel_rfl) (by kernel_rfl) (fun _ _ _ h => h) (Or.inl ⟨by rfl, ?_⟩) (by assumption) ?_
    rotate_left
    · (intro wa hSw; obtain ⟨bu, bv, bw, bx, ru, rv, rw, hb⟩ := OS.out _ hSw; have uc0 := bu.2 0 _ rfl; have uc1 := bu.2 1 _ rfl; have uc2 := bu.2 2 _ rfl; have uc3 := bu.2 3 _ rfl; have uc4 := bu.2 4 _ rfl; have vc0 := bv.2 0 _ rfl; have vc1 := bv.2 1 _ rfl; have vc2 := bv.2 2 _ rfl; have vc3 := bv.2 3 _ rfl; have vc4 := bv.2 4 _ rfl; have wc0 := bw.2 0 _ rfl; have wc1 := bw.2 1 _ rfl; have wc2 := bw.2 2 _ rfl; have wc3 := bw.2 3 _ rfl; have wc4 := bw.2 4 _ rfl; have xc0 := bx.2 0 _ rfl; have xc1 := bx.2 1 _ rfl; have xc2 := bx.2 2 _ rfl; have xc3 := bx.2 3 _ rfl; have xc4 := bx.2 4 _ rfl; have g00 := row_cell ru 0 (by omega); rw [HG0.out] at g00; go_simp; try with_reducible rfl)
    simp only [Act.put, List.getElem_toArray, List.getElem_cons_zero, List.getElem_cons_succ, List.setIfInBounds_toArray, List.set_cons_zero, List.set_cons_succ]
    refine wpAnyH_take (i := 7) (v := ?_) rfl (by kernel_rfl) (by kernel_rfl) (by kernel_rfl) (fun _ _ _ h => h) (Or.inl ⟨by rfl, ?_⟩) (by assumption) ?_
    rotate_left
    · (intro wa hSw; obtain ⟨bu, bv, bw, bx, ru, rv, rw, hb⟩ := OS.out _ hSw; have uc0 := bu.2 0 _ rfl; have uc1 := bu.2 1 _ rfl; have uc2 := bu.2 2 _ rfl; have uc3 := bu.2 3 _ rfl; have uc4 := bu.2 4 _ rfl; have vc0 := bv.2 0 _ rfl; have vc1 := bv.2 1 _ rfl; have vc2 := bv.2 2 _ rfl; have vc3 := bv.2 3 _ rfl; have vc4 := bv.2 4 _ rfl; have wc0 := bw.2 0 _ rfl; have wc1 := bw.2 1 _ rfl; have wc2 := bw.2 2 _ rfl; have wc3 := bw.2 3 _ rfl; have wc4 := bw.2 4 _ rfl; have xc0 := bx.2 0 _ rfl; have xc1 := bx.2 1 _ rfl; have xc2 := bx.2 2 _ rfl; have xc3 := bx.2 3 _ rfl; have xc4 := bx.2 4 _ rfl; have g00 := row_cell ru 0 (by omega); rw [HG0.out] at g00; go_simp; try with_reducible rfl)
    simp only [Act.put, List.getElem_toArray, List.getElem_cons_zero, List.getElem_cons_succ, List.setIfInBounds_toArray, List.set_cons_zero, List.set_cons_succ]
    refine wpAnyH_ready (rs := [8]) (by kernel_rfl) (by simp) ?_
    refine AllReadyH.cons (o := _) rfl (fun K hK => ?_) AllReadyH.nil
    go_simp
    obtain ⟨bu, bv, bw, bx, ru, rv, rw, hb⟩ := OS.out _ hHeld102
    refine (C3.out _ ru).mono ?_
    rintro e w103 ⟨rfl, b103⟩
    clear bu bv bw bx ru rv rw hb
    (try go_wp2_with fail)
    refine hK.out _ _ ?_ (fun hHeld103 => ?_)
    · exact KS.out _ _ hHeld102 b103
    clear hK K
    clear hHeld102
    refine wpAnyH_take (i := 9) (v := ?_) rfl (by kernel_rfl) (by kernel_rfl) (by kernel_rfl) (fun _ _ _ h => h) (Or.inl ⟨by rfl, ?_⟩) (by assumption) ?_
    rotate_left
    · (intro wa hSw; obtain ⟨bu, bv, bw, bx, ru, rv, rw, hb⟩ := OS.out _ hSw; have uc0 := bu.2 0 _ rfl; have uc1 := bu.2 1 _ rfl; have uc2 := bu.2 2 _ rfl; have uc3 := bu.2 3 _ rfl; have uc4 := bu.2 4 _ rfl; have vc0 := bv.2 0 _ rfl; have vc1 := bv.2 1 _ rfl; have vc2 := bv.2 2 _ rfl; have vc3 := bv.2 3 _ rfl; have vc4 := bv.2 4 _ rfl; have wc0 := bw.2 0 _ rfl; have wc1 := bw.2 1 _ rfl; have wc2 := bw.2 2 _ rfl; have wc3 := bw.2 3 _ rfl; have wc4 := bw.2 4 _ rfl; have xc0 := bx.2 0 _ rfl; have xc1 := bx.2 1 _ rfl; have xc2 := bx.2 2 _ rfl; have xc3 := bx.2 3 _ rfl; have xc4 := bx.2 4 _ rfl; have g00 := row_cell ru 0 (by omega); rw [HG0.out] at g00; go_simp; try with_reducible rfl)
    simp only [Act.put, List.getElem_toArray, List.getElem_cons_zero, List.getElem_cons_succ, List.setIfInBounds_toArray, List.set_cons_zero, List.set_cons_succ]
    refine wpAnyH_take (i := 10) (v := ?_) rfl (by kernel_rfl) (by kernel_rfl) (by kernel_rfl) (fun _ _ _ h => h) (Or.inl ⟨by rfl, ?_⟩) (by assumption) ?_
    rotate_left
    · (intro wa hSw; obtain ⟨bu, bv, bw, bx, ru, rv, rw, hb⟩ := OS.out _ hSw; have uc0 := bu.2 0 _ rfl; have uc1 := bu.2 1 _ rfl; have uc2 := bu.2 2 _ rfl; have uc3 := bu.2 3 _ rfl; have uc4 := bu.2 4 _ rfl; have vc0 := bv.2 0 _ rfl; have vc1 := bv.2 1 _ rfl; have vc2 := bv.2 2 _ rfl; have vc3 := bv.2 3 _ rfl; have vc4 := bv.2 4 _ rfl; have wc0 := bw.2 0 _ rfl; have wc1 := bw.2 1 _ rfl; have wc2 := bw.2 2 _ rfl; have wc3 := bw.2 3 _ rfl; have wc4 := bw.2 4 _ rfl; have xc0 := bx.2 0 _ rfl; have xc1 := bx.2 1 _ rfl; have xc2 := bx.2 2 _ rfl; have xc3 := bx.2 3 _ rfl; have xc4 := bx.2 4 _ rfl; have g00 := row_cell ru 0 (by omega); rw [HG0.out] at g00; go_simp; try with_reducible rfl)
    simp only [Act.put, List.getElem_toArray, List.getElem_cons_zero, List.getElem_cons_succ, List.setIfInBounds_toArray, List.set_cons_zero, List.set_cons_succ]
    refine wpAnyH_take (i := 11) (v := ?_) rfl (by kernel_rfl) (by kernel_rfl) (by kernel_rfl) (fun _ _ _ h => h) (Or.inl ⟨by rfl, ?_⟩) (by assumption) ?_
    rotate_left
    · (intro wa hSw; obtain ⟨bu, bv, bw, bx, ru, rv, rw, hb⟩ := OS.out _ hSw; have uc0 := bu.2 0 _ rfl; have uc1 := bu.2 1 _ rfl; have uc2 := bu.2 2 _ rfl; have uc3 := bu.2 3 _ rfl; have uc4 := bu.2 4 _ rfl; have vc0 := bv.2 0 _ rfl; have vc1 := bv.2 1 _ rfl; have vc2 := bv.2 2 _ rfl; have vc3 := bv.2 3 _ rfl; have vc4 := bv.2 4 _ rfl; have wc0 := bw.2 0 _ rfl; have wc1 := bw.2 1 _ rfl; have wc2 := bw.2 2 _ rfl; have wc3 := bw.2 3 _ rfl; have wc4 := bw.2 4 _ rfl; have xc0 := bx.2 0 _ rfl; have xc1 := bx.2 1 _ rfl; have xc2 := bx.2 2 _ rfl; have xc3 := bx.2 3 _ rfl; have xc4 := bx.2 4 _ rfl; have g00 := row_cell ru 0 (by omega); rw [HG0.out] at g00; go_simp; try with_reducible rfl)
    simp only [Act.put, List.getElem_toArray, List.getElem_cons_zero, List.getElem_cons_succ, List.setIfInBounds_toArray, List.set_cons_zero, List.set_cons_succ]
    refine wpAnyH_take (i := 12) (v := ?_) rfl (by kernel_rfl) (by kernel_rfl) (by kernel_rfl) (fun _ _ _ h => h) (Or.inl ⟨by rfl, ?_⟩) (by assumption) ?_
    rotate_left
    · (intro wa hSw; obtain ⟨bu, bv, bw, bx, ru, rv, rw, hb⟩ := OS.out _ hSw; have uc0 := bu.2 0 _ rfl; have uc1 := bu.2 1 _ rfl; have uc2 := bu.2 2 _ rfl; have uc3 := bu.2 3 _ rfl; have uc4 := bu.2 4 _ rfl; have vc0 := bv.2 0 _ rfl; have vc1 := bv.2 1 _ rfl; have vc2 := bv.2 2 _ rfl; have vc3 := bv.2 3 _ rfl; have vc4 := bv.2 4 _ rfl; have wc0 := bw.2 0 _ rfl; have wc1 := bw.2 1 _ rfl; have wc2 := bw.2 2 _ rfl; have wc3 := bw.2 3 _ rfl; have wc4 := bw.2 4 _ rfl; have xc0 := bx.2 0 _ rfl; have xc1 := bx.2 1 _ rfl; have xc2 := bx.2 2 _ rfl; have xc3 := bx.2 3 _ rfl; have xc4 := bx.2 4 _ rfl; have g00 := row_cell ru 0 (by omega); rw [HG0.out] at g00; go_simp; try with_reducible rfl)
    simp only [Act.put, List.getElem_toArray, List.getElem_cons_zero, List.getElem_cons_succ, List.setIfInBounds_toArray, List.set_cons_zero, List.set_cons_succ]
    refine wpAnyH_ready (rs := [13]) (by kernel_rfl) (by simp) ?_
    refine AllReadyH.cons (o := _) rfl (fun K hK => ?_) AllReadyH.nil
    go_simp
    obtain ⟨bu, bv, bw, bx, ru, rv, rw, hb⟩ := OS.out _ hHeld103
    refine (C4.out _ rv).mono ?_
    rintro e w104 ⟨rfl, b104⟩
    clear bu bv bw bx ru rv rw hb
    (try go_wp2_with fail)
    refine hK.out _ _ ?_ (fun hHeld104 => ?_)
    · exact KS.out _ _ hHeld103 b104
    clear hK K
    clear hHeld103
    refine wpAnyH_take (i := 14) (v := ?_) rfl (by kernel_rfl) (by kernel_rfl) (by kernel_rfl) (fun _ _ _ h => h) (Or.inl ⟨by rfl, ?_⟩) (by assumption) ?_
    rotate_left
    · (intro wa hSw; obtain ⟨bu, bv, bw, bx, ru, rv, rw, hb⟩ := OS.out _ hSw; have uc0 := bu.2 0 _ rfl; have uc1 := bu.2 1 _ rfl; have uc2 := bu.2 2 _ rfl; have uc3 := bu.2 3 _ rfl; have uc4 := bu.2 4 _ rfl; have vc0 := bv.2 0 _ rfl; have vc1 := bv.2 1 _ rfl; have vc2 := bv.2 2 _ rfl; have vc3 := bv.2 3 _ rfl; have vc4 := bv.2 4 _ rfl; have wc0 := bw.2 0 _ rfl; have wc1 := bw.2 1 _ rfl; have wc2 := bw.2 2 _ rfl; have wc3 := bw.2 3 _ rfl; have wc4 := bw.2 4 _ rfl; have xc0 := bx.2 0 _ rfl; have xc1 := bx.2 1 _ rfl; have xc2 := bx.2 2 _ rfl; have xc3 := bx.2 3 _ rfl; have xc4 := bx.2 4 _ rfl; have g00 := row_cell ru 0 (by omega); rw [HG0.out] at g00; go_simp; try with_reducible rfl)
    simp only [Act.put, List.getElem_toArray, List.getElem_cons_zero, List.getElem_cons_succ, List.setIfInBounds_toArray, List.set_cons_zero, List.set_cons_succ]
    refine wpAnyH_take (i := 15) (v := ?_) rfl (by kernel_rfl) (by kernel_rfl) (by kernel_rfl) (fun _ _ _ h => h) (Or.inl ⟨by rfl, ?_⟩) (by assumption) ?_
    rotate_left
    · (intro wa hSw; obtain ⟨bu, bv, bw, bx, ru, rv, rw, hb⟩ := OS.out _ hSw; have uc0 := bu.2 0 _ rfl; have uc1 := bu.2 1 _ rfl; have uc2 := bu.2 2 _ rfl; have uc3 := bu.2 3 _ rfl; have uc4 := bu.2 4 _ rfl; have vc0 := bv.2 0 _ rfl; have vc1 := bv.2 1 _ rfl; have vc2 := bv.2 2 _ rfl; have vc3 := bv.2 3 _ rfl; have vc4 := bv.2 4 _ rfl; have wc0 := bw.2 0 _ rfl; have wc1 := bw.2 1 _ rfl; have wc2 := bw.2 2 _ rfl; have wc3 := bw.2 3 _ rfl; have wc4 := bw.2 4 _ rfl; have xc0 := bx.2 0 _ rfl; have xc1 := bx.2 1 _ rfl; have xc2 := bx.2 2 _ rfl; have xc3 := bx.2 3 _ rfl; have xc4 := bx.2 4 _ rfl; have g00 := row_cell ru 0 (by omega); rw [HG0.out] at g00; go_simp; try with_reducible rfl)
    simp only [Act.put, List.getElem_toArray, List.getElem_cons_zero, List.getElem_cons_succ, List.setIfInBounds_toArray, List.set_cons_zero, List.set_cons_succ]
    refine wpAnyH_take (i := 16) (v := ?_) rfl (by kernel_rfl) (by kernel_rfl) (by kernel_rfl) (fun _ _ _ h => h) (Or.inl ⟨by rfl, ?_⟩) (by assumption) ?_
    rotate_left
    · (intro wa hSw; obtain ⟨bu, bv, bw, bx, ru, rv, rw, hb⟩ := OS.out _ hSw; have uc0 := bu.2 0 _ rfl; have uc1 := bu.2 1 _ rfl; have uc2 := bu.2 2 _ rfl; have uc3 := bu.2 3 _ rfl; have uc4 := bu.2 4 _ rfl; have vc0 := bv.2 0 _ rfl; have vc1 := bv.2 1 _ rfl; have vc2 := bv.2 2 _ rfl; have vc3 := bv.2 3 _ rfl; have vc4 := bv.2 4 _ rfl; have wc0 := bw.2 0 _ rfl; have wc1 := bw.2 1 _ rfl; have wc2 := bw.2 2 _ rfl; have wc3 := bw.2 3 _ rfl; have wc4 := bw.2 4 _ rfl; have xc0 := bx.2 0 _ rfl; have xc1 := bx.2 1 _ rfl; have xc2 := bx.2 2 _ rfl; have xc3 := bx.2 3 _ rfl; have xc4 := bx.2 4 _ rfl; have g00 := row_cell ru 0 (by omega); rw [HG0.out] at g00; go_simp; try with_reducible rfl)
    simp only [Act.put, List.getElem_toArray, List.getElem_cons_zero, List.getElem_cons_succ, List.setIfInBounds_toArray, List.set_cons_zero, List.set_cons_succ]
    refine wpAnyH_take (i := 17) (v := ?_) rfl (by kernel_rfl) (by kernel_rfl) (by kernel_rfl) (fun _ _ _ h => h) (Or.inl ⟨by rfl, ?_⟩) (by assumption) ?_
    rotate_left
    · (intro wa hSw; obtain ⟨bu, bv, bw, bx, ru, rv, rw, hb⟩ := OS.out _ hSw; have uc0 := bu.2 0 _ rfl; have uc1 := bu.2 1 _ rfl; have uc2 := bu.2 2 _ rfl; have uc3 := bu.2 3 _ rfl; have uc4 := bu.2 4 _ rfl; have vc0 := bv.2 0 _ rfl; have vc1 := bv.2 1 _ rfl; have vc2 := bv.2 2 _ rfl; have vc3 := bv.2 3 _ rfl; have vc4 := bv.2 4 _ rfl; have wc0 := bw.2 0 _ rfl; have wc1 := bw.2 1 _ rfl; have wc2 := bw.2 2 _ rfl; have wc3 := bw.2 3 _ rfl; have wc4 := bw.2 4 _ rfl; have xc0 := bx.2 0 _ rfl; have xc1 := bx.2 1 _ rfl; have xc2 := bx.2 2 _ rfl; have xc3 := bx.2 3 _ rfl; have xc4 := bx.2 4 _ rfl; have g00 := row_cell ru 0 (by omega); rw [HG0.out] at g00; go_simp; try with_reducible rfl)
    simp only [Act.put, List.getElem_toArray, List.getElem_cons_zero, List.getElem_cons_succ, List.setIfInBounds_toArray, List.set_cons_zero, List.set_cons_succ]
    refine wpAnyH_ready (rs := [18]) (by kernel_rfl) (by simp) ?_
    refine AllReadyH.cons (o := _) rfl (fun K hK => ?_) AllReadyH.nil
    go_simp
    obtain ⟨bu, bv, bw, bx, ru, rv, rw, hb⟩ := OS.out _ hHeld104
    refine (C5.out _ rw).mono ?_
    rintro e w105 ⟨rfl, b105⟩
    clear bu bv bw bx ru rv rw hb
    (try go_wp2_with fail)
    refine hK.out _ _ ?_ (fun hHeld105 => ?_)
    · exact KS.out _ _ hHeld104 b105
    clear hK K
    clear hHeld104
    refine wpAnyH_take (i := 19) (v := ?_) rfl (by kernel_rfl) (by kernel_rfl) (by kernel_rfl) (fun _ _ _ h => h) (Or.inl ⟨by rfl, ?_⟩) (by assumption) ?_
    rotate_left
    · (intro wa hSw; obtain ⟨bu, bv, bw, bx, ru, rv, rw, hb⟩ := OS.out _ hSw; have uc0 := bu.2 0 _ rfl; have uc1 := bu.2 1 _ rfl; have uc2 := bu.2 2 _ rfl; have uc3 := bu.2 3 _ rfl; have uc4 := bu.2 4 _ rfl; have vc0 := bv.2 0 _ rfl; have vc1 := bv.2 1 _ rfl; have vc2 := bv.2 2 _ rfl; have vc3 := bv.2 3 _ rfl; have vc4 := bv.2 4 _ rfl; have wc0 := bw.2 0 _ rfl; have wc1 := bw.2 1 _ rfl; have wc2 := bw.2 2 _ rfl; have wc3 := bw.2 3 _ rfl; have wc4 := bw.2 4 _ rfl; have xc0 := bx.2 0 _ rfl; have xc1 := bx.2 1 _ rfl; have xc2 := bx.2 2 _ rfl; have xc3 := bx.2 3 _ rfl; have xc4 := bx.2 4 _ rfl; have g00 := row_cell ru 0 (by omega); rw [HG0.out] at g00; go_simp; try with_reducible rfl)
    simp only [Act.put, List.getElem_toArray, List.getElem_cons_zero, List.getElem_cons_succ, List.setIfInBounds_toArray, List.set_cons_zero, List.set_cons_succ]
    refine wpAnyH_take (i := 20) (v := ?_) rfl (by kernel_rfl) (by kernel_rfl) (by kernel_rfl) (fun _ _ _ h => h) (Or.inl ⟨by rfl, ?_⟩) (by assumption) ?_
    rotate_left
    · (intro wa hSw; obtain ⟨bu, bv, bw, bx, ru, rv, rw, hb⟩ := OS.out _ hSw; have uc0 := bu.2 0 _ rfl; have uc1 := bu.2 1 _ rfl; have uc2 := bu.2 2 _ rfl; have uc3 := bu.2 3 _ rfl; have uc4 := bu.2 4 _ rfl; have vc0 := bv.2 0 _ rfl; have vc1 := bv.2 1 _ rfl; have vc2 := bv.2 2 _ rfl; have vc3 := bv.2 3 _ rfl; have vc4 := bv.2 4 _ rfl; have wc0 := bw.2 0 _ rfl; have wc1 := bw.2 1 _ rfl; have wc2 := bw.2 2 _ rfl; have wc3 := bw.2 3 _ rfl; have wc4 := bw.2 4 _ rfl; have xc0 := bx.2 0 _ rfl; have xc1 := bx.2 1 _ rfl; have xc2 := bx.2 2 _ rfl; have xc3 := bx.2 3 _ rfl; have xc4 := bx.2 4 _ rfl; have g00 := row_cell ru 0 (by omega); rw [HG0.out] at g00; go_simp; try with_reducible rfl)
    simp only [Act.put, List.getElem_toArray, List.getElem_cons_zero, List.getElem_cons_succ, List.setIfInBounds_toArray, List.set_cons_zero, List.set_cons_succ]
    refine wpAnyH_take (i := 21) (v := ?_) rfl (by kernel_rfl) (by kernel_rfl) (by kernel_rfl) (fun _ _ _ h => h) (Or.inl ⟨by rfl, ?_⟩) (by assumption) ?_
    rotate_left
    · (intro wa hSw; obtain ⟨bu, bv, bw, bx, ru, rv, rw, hb⟩ := OS.out _ hSw; have uc0 := bu.2 0 _ rfl; have uc1 := bu.2 1 _ rfl; have uc2 := bu.2 2 _ rfl; have uc3 := bu.2 3 _ rfl; have uc4 := bu.2 4 _ rfl; have vc0 := bv.2 0 _ rfl; have vc1 := bv.2 1 _ rfl; have vc2 := bv.2 2 _ rfl; have vc3 := bv.2 3 _ rfl; have vc4 := bv.2 4 _ rfl; have wc0 := bw.2 0 _ rfl; have wc1 := bw.2 1 _ rfl; have wc2 := bw.2 2 _ rfl; have wc3 := bw.2 3 _ rfl; have wc4 := bw.2 4 _ rfl; have xc0 := bx.2 0 _ rfl; have xc1 := bx.2 1 _ rfl; have xc2 := bx.2 2 _ rfl; have xc3 := bx.2 3 _ rfl; have xc4 := bx.2 4 _ rfl; have g00 := row_cell ru 0 (by omega); rw [HG0.out] at g00; go_simp; try with_reducible rfl)
    simp only [Act.put, List.getElem_toArray, List.getElem_cons_zero, List.getElem_cons_succ, List.setIfInBounds_toArray, List.set_cons_zero, List.set_cons_succ]
    refine wpAnyH_take (i := 22) (v := ?_) rfl (by kernel_rfl) (by kernel_rfl) (by kernel_rfl) (fun _ _ _ h => h) (Or.inl ⟨by rfl, ?_⟩) (by assumption) ?_
    rotate_left
    · (intro wa hSw; obtain ⟨bu, bv, bw, bx, ru, rv, rw, hb⟩ := OS.out _ hSw; have uc0 := bu.2 0 _ rfl; have uc1 := bu.2 1 _ rfl; have uc2 := bu.2 2 _ rfl; have uc3 := bu.2 3 _ rfl; have uc4 := bu.2 4 _ rfl; have vc0 := bv.2 0 _ rfl; have vc1 := bv.2 1 _ rfl; have vc2 := bv.2 2 _ rfl; have vc3 := bv.2 3 _ rfl; have vc4 := bv.2 4 _ rfl; have wc0 := bw.2 0 _ rfl; have wc1 := bw.2 1 _ rfl; have wc2 := bw.2 2 _ rfl; have wc3 := bw.2 3 _ rfl; have wc4 := bw.2 4 _ rfl; have xc0 := bx.2 0 _ rfl; have xc1 := bx.2 1 _ rfl; have xc2 := bx.2 2 _ rfl; have xc3 := bx.2 3 _ rfl; have xc4 := bx.2 4 _ rfl; have g00 := row_cell ru 0 (by omega); rw [HG0.out] at g00; go_simp; try with_reducible rfl)
    simp only [Act.put, List.getElem_toArray, List.getElem_cons_zero, List.getElem_cons_succ, List.setIfInBounds_toArray, List.set_cons_zero, List.set_cons_succ]
    refine wpAnyH_ready (rs := [23]) (by kernel_rfl) (by simp) ?_
    refine AllReadyH.cons (o := _) rfl (fun K hK => ?_) AllReadyH.nil
    go_simp
    obtain ⟨bu, bv, bw, bx, ru, rv, rw, hb⟩ := OS.out _ hHeld105
    refine (C6.out _ ru).mono ?_
    rintro e w106 ⟨rfl, b106⟩
    clear bu bv bw bx ru rv rw hb
    (try go_wp2_with fail)
    refine hK.out _ _ ?_ (fun hHeld106 => ?_)
    · exact KS.out _ _ hHeld105 b106
    clear hK K
    clear hHeld105
    refine wpAnyH_take (i := 24) (v := ?_) rfl (by kernel_rfl) (by kernel_rfl) (by kernel_rfl) (fun _ _ _ h => h) (Or.inl ⟨by rfl, ?_⟩) (by assumption) ?_
    rotate_left
    · (intro wa hSw; obtain ⟨bu, bv, bw, bx, ru, rv, rw, hb⟩ := OS.out _ hSw; have uc0 := bu.2 0 _ rfl; have uc1 := bu.2 1 _ rfl; have uc2 := bu.2 2 _ rfl; have uc3 := bu.2 3 _ rfl; have uc4 := bu.2 4 _ rfl; have vc0 := bv.2 0 _ rfl; have vc1 := bv.2 1 _ rfl; have vc2 := bv.2 2 _ rfl; have vc3 := bv.2 3 _ rfl; have vc4 := bv.2 4 _ rfl; have wc0 := bw.2 0 _ rfl; have wc1 := bw.2 1 _ rfl; have wc2 := bw.2 2 _ rfl; have wc3 := bw.2 3 _ rfl; have wc4 := bw.2 4 _ rfl; have xc0 := bx.2 0 _ rfl; have xc1 := bx.2 1 _ rfl; have xc2 := bx.2 2 _ rfl; have xc3 := bx.2 3 _ rfl; have xc4 := bx.2 4 _ rfl; have g00 := row_cell ru 0 (by omega); rw [HG0.out] at g00; go_simp; try with_reducible rfl)
    simp only [Act.put, List.getElem_toArray, List.getElem_cons_zero, List.getElem_cons_succ, List.setIfInBounds_toArray, List.set_cons_zero, List.set_cons_succ]
    refine wpAnyH_take (i := 25) (v := ?_) rfl (by kernel_rfl) (by kernel_rfl) (by kernel_rfl) (fun _ _ _ h => h) (Or.inl ⟨by rfl, ?_⟩) (by assumption) ?_
    rotate_left
    · (intro wa hSw; obtain ⟨bu, bv, bw, bx, ru, rv, rw, hb⟩ := OS.out _ hSw; have uc0 := bu.2 0 _ rfl; have uc1 := bu.2 1 _ rfl; have uc2 := bu.2 2 _ rfl; have uc3 := bu.2 3 _ rfl; have uc4 := bu.2 4 _ rfl; have vc0 := bv.2 0 _ rfl; have vc1 := bv.2 1 _ rfl; have vc2 := bv.2 2 _ rfl; have vc3 := bv.2 3 _ rfl; have vc4 := bv.2 4 _ rfl; have wc0 := bw.2 0 _ rfl; have wc1 := bw.2 1 _ rfl; have wc2 := bw.2 2 _ rfl; have wc3 := bw.2 3 _ rfl; have wc4 := bw.2 4 _ rfl; have xc0 := bx.2 0 _ rfl; have xc1 := bx.2 1 _ rfl; have xc2 := bx.2 2 _ rfl; have xc3 := bx.2 3 _ rfl; have xc4 := bx.2 4 _ rfl; have g00 := row_cell ru 0 (by omega); rw [HG0.out] at g00; go_simp; try with_reducible rfl)
    simp only [Act.put, List.getElem_toArray, List.getElem_cons_zero, List.getElem_cons_succ, List.setIfInBounds_toArray, List.set_cons_zero, List.set_cons_succ]
    refine wpAnyH_take (i := 26) (v := ?_) rfl (by kernel_rfl) (by kernel_rfl) (by kernel_rfl) (fun _ _ _ h => h) (Or.inl ⟨by rfl, ?_⟩) (by assumption) ?_
    rotate_left
    · (intro wa hSw; obtain ⟨bu, bv, bw, bx, ru, rv, rw, hb⟩ := OS.out _ hSw; have uc0 := bu.2 0 _ rfl; have uc1 := bu.2 1 _ rfl; have uc2 := bu.2 2 _ rfl; have uc3 := bu.2 3 _ rfl; have uc4 := bu.2 4 _ rfl; have vc0 := bv.2 0 _ rfl; have vc1 := bv.2 1 _ rfl; have vc2 := bv.2 2 _ rfl; have vc3 := bv.2 3 _ rfl; have vc4 := bv.2 4 _ rfl; have wc0 := bw.2 0 _ rfl; have wc1 := bw.2 1 _ rfl; have wc2 := bw.2 2 _ rfl; have wc3 := bw.2 3 _ rfl; have wc4 := bw.2 4 _ rfl; have xc0 := bx.2 0 _ rfl; have xc1 := bx.2 1 _ rfl; have xc2 := bx.2 2 _ rfl; have xc3 := bx.2 3 _ rfl; have xc4 := bx.2 4 _ rfl; have g00 := row_cell ru 0 (by omega); rw [HG0.out] at g00; go_simp; try with_reducible rfl)
    simp only [Act.put, List.getElem_toArray, List.getElem_cons_zero, List.getElem_cons_succ, List.setIfInBounds_toArray, List.set_cons_zero, List.set_cons_succ]
    refine wpAnyH_ready (rs := [27]) (by kernel_rfl) (by simp) ?_
    refine AllReadyH.cons (o := _) rfl (fun K hK => ?_) AllReadyH.nil
    go_simp
    obtain ⟨bu, bv, bw, bx, ru, rv, rw, hb⟩ := OS.out _ hHeld106
    refine (usualRules_impl _).mono ?_
    rintro e w107 ⟨vq, rfl, rq, _, b107⟩
    clear bu bv bw bx ru rv rw hb
    (try go_wp2_with fail)
    refine hK.out _ _ ?_ (fun hHeld107 => ?_)
    · exact KS.out _ _ hHeld106 b107
    clear hK K
    clear hHeld106
    refine wpAnyH_ready (rs := [28]) (by kernel_rfl) (by simp) ?_
    refine AllReadyH.cons (o := _) rfl (fun K hK => ?_) AllReadyH.nil
    go_simp
    obtain ⟨bu, bv, bw, bx, ru, rv, rw, hb⟩ := OS.out _ hHeld107
    refine (faultOf_impl 3 1 0 true vq 6 usualG _ _ usual_fault rq).mono ?_
    rintro e w108 ⟨rfl, b108⟩
    clear bu bv bw bx ru rv rw hb
    clear rq
    (try go_wp2_with fail)
    refine hK.out _ _ ?_ (fun hHeld108 => ?_)
    · exact KS.out _ _ hHeld107 b108
    clear hK K
    clear hHeld107
    refine wpAnyH_take (i := 29) (v := ?_) rfl (by kernel_rfl) (by kernel_rfl) (by kernel_rfl) (fun _ _ _ h => h) (Or.inl ⟨by rfl, ?_⟩) (by assumption) ?_
    rotate_left
    · (intro wa hSw; obtain ⟨bu, bv, bw, bx, ru, rv, rw, hb⟩ := OS.out _ hSw; have uc0 := bu.2 0 _ rfl; have uc1 := bu.2 1 _ rfl; have uc2 := bu.2 2 _ rfl; have uc3 := bu.2 3 _ rfl; have uc4 := bu.2 4 _ rfl; have vc0 := bv.2 0 _ rfl; have vc1 := bv.2 1 _ rfl; have vc2 := bv.2 2 _ rfl; have vc3 := bv.2 3 _ rfl; have vc4 := bv.2 4 _ rfl; have wc0 := bw.2 0 _ rfl; have wc1 := bw.2 1 _ rfl; have wc2 := bw.2 2 _ rfl; have wc3 := bw.2 3 _ rfl; have wc4 := bw.2 4 _ rfl; have xc0 := bx.2 0 _ rfl; have xc1 := bx.2 1 _ rfl; have xc2 := bx.2 2 _ rfl; have xc3 := bx.2 3 _ rfl; have xc4 := bx.2 4 _ rfl; have g00 := row_cell ru 0 (by omega); rw [HG0.out] at g00; go_simp; try with_reducible rfl)
    simp only [Act.put, List.getElem_toArray, List.getElem_cons_zero, List.getElem_cons_succ, List.setIfInBounds_toArray, List.set_cons_zero, List.set_cons_succ]
    refine wpAnyH_take (i := 30) (v := ?_) rfl (by kernel_rfl) (by kernel_rfl) (by kernel_rfl) (fun _ _ _ h => h) (Or.inl ⟨by rfl, ?_⟩) (by assumption) ?_
    rotate_left
    · (intro wa hSw; obtain ⟨bu, bv, bw, bx, ru, rv, rw, hb⟩ := OS.out _ hSw; have uc0 := bu.2 0 _ rfl; have uc1 := bu.2 1 _ rfl; have uc2 := bu.2 2 _ rfl; have uc3 := bu.2 3 _ rfl; have uc4 := bu.2 4 _ rfl; have vc0 := bv.2 0 _ rfl; have vc1 := bv.2 1 _ rfl; have vc2 := bv.2 2 _ rfl; have vc3 := bv.2 3 _ rfl; have vc4 := bv.2 4 _ rfl; have wc0 := bw.2 0 _ rfl; have wc1 := bw.2 1 _ rfl; have wc2 := bw.2 2 _ rfl; have wc3 := bw.2 3 _ rfl; have wc4 := bw.2 4 _ rfl; have xc0 := bx.2 0 _ rfl; have xc1 := bx.2 1 _ rfl; have xc2 := bx.2 2 _ rfl; have xc3 := bx.2 3 _ rfl; have xc4 := bx.2 4 _ rfl; have g00 := row_cell ru 0 (by omega); rw [HG0.out] at g00; go_simp; try with_reducible rfl)
    simp only [Act.put, List.getElem_toArray, List.getElem_cons_zero, List.getElem_cons_succ, List.setIfInBounds_toArray, List.set_cons_zero, List.set_cons_succ]
    refine wpAnyH_take (i := 31) (v := ?_) rfl (by kernel_rfl) (by kernel_rfl) (by kernel_rfl) (fun _ _ _ h => h) (Or.inl ⟨by rfl, ?_⟩) (by assumption) ?_
    rotate_left
    · (intro wa hSw; obtain ⟨bu, bv, bw, bx, ru, rv, rw, hb⟩ := OS.out _ hSw; have uc0 := bu.2 0 _ rfl; have uc1 := bu.2 1 _ rfl; have uc2 := bu.2 2 _ rfl; have uc3 := bu.2 3 _ rfl; have uc4 := bu.2 4 _ rfl; have vc0 := bv.2 0 _ rfl; have vc1 := bv.2 1 _ rfl; have vc2 := bv.2 2 _ rfl; have vc3 := bv.2 3 _ rfl; have vc4 := bv.2 4 _ rfl; have wc0 := bw.2 0 _ rfl; have wc1 := bw.2 1 _ rfl; have wc2 := bw.2 2 _ rfl; have wc3 := bw.2 3 _ rfl; have wc4 := bw.2 4 _ rfl; have xc0 := bx.2 0 _ rfl; have xc1 := bx.2 1 _ rfl; have xc2 := bx.2 2 _ rfl; have xc3 := bx.2 3 _ rfl; have xc4 := bx.2 4 _ rfl; have g00 := row_cell ru 0 (by omega); rw [HG0.out] at g00; go_simp; try with_reducible rfl)
    simp only [Act.put, List.getElem_toArray, List.getElem_cons_zero, List.getElem_cons_succ, List.setIfInBounds_toArray, List.set_cons_zero, List.set_cons_succ]
    refine wpAnyH_take (i := 32) (v := ?_) rfl (by kernel_rfl) (by kernel_rfl) (by kernel_rfl) (fun _ _ _ h => h) (Or.inl ⟨by rfl, ?_⟩) (by assumption) ?_
    rotate_left
    · (intro wa hSw; obtain ⟨bu, bv, bw, bx, ru, rv, rw, hb⟩ := OS.out _ hSw; have uc0 := bu.2 0 _ rfl; have uc1 := bu.2 1 _ rfl; have uc2 := bu.2 2 _ rfl; have uc3 := bu.2 3 _ rfl; have uc4 := bu.2 4 _ rfl; have vc0 := bv.2 0 _ rfl; have vc1 := bv.2 1 _ rfl; have vc2 := bv.2 2 _ rfl; have vc3 := bv.2 3 _ rfl; have vc4 := bv.2 4 _ rfl; have wc0 := bw.2 0 _ rfl; have wc1 := bw.2 1 _ rfl; have wc2 := bw.2 2 _ rfl; have wc3 := bw.2 3 _ rfl; have wc4 := bw.2 4 _ rfl; have xc0 := bx.2 0 _ rfl; have xc1 := bx.2 1 _ rfl; have xc2 := bx.2 2 _ rfl; have xc3 := bx.2 3 _ rfl; have xc4 := bx.2 4 _ rfl; have g00 := row_cell ru 0 (by omega); rw [HG0.out] at g00; go_simp; try with_reducible rfl)
    simp only [Act.put, List.getElem_toArray, List.getElem_cons_zero, List.getElem_cons_succ, List.setIfInBounds_toArray, List.set_cons_zero, List.set_cons_succ]
    refine wpAnyH_take (i := 33) (v := ?_) rfl (by kernel_rfl) (by kernel_rfl) (by kernel_rfl) (fun _ _ _ h => h) (Or.inl ⟨by rfl, ?_⟩) (by assumption) ?_
    rotate_left
    · (intro wa hSw; obtain ⟨bu, bv, bw, bx, ru, rv, rw, hb⟩ := OS.out _ hSw; have uc0 := bu.2 0 _ rfl; have uc1 := bu.2 1 _ rfl; have uc2 := bu.2 2 _ rfl; have uc3 := bu.2 3 _ rfl; have uc4 := bu.2 4 _ rfl; have vc0 := bv.2 0 _ rfl; have vc1 := bv.2 1 _ rfl; have vc2 := bv.2 2 _ rfl; have vc3 := bv.2 3 _ rfl; have vc4 := bv.2 4 _ rfl; have wc0 := bw.2 0 _ rfl; have wc1 := bw.2 1 _ rfl; have wc2 := bw.2 2 _ rfl; have wc3 := bw.2 3 _ rfl; have wc4 := bw.2 4 _ rfl; have xc0 := bx.2 0 _ rfl; have xc1 := bx.2 1 _ rfl; have xc2 := bx.2 2 _ rfl; have xc3 := bx.2 3 _ rfl; have xc4 := bx.2 4 _ rfl; have g00 := row_cell ru 0 (by omega); rw [HG0.out] at g00; go_simp; try with_reducible rfl)
    simp only [Act.put, List.getElem_toArray, List.getElem_cons_zero, List.getElem_cons_succ, List.setIfInBounds_toArray, List.set_cons_zero, List.set_cons_succ]
    refine wpAnyH_take (i := 34) (v := ?_) rfl (by kernel_rfl) (by kernel_rfl) (by kernel_rfl) (fun _ _ _ h => h) (Or.inl ⟨by rfl, ?_⟩) (by assumption) ?_
    rotate_left
    · (intro wa hSw; obtain ⟨bu, bv, bw, bx, ru, rv, rw, hb⟩ := OS.out _ hSw; have uc0 := bu.2 0 _ rfl; have uc1 := bu.2 1 _ rfl; have uc2 := bu.2 2 _ rfl; have uc3 := bu.2 3 _ rfl; have uc4 := bu.2 4 _ rfl; have vc0 := bv.2 0 _ rfl; have vc1 := bv.2 1 _ rfl; have vc2 := bv.2 2 _ rfl; have vc3 := bv.2 3 _ rfl; have vc4 := bv.2 4 _ rfl; have wc0 := bw.2 0 _ rfl; have wc1 := bw.2 1 _ rfl; have wc2 := bw.2 2 _ rfl; have wc3 := bw.2 3 _ rfl; have wc4 := bw.2 4 _ rfl; have xc0 := bx.2 0 _ rfl; have xc1 := bx.2 1 _ rfl; have xc2 := bx.2 2 _ rfl; have xc3 := bx.2 3 _ rfl; have xc4 := bx.2 4 _ rfl; have g00 := row_cell ru 0 (by omega); rw [HG0.out] at g00; go_simp; try with_reducible rfl)
    simp only [Act.put, List.getElem_toArray, List.getElem_cons_zero, List.getElem_cons_succ, List.setIfInBounds_toArray, List.set_cons_zero, List.set_cons_succ]
    refine wpAnyH_take (i := 35) (v := ?_) rfl (by kernel_rfl) (by kernel_rfl) (by kernel_rfl) (fun _ _ _ h => h) (Or.inl ⟨by rfl, ?_⟩) (by assumption) ?_
    rotate_left
    · (intro wa hSw; obtain ⟨bu, bv, bw, bx, ru, rv, rw, hb⟩ := OS.out _ hSw; have uc0 := bu.2 0 _ rfl; have uc1 := bu.2 1 _ rfl; have uc2 := bu.2 2 _ rfl; have uc3 := bu.2 3 _ rfl; have uc4 := bu.2 4 _ rfl; have vc0 := bv.2 0 _ rfl; have vc1 := bv.2 1 _ rfl; have vc2 := bv.2 2 _ rfl; have vc3 := bv.2 3 _ rfl; have vc4 := bv.2 4 _ rfl; have wc0 := bw.2 0 _ rfl; have wc1 := bw.2 1 _ rfl; have wc2 := bw.2 2 _ rfl; have wc3 := bw.2 3 _ rfl; have wc4 := bw.2 4 _ rfl; have xc0 := bx.2 0 _ rfl; have xc1 := bx.2 1 _ rfl; have xc2 := bx.2 2 _ rfl; have xc3 := bx.2 3 _ rfl; have xc4 := bx.2 4 _ rfl; have g00 := row_cell ru 0 (by omega); rw [HG0.out] at g00; go_simp; try with_reducible rfl)
    simp only [Act.put, List.getElem_toArray, List.getElem_cons_zero, List.getElem_cons_succ, List.setIfInBounds_toArray, List.set_cons_zero, List.set_cons_succ]
    refine wpAnyH_take (i := 38) (v := ?_) rfl (by kernel_rfl) (by kernel_rfl) (by kernel_rfl) (fun _ _ _ h => h) (Or.inl ⟨by rfl, ?_⟩) (by assumption) ?_
    rotate_left
    · (intro wa hSw; obtain ⟨bu, bv, bw, bx, ru, rv, rw, hb⟩ := OS.out _ hSw; have uc0 := bu.2 0 _ rfl; have uc1 := bu.2 1 _ rfl; have uc2 := bu.2 2 _ rfl; have uc3 := bu.2 3 _ rfl; have uc4 := bu.2 4 _ rfl; have vc0 := bv.2 0 _ rfl; have vc1 := bv.2 1 _ rfl; have vc2 := bv.2 2 _ rfl; have vc3 := bv.2 3 _ rfl; have vc4 := bv.2 4 _ rfl; have wc0 := bw.2 0 _ rfl; have wc1 := bw.2 1 _ rfl; have wc2 := bw.2 2 _ rfl; have wc3 := bw.2 3 _ rfl; have wc4 := bw.2 4 _ rfl; have xc0 := bx.2 0 _ rfl; have xc1 := bx.2 1 _ rfl; have xc2 := bx.2 2 _ rfl; have xc3 := bx.2 3 _ rfl; have xc4 := bx.2 4 _ rfl; have g00 := row_cell ru 0 (by omega); rw [HG0.out] at g00; go_simp; try with_reducible rfl)
    simp only [Act.put, List.getElem_toArray, List.getElem_cons_zero, List.getElem_cons_succ, List.setIfInBounds_toArray, List.set_cons_zero, List.set_cons_succ]
    refine wpAnyH_take (i := 39) (v := ?_) rfl (by kernel_rfl) (by kernel_rfl) (by kernel_rfl) (fun _ _ _ h => h) (Or.inl ⟨by rfl, ?_⟩) (by assumption) ?_
    rotate_left
    · (intro wa hSw; obtain ⟨bu, bv, bw, bx, ru, rv, rw, hb⟩ := OS.out _ hSw; have uc0 := bu.2 0 _ rfl; have uc1 := bu.2 1 _ rfl; have uc2 := bu.2 2 _ rfl; have uc3 := bu.2 3 _ rfl; have uc4 := bu.2 4 _ rfl; have vc0 := bv.2 0 _ rfl; have vc1 := bv.2 1 _ rfl; have vc2 := bv.2 2 _ rfl; have vc3 := bv.2 3 _ rfl; have vc4 := bv.2 4 _ rfl; have wc0 := bw.2 0 _ rfl; have wc1 := bw.2 1 _ rfl; have wc2 := bw.2 2 _ rfl; have wc3 := bw.2 3 _ rfl; have wc4 := bw.2 4 _ rfl; have xc0 := bx.2 0 _ rfl; have xc1 := bx.2 1 _ rfl; have xc2 := bx.2 2 _ rfl; have xc3 := bx.2 3 _ rfl; have xc4 := bx.2 4 _ rfl; have g00 := row_cell ru 0 (by omega); rw [HG0.out] at g00; go_simp; try with_reducible rfl)
    simp only [Act.put, List.getElem_toArray, List.getElem_cons_zero, List.getElem_cons_succ, List.setIfInBounds_toArray, List.set_cons_zero, List.set_cons_succ]
    refine wpAnyH_take (i := 40) (v := ?_) rfl (by kernel_rfl) (by kernel_rfl) (by kernel_rfl) (fun _ _ _ h => h) (Or.inl ⟨by rfl, ?_⟩) (by assumption) ?_
    rotate_left
    · (intro wa hSw; obtain ⟨bu, bv, bw, bx, ru, rv, rw, hb⟩ := OS.out _ hSw; have uc0 := bu.2 0 _ rfl; have uc1 := bu.2 1 _ rfl; have uc2 := bu.2 2 _ rfl; have uc3 := bu.2 3 _ rfl; have uc4 := bu.2 4 _ rfl; have vc0 := bv.2 0 _ rfl; have vc1 := bv.2 1 _ rfl; have vc2 := bv.2 2 _ rfl; have vc3 := bv.2 3 _ rfl; have vc4 := bv.2 4 _ rfl; have wc0 := bw.2 0 _ rfl; have wc1 := bw.2 1 _ rfl; have wc2 := bw.2 2 _ rfl; have wc3 := bw.2 3 _ rfl; have wc4 := bw.2 4 _ rfl; have xc0 := bx.2 0 _ rfl; have xc1 := bx.2 1 _ rfl; have xc2 := bx.2 2 _ rfl; have xc3 := bx.2 3 _ rfl; have xc4 := bx.2 4 _ rfl; have g00 := row_cell ru 0 (by omega); rw [HG0.out] at g00; go_simp; try with_reducible rfl)
    simp only [Act.put, List.getElem_toArray, List.getElem_cons_zero, List.getElem_cons_succ, List.setIfInBounds_toArray, List.set_cons_zero, List.set_cons_succ]
    refine wpAnyH_take (i := 41) (v := ?_) rfl (by kernel_rfl) (by kernel_rfl) (by kernel_rfl) (fun _ _ _ h => h) (Or.inl ⟨by rfl, ?_⟩) (by assumption) ?_
    rotate_left
    · (intro wa hSw; obtain ⟨bu, bv, bw, bx, ru, rv, rw, hb⟩ := OS.out _ hSw; have uc0 := bu.2 0 _ rfl; have uc1 := bu.2 1 _ rfl; have uc2 := bu.2 2 _ rfl; have uc3 := bu.2 3 _ rfl; have uc4 := bu.2 4 _ rfl; have vc0 := bv.2 0 _ rfl; have vc1 := bv.2 1 _ rfl; have vc2 := bv.2 2 _ rfl; have vc3 := bv.2 3 _ rfl; have vc4 := bv.2 4 _ rfl; have wc0 := bw.2 0 _ rfl; have wc1 := bw.2 1 _ rfl; have wc2 := bw.2 2 _ rfl; have wc3 := bw.2 3 _ rfl; have wc4 := bw.2 4 _ rfl; have xc0 := bx.2 0 _ rfl; have xc1 := bx.2 1 _ rfl; have xc2 := bx.2 2 _ rfl; have xc3 := bx.2 3 _ rfl; have xc4 := bx.2 4 _ rfl; have g00 := row_cell ru 0 (by omega); rw [HG0.out] at g00; go_simp; try with_reducible rfl)
    simp only [Act.put, List.getElem_toArray, List.getElem_cons_zero, List.getElem_cons_succ, List.setIfInBounds_toArray, List.set_cons_zero, List.set_cons_succ]
    refine wpAnyH_ready (rs := [36]) (by kernel_rfl) (by simp) ?_
    refine AllReadyH.cons (o := _) rfl (fun K hK => ?_) AllReadyH.nil
    go_simp
    obtain ⟨bu, bv, bw, bx, ru, rv, rw, hb⟩ := OS.out _ hHeld108
    refine (C9.out _).mono ?_
    rintro e w109 ⟨rfl, b109⟩
    clear bu bv bw bx ru rv rw hb
    (try go_wp2_with fail)
    refine hK.out _ _ ?_ (fun hHeld109 => ?_)
    · exact KS.out _ _ hHeld108 b109
    clear hK K
    clear hHeld108
    refine wpAnyH_ready (rs := [37]) (by kernel_rfl) (by simp) ?_
    refine AllReadyH.cons (o := _) rfl (fun K hK => ?_) AllReadyH.nil
    go_simp
    obtain ⟨bu, bv, bw, bx, ru, rv, rw, hb⟩ := OS.out _ hHeld109
    refine (C10.out _).mono ?_
    rintro e w110 ⟨rfl, b110⟩
    clear bu bv bw bx ru rv rw hb
    (try go_wp2_with fail)
    refine hK.out _ _ ?_ (fun hHeld110 => ?_)
    · exact KS.out _ _ hHeld109 b110
    clear hK K
    clear hHeld109
    refine wpAnyH_take (i := 42) (v := ?_) rfl (by kernel_rfl) (by kernel_rfl) (by kernel_rfl) (fun _ _ _ h => h) (Or.inl ⟨by rfl, ?_⟩) (by assumption) ?_
    rotate_left
    · (intro wa hSw; obtain ⟨bu, bv, bw, bx, ru, rv, rw, hb⟩ := OS.out _ hSw; have uc0 := bu.2 0 _ rfl; have uc1 := bu.2 1 _ rfl; have uc2 := bu.2 2 _ rfl; have uc3 := bu.2 3 _ rfl; have uc4 := bu.2 4 _ rfl; have vc0 := bv.2 0 _ rfl; have vc1 := bv.2 1 _ rfl; have vc2 := bv.2 2 _ rfl; have vc3 := bv.2 3 _ rfl; have vc4 := bv.2 4 _ rfl; have wc0 := bw.2 0 _ rfl; have wc1 := bw.2 1 _ rfl; have wc2 := bw.2 2 _ rfl; have wc3 := bw.2 3 _ rfl; have wc4 := bw.2 4 _ rfl; have xc0 := bx.2 0 _ rfl; have xc1 := bx.2 1 _ rfl; have xc2 := bx.2 2 _ rfl; have xc3 := bx.2 3 _ rfl; have xc4 := bx.2 4 _ rfl; have g00 := row_cell ru 0 (by omega); rw [HG0.out] at g00; go_simp; try with_reducible rfl)
    simp only [Act.put, List.getElem_toArray, List.getElem_cons_zero, List.getElem_cons_succ, List.setIfInBounds_toArray, List.set_cons_zero, List.set_cons_succ]
    refine wpAnyH_take (i := 43) (v := ?_) rfl (by kernel_rfl) (by kernel_rfl) (by kernel_rfl) (fun _ _ _ h => h) (Or.inl ⟨by rfl, ?_⟩) (by assumption) ?_
    rotate_left
    · (intro wa hSw; obtain ⟨bu, bv, bw, bx, ru, rv, rw, hb⟩ := OS.out _ hSw; have uc0 := bu.2 0 _ rfl; have uc1 := bu.2 1 _ rfl; have uc2 := bu.2 2 _ rfl; have uc3 := bu.2 3 _ rfl; have uc4 := bu.2 4 _ rfl; have vc0 := bv.2 0 _ rfl; have vc1 := bv.2 1 _ rfl; have vc2 := bv.2 2 _ rfl; have vc3 := bv.2 3 _ rfl; have vc4 := bv.2 4 _ rfl; have wc0 := bw.2 0 _ rfl; have wc1 := bw.2 1 _ rfl; have wc2 := bw.2 2 _ rfl; have wc3 := bw.2 3 _ rfl; have wc4 := bw.2 4 _ rfl; have xc0 := bx.2 0 _ rfl; have xc1 := bx.2 1 _ rfl; have xc2 := bx.2 2 _ rfl; have xc3 := bx.2 3 _ rfl; have xc4 := bx.2 4 _ rfl; have g00 := row_cell ru 0 (by omega); rw [HG0.out] at g00; go_simp; try with_reducible rfl)
    simp only [Act.put, List.getElem_toArray, List.getElem_cons_zero, List.getElem_cons_succ, List.setIfInBounds_toArray, List.set_cons_zero, List.set_cons_succ]
    refine wpAnyH_take (i := 44) (v := ?_) rfl (by kernel_rfl) (by kernel_rfl) (by kernel_rfl) (fun _ _ _ h => h) (Or.inl ⟨by rfl, ?_⟩) (by assumption) ?_
    rotate_left
    · (intro wa hSw; obtain ⟨bu, bv, bw, bx, ru, rv, rw, hb⟩ := OS.out _ hSw; have uc0 := bu.2 0 _ rfl; have uc1 := bu.2 1 _ rfl; have uc2 := bu.2 2 _ rfl; have uc3 := bu.2 3 _ rfl; have uc4 := bu.2 4 _ rfl; have vc0 := bv.2 0 _ rfl; have vc1 := bv.2 1 _ rfl; have vc2 := bv.2 2 _ rfl; have vc3 := bv.2 3 _ rfl; have vc4 := bv.2 4 _ rfl; have wc0 := bw.2 0 _ rfl; have wc1 := bw.2 1 _ rfl; have wc2 := bw.2 2 _ rfl; have wc3 := bw.2 3 _ rfl; have wc4 := bw.2 4 _ rfl; have xc0 := bx.2 0 _ rfl; have xc1 := bx.2 1 _ rfl; have xc2 := bx.2 2 _ rfl; have xc3 := bx.2 3 _ rfl; have xc4 := bx.2 4 _ rfl; have g00 := row_cell ru 0 (by omega); rw [HG0.out] at g00; go_simp; try with_reducible rfl)
    simp only [Act.put, List.getElem_toArray, List.getElem_cons_zero, List.getElem_cons_succ, List.setIfInBounds_toArray, List.set_cons_zero, List.set_cons_succ]
    refine wpAnyH_take (i := 45) (v := ?_) rfl (by kernel_rfl) (by kernel_rfl) (by kernel_rfl) (fun _ _ _ h => h) (Or.inl ⟨by rfl, ?_⟩) (by assumption) ?_
    rotate_left
    · (intro wa hSw; obtain ⟨bu, bv, bw, bx, ru, rv, rw, hb⟩ := OS.out _ hSw; have uc0 := bu.2 0 _ rfl; have uc1 := bu.2 1 _ rfl; have uc2 := bu.2 2 _ rfl; have uc3 := bu.2 3 _ rfl; have uc4 := bu.2 4 _ rfl; have vc0 := bv.2 0 _ rfl; have vc1 := bv.2 1 _ rfl; have vc2 := bv.2 2 _ rfl; have vc3 := bv.2 3 _ rfl; have vc4 := bv.2 4 _ rfl; have wc0 := bw.2 0 _ rfl; have wc1 := bw.2 1 _ rfl; have wc2 := bw.2 2 _ rfl; have wc3 := bw.2 3 _ rfl; have wc4 := bw.2 4 _ rfl; have xc0 := bx.2 0 _ rfl; have xc1 := bx.2 1 _ rfl; have xc2 := bx.2 2 _ rfl; have xc3 := bx.2 3 _ rfl; have xc4 := bx.2 4 _ rfl; have g00 := row_cell ru 0 (by omega); rw [HG0.out] at g00; go_simp; try with_reducible rfl)
    simp only [Act.put, List.getElem_toArray, List.getElem_cons_zero, List.getElem_cons_succ, List.setIfInBounds_toArray, List.set_cons_zero, List.set_cons_succ]
    refine wpAnyH_take (i := 46) (v := ?_) rfl (by kernel_rfl) (by kernel_rfl) (by kernel_rfl) (fun _ _ _ h => h) (Or.inl ⟨by rfl, ?_⟩) (by assumption) ?_
    rotate_left
    · (intro wa hSw; obtain ⟨bu, bv, bw, bx, ru, rv, rw, hb⟩ := OS.out _ hSw; have uc0 := bu.2 0 _ rfl; have uc1 := bu.2 1 _ rfl; have uc2 := bu.2 2 _ rfl; have uc3 := bu.2 3 _ rfl; have uc4 := bu.2 4 _ rfl; have vc0 := bv.2 0 _ rfl; have vc1 := bv.2 1 _ rfl; have vc2 := bv.2 2 _ rfl; have vc3 := bv.2 3 _ rfl; have vc4 := bv.2 4 _ rfl; have wc0 := bw.2 0 _ rfl; have wc1 := bw.2 1 _ rfl; have wc2 := bw.2 2 _ rfl; have wc3 := bw.2 3 _ rfl; have wc4 := bw.2 4 _ rfl; have xc0 := bx.2 0 _ rfl; have xc1 := bx.2 1 _ rfl; have xc2 := bx.2 2 _ rfl; have xc3 := bx.2 3 _ rfl; have xc4 := bx.2 4 _ rfl; have g00 := row_cell ru 0 (by omega); rw [HG0.out] at g00; go_simp; try with_reducible rfl)
    simp only [Act.put, List.getElem_toArray, List.getElem_cons_zero, List.getElem_cons_succ, List.setIfInBounds_toArray, List.set_cons_zero, List.set_cons_succ]
    refine wpAnyH_ready (rs := [47]) (by kernel_rfl) (by simp) ?_
    refine AllReadyH.cons (o := _) rfl (fun K hK => ?_) AllReadyH.nil
    go_simp
    obtain ⟨bu, bv, bw, bx, ru, rv, rw, hb⟩ := OS.out _ hHeld110
    refine (C11.out _ ru rv).mono ?_
    rintro e w111 ⟨rfl, b111⟩
    clear bu bv bw bx ru rv rw hb
    (try go_wp2_with fail)
    refine hK.out _ _ ?_ (fun hHeld111 => ?_)
    · exact KS.out _ _ hHeld110 b111
    clear hK K
    clear hHeld110
    refine wpAnyH_take (i := 48) (v := ?_) rfl (by kernel_rfl) (by kernel_rfl) (by kernel_rfl) (fun _ _ _ h => h) (Or.inl ⟨by rfl, ?_⟩) (by assumption) ?_
    rotate_left
    · (intro wa hSw; obtain ⟨bu, bv, bw, bx, ru, rv, rw, hb⟩ := OS.out _ hSw; have uc0 := bu.2 0 _ rfl; have uc1 := bu.2 1 _ rfl; have uc2 := bu.2 2 _ rfl; have uc3 := bu.2 3 _ rfl; have uc4 := bu.2 4 _ rfl; have vc0 := bv.2 0 _ rfl; have vc1 := bv.2 1 _ rfl; have vc2 := bv.2 2 _ rfl; have vc3 := bv.2 3 _ rfl; have vc4 := bv.2 4 _ rfl; have wc0 := bw.2 0 _ rfl; have wc1 := bw.2 1 _ rfl; have wc2 := bw.2 2 _ rfl; have wc3 := bw.2 3 _ rfl; have wc4 := bw.2 4 _ rfl; have xc0 := bx.2 0 _ rfl; have xc1 := bx.2 1 _ rfl; have xc2 := bx.2 2 _ rfl; have xc3 := bx.2 3 _ rfl; have xc4 := bx.2 4 _ rfl; have g00 := row_cell ru 0 (by omega); rw [HG0.out] at g00; go_simp; try with_reducible rfl)
    simp only [Act.put, List.getElem_toArray, List.getElem_cons_zero, List.getElem_cons_succ, List.setIfInBounds_toArray, List.set_cons_zero, List.set_cons_succ]
    refine wpAnyH_take (i := 49) (v := ?_) rfl (by kernel_rfl) (by kernel_rfl) (by kernel_rfl) (fun _ _ _ h => h) (Or.inl ⟨by rfl, ?_⟩) (by assumption) ?_
    rotate_left
    · (intro wa hSw; obtain ⟨bu, bv, bw, bx, ru, rv, rw, hb⟩ := OS.out _ hSw; have uc0 := bu.2 0 _ rfl; have uc1 := bu.2 1 _ rfl; have uc2 := bu.2 2 _ rfl; have uc3 := bu.2 3 _ rfl; have uc4 := bu.2 4 _ rfl; have vc0 := bv.2 0 _ rfl; have vc1 := bv.2 1 _ rfl; have vc2 := bv.2 2 _ rfl; have vc3 := bv.2 3 _ rfl; have vc4 := bv.2 4 _ rfl; have wc0 := bw.2 0 _ rfl; have wc1 := bw.2 1 _ rfl; have wc2 := bw.2 2 _ rfl; have wc3 := bw.2 3 _ rfl; have wc4 := bw.2 4 _ rfl; have xc0 := bx.2 0 _ rfl; have xc1 := bx.2 1 _ rfl; have xc2 := bx.2 2 _ rfl; have xc3 := bx.2 3 _ rfl; have xc4 := bx.2 4 _ rfl; have g00 := row_cell ru 0 (by omega); rw [HG0.out] at g00; go_simp; try with_reducible rfl)
    simp only [Act.put, List.getElem_toArray, List.getElem_cons_zero, List.getElem_cons_succ, List.setIfInBounds_toArray, List.set_cons_zero, List.set_cons_succ]
    refine wpAnyH_take (i := 50) (v := ?_) rfl (by kernel_rfl) (by kernel_rfl) (by kernel_rfl) (fun _ _ _ h => h) (Or.inl ⟨by rfl, ?_⟩) (by assumption) ?_
    rotate_left
    · (intro wa hSw; obtain ⟨bu, bv, bw, bx, ru, rv, rw, hb⟩ := OS.out _ hSw; have uc0 := bu.2 0 _ rfl; have uc1 := bu.2 1 _ rfl; have uc2 := bu.2 2 _ rfl; have uc3 := bu.2 3 _ rfl; have uc4 := bu.2 4 _ rfl; have vc0 := bv.2 0 _ rfl; have vc1 := bv.2 1 _ rfl; have vc2 := bv.2 2 _ rfl; have vc3 := bv.2 3 _ rfl; have vc4 := bv.2 4 _ rfl; have wc0 := bw.2 0 _ rfl; have wc1 := bw.2 1 _ rfl; have wc2 := bw.2 2 _ rfl; have wc3 := bw.2 3 _ rfl; have wc4 := bw.2 4 _ rfl; have xc0 := bx.2 0 _ rfl; have xc1 := bx.2 1 _ rfl; have xc2 := bx.2 2 _ rfl; have xc3 := bx.2 3 _ rfl; have xc4 := bx.2 4 _ rfl; have g00 := row_cell ru 0 (by omega); rw [HG0.out] at g00; go_simp; try with_reducible rfl)
    simp only [Act.put, List.getElem_toArray, List.getElem_cons_zero, List.getElem_cons_succ, List.setIfInBounds_toArray, List.set_cons_zero, List.set_cons_succ]
    refine wpAnyH_done (by kernel_rfl) ?_ _
    obtain ⟨bu, bv, bw, bx, ru, rv, rw, hb⟩ := OS.out _ hHeld111
    clear KS OS hHeld hHeld111

    go_wp2
    go_ret
    exact ⟨rfl, hb⟩

set_option maxRecDepth 100000 in
theorem lifted (os : Os) (started : os.Started) (H : Type) (enc : TypeId × Value → H) :
    ReturnsInHanded {} Try.checked os 3 .any (Rows.fnRulesSpec.pre6 enc Try.prog Try.f3 Rows.fnRulesRow.domain false) (Rows.fnRulesSpec.post enc Try.prog Try.f3 false true false false) := by
  refine returnsInHanded_of_change (C := Try.checked) own started (by kernel_rfl) Try.func3
    (ChangeSpec.witness6 (enc := enc) (C := Try.checked) false ⟨#[], #[.slice none 0 0], []⟩ 8 (by kernel_rfl) (by kernel_rfl) (by kernel_rfl) (by kernel_rfl)) ?_
  intro W base args ds gs before hval0 hW hcnd _
  have hval : ∀ (j : Nat) t v, Try.f3.params[j]? = some t → args[j]? = some v → Value.okWide Try.prog W .any base t v := hval0
  have hW' := hW
  obtain ⟨p, q, hA0, hV, rfl, hfz, hnd⟩ := hW
  have hA : DataW.TrodAll enc Try.prog W 0 (fun _ => true) true Try.f3.params.toList args.toList ds p := hA0
  rw [Try.params3] at hA hval
  obtain ⟨v0, vs0, d0, ds0, p0, q0, hargs, rfl, rfl, h0, r0⟩ := trodAll_cons hA
  obtain ⟨rfl, rfl, rfl⟩ := trodAll_nil r0
  obtain rfl : args = #[v0] := by cases args; simp_all
  obtain ⟨rfl, rfl⟩ := trodVars_none hV
  have k0 := h0
  have lt0 : ∀ x ∈ p0, x.block < W.heap.size := by obtain ⟨m, hm⟩ := k0; exact DataW.trod_lt m _ _ _ hm
  obtain ⟨a0, len0, cap0, rfl⟩ := okWide_slice Try.underlying22 (hval 0 22 v0 rfl rfl)
  obtain ⟨z0, w0⟩ : ∃ zs, IsRow .u8 W a0 len0 cap0 zs := by
    obtain ⟨fuel, hf⟩ := h0
    rcases open_ints Try.underlying22 Try.underlying5 (by kernel_rfl) hf with ⟨hcs, _⟩ | ⟨x, l, c, zs, hcs, _, hl, hm, hz, _, hcell, hwz⟩
    · simp [Value.cells] at hcs
      obtain ⟨rfl, rfl, rfl⟩ := hcs
      exact ⟨[], .inl ⟨rfl, rfl, rfl, rfl⟩⟩
    · simp [Value.cells] at hcs
      obtain ⟨rfl, rfl, rfl⟩ := hcs
      exact ⟨zs, .inr ⟨_, rfl, hl, hm, by simpa using hz, hcell, hwz⟩⟩
  clear hA0 hval0
  simp only [List.append_nil] at hW'
  refine (walk a0 len0 cap0 z0 W w0).mono fun e W' ⟨he, bel⟩ => ?_
  subst he
  exact ⟨_, rfl, _, _, _, [], _, [], hW', trodAll_mk1 (shut_bool Try.underlying4 _), (trodAll_cons_mk (Below.trod laidOut (by kernel_rfl) (of_decide_eq_true (by kernel_rfl)) k0 bel lt0) trodAll_mk0), rfl, bel.frame _, fun h => by cases h⟩

theorem over : Rows.fnRulesRow.holds Try.pinned (OpenSpec.ofChange Rows.fnRulesSpec) :=
  OpenClaim.holds_of_wide 3 Try.f3 rfl rfl rfl rfl rfl rfl rfl ⟨rfl, rfl, rfl, rfl, rfl⟩ rfl rfl rfl rfl rfl (by kernel_rfl) Try.func3 (by kernel_rfl)
    (of_decide_eq_true (by kernel_rfl)) (by unfold Func.isWrapper; first | (rw [if_pos (by decide +kernel)]; kernel_rfl) | (rw [if_neg (by decide +kernel)]; exact ⟨rfl, rfl⟩))
    (fun os started H enc _ => lifted os started H enc)

theorem proved : Rows.FnRulesSaid := over
end Go.Proofs.Ytcfolfjpimolaaa.fnRules
