/-
  The law FnRanked holds for every argument: the program answers as the model does.
-/
import Derived.Test.YtakbolkdbpehoaaGreatRows
import Derived.WalkKit
import Derived.ProofKit
import Derived.OpenShut
import Derived.ShutString
import Derived.ChangeOld
import Derived.Below
import Derived.Lib.Hide
import Derived.Deep.AppendLies
import Derived.Deep.RegionHeld3
import Derived.Test.YtakbolkdbpehoaaGreatQ1
import Derived.Test.YtakbolkdbpehoaaGreatQ3
import Derived.Test.YtakbolkdbpehoaaGreatQ11
import Derived.Test.YtakbolkdbpehoaaGreatQ19
namespace Go.Proofs.YtakbolkdbpehoaaGreat.fnRanked
open Go.ChangeShapes Go.WideShapes Go.ChangeAt Go.RowKit
open Go.ChangeMaps (open_string shut_string)
set_option linter.unusedVariables false

theorem own : ownKnob Tryz.prog.godebug = none := by kernel_rfl
theorem laidOut : laidOutB Tryz.prog = true := by kernel_rfl

set_option maxRecDepth 100000 in
set_option maxHeartbeats 4000000 in
theorem walk (a : Option Addr) (len cap : Nat) (zs : List Int) (w : World) (hr : IsRow .u8 w a len cap zs) :
    Calls Tryz.prog 3 #[.slice a len cap] w fun e w' => e = .returned (.bool true) ∧ Below w.heap.size w w' := by
  obtain ⟨i0, hi, hz0, hz1, hz2⟩ := info_parts Tryz.infoGame
  obtain ⟨hrow, hsm, hfit⟩ := hr.bytes
  clear hr
  generalize getN zs = g at *
  by_cases hl : 1048576 < len
  · have g0 : decide ((1048576 : Int) < (len : Int)) = true := decide_eq_true (by omega)
    clear hrow hsm
    go_enter Tryz.func3, Tryz.ntmps3
    go_wp2
    go_ret
    exact ⟨rfl, Below.refl _ _⟩
  have g0 : decide ((1048576 : Int) < (len : Int)) = false := decide_eq_false (by omega)
  have hle : len ≤ 1048576 := by omega
  have CM := Lib.hid (madeBook a len cap g w hrow hsm hle)
  have CO : Hid (∀ (m : Nat) wa, ByteRow wa a len g → 1 ≤ m → m ≤ 90 → Calls Tryz.prog 16 #[.slice a len cap, .int .i64 (m : Int)] wa (OrderMade m wa)) := fun m wa h h1 h2 => makeOrder_any a len cap g m wa h hsm hle h1 h2
  have HROW := Lib.hid hrow
  clear hrow hsm
  go_enter Tryz.func3, Tryz.ntmps3
  go_wp2_with fail
  refine CM.out.mono ?_
  rintro e w1 ⟨b, fa, fc, la, lc, ga, gc, qa, qc, ta, tc, hmade, rfl, hrow1, b1⟩
  have HM := Lib.hid hmade
  have hn := hmade.nf
  have hm := hmade.m
  have hsix := hrow1.sixty
  have K1 := Lib.hid (BkAt.made hrow1 29)
  have B1 := Lib.hid b1
  clear hmade hrow1 b1 CM
  obtain ⟨O, hO⟩ : ∃ O, ordB b = O := ⟨_, rfl⟩
  have HOl : Hid (O.length = b.nf) := by rw [← hO]; exact ord_len b
  have HOi : Hid (∀ t ∈ O, 0 ≤ t ∧ t < b.nf) := by rw [← hO]; exact fun t ht => ord_in ht
  have CRk : Hid (∀ wa, BookRow wa (.slice fa b.nf fc) (.slice la b.nl lc) (.slice ga b.m gc) (.slice qa b.nfa qc) (.slice ta b.nta tc) b → Calls Tryz.prog 10 #[.agg #[.slice fa b.nf fc, .int .i64 b.win, .int .i64 b.draw, .int .i64 b.loss, .slice la b.nl lc, .bool b.again, .slice ga b.m gc, .slice qa b.nfa qc, .slice ta b.nta tc]] wa (IntsL wa O)) := fun wa h => by
    have h2 := ranking_impl _ _ _ _ _ b true wa ⟨fun _ => HM.out.book, fun _ => rfl⟩ h HM.out.names (by omega)
    rw [if_pos rfl, HM.out.ranking, hO] at h2
    exact h2
  have CBk : Hid (∀ wa, BookRow wa (.slice fa b.nf fc) (.slice la b.nl lc) (.slice ga b.m gc) (.slice qa b.nfa qc) (.slice ta b.nta tc) b → Calls Tryz.prog 11 #[.agg #[.slice fa b.nf fc, .int .i64 b.win, .int .i64 b.draw, .int .i64 b.loss, .slice la b.nl lc, .bool b.again, .slice ga b.m gc, .slice qa b.nfa qc, .slice ta b.nta tc]] wa fun e w' => e = .returned (.bool true) ∧ Below wa.heap.size wa w') := fun wa h => bookOk_impl _ _ _ _ _ b true wa ⟨fun _ => HM.out.book, fun _ => rfl⟩ h HM.out.names
  have COr : Hid (∀ v wa, IntRow wa v b.nf (getI O) → Calls Tryz.prog 12 #[.int .i64 b.nf, v] wa fun e w' => e = .returned (.bool true) ∧ Below wa.heap.size wa w') := fun v wa h => isOrder_impl (b.nf : Int) b.nf (getI O) true v wa ⟨fun _ => by rw [← hO]; exact HM.out.order, fun _ => rfl⟩ h
  have CGr : Hid (∀ wa, BookRow wa (.slice fa b.nf fc) (.slice la b.nl lc) (.slice ga b.m gc) (.slice qa b.nfa qc) (.slice ta b.nta tc) b → Calls Tryz.prog 13 #[.agg #[.slice fa b.nf fc, .int .i64 b.win, .int .i64 b.draw, .int .i64 b.loss, .slice la b.nl lc, .bool b.again, .slice ga b.m gc, .slice qa b.nfa qc, .slice ta b.nta tc]] wa fun e w' => ∃ x y, e = .returned (.slice x b.nf y) ∧ Below wa.heap.size wa w') := fun wa h => by
    have h2 := rankGroups_impl _ _ _ _ _ b true wa ⟨fun _ => HM.out.book, fun _ => rfl⟩ h HM.out.names (by omega)
    rw [if_pos rfl] at h2
    refine h2.mono fun e w' ⟨v, T, he, hT, hl, hb⟩ => ?_
    have hTl : T.length = b.nf := by rw [← HM.out.groups, ← hT, List.length_map]
    obtain ⟨x, y, hv⟩ := owns_form hl.1
    rw [hTl] at hv
    exact ⟨x, y, he.trans (by rw [hv]), hb⟩
  have CRo : Hid (∀ (t z : Int) wa, BookRow wa (.slice fa b.nf fc) (.slice la b.nl lc) (.slice ga b.m gc) (.slice qa b.nfa qc) (.slice ta b.nta tc) b → (∃ i : Nat, O[i]? = some t ∧ z = (i : Int) + 1) → Calls Tryz.prog 14 #[.agg #[.slice fa b.nf fc, .int .i64 b.win, .int .i64 b.draw, .int .i64 b.loss, .slice la b.nl lc, .bool b.again, .slice ga b.m gc, .slice qa b.nfa qc, .slice ta b.nta tc], .int .i64 t] wa fun e w' => e = .returned (.int .i64 z) ∧ Below wa.heap.size wa w') := fun t z wa h ⟨i, h1, h2⟩ => by
    have h3 := rankOf_impl _ _ _ _ _ b t true wa ⟨fun _ => HM.out.book, fun _ => rfl⟩ h HM.out.names (by omega)
    rw [if_pos rfl, HM.out.rank (by rw [hO]; exact h1), ← h2] at h3
    exact h3
  have CKv : Hid (∀ (t : Int) wa, BookRow wa (.slice fa b.nf fc) (.slice la b.nl lc) (.slice ga b.m gc) (.slice qa b.nfa qc) (.slice ta b.nta tc) b → t ∈ O → Calls Tryz.prog 15 #[.agg #[.slice fa b.nf fc, .int .i64 b.win, .int .i64 b.draw, .int .i64 b.loss, .slice la b.nl lc, .bool b.again, .slice ga b.m gc, .slice qa b.nfa qc, .slice ta b.nta tc], .int .i64 1, .int .i64 t, .slice none 0 0] wa fun e w' => e = .returned (.int .i64 (bookV b 1 (fun _ => 0) 0 t.toNat)) ∧ Below wa.heap.size wa w') := fun t wa h ht => by
    have hin := HOi.out t ht
    have h3 := keyValue_impl _ _ _ _ _ b 1 t (.slice none 0 0) 0 (fun _ => 0) true wa ⟨fun _ => ⟨HM.out.book, hin.1, by omega⟩, fun _ => rfl⟩ h HM.out.names (.inl ⟨_, _, rfl, rfl⟩)
    rw [if_pos rfl] at h3
    exact h3
  have HPt : Hid (∀ (i : Nat) t u, O[i]? = some t → O[i + 1]? = some u → bookV b 1 (fun _ => 0) 0 u.toNat ≤ bookV b 1 (fun _ => 0) 0 t.toNat) := fun i t u h1 h2 => HM.out.points (i := i + 1) (by omega) (by rw [hO]; exact h1) (by rw [hO]; exact h2)
  have CRx : Hid (∀ P va vc wa, permL b.m P → BookRow wa (.slice fa b.nf fc) (.slice la b.nl lc) (.slice va b.m vc) (.slice qa b.nfa qc) (.slice ta b.nta tc) (withG b (orderG b P)) → Calls Tryz.prog 10 #[.agg #[.slice fa b.nf fc, .int .i64 b.win, .int .i64 b.draw, .int .i64 b.loss, .slice la b.nl lc, .bool b.again, .slice va b.m vc, .slice qa b.nfa qc, .slice ta b.nta tc]] wa (IntsL wa O)) := fun P va vc wa hP h => by
    obtain ⟨h1, _, h3⟩ := HM.out.other (order_perm hP)
    have h2 := ranking_impl _ _ _ _ _ (withG b (orderG b P)) true wa ⟨fun _ => h1, fun _ => rfl⟩ h HM.out.names (show b.nf ≤ 1048576 by omega)
    rw [if_pos rfl] at h2
    have h4 : orderL (rankP (withG b (orderG b P)) (allL (withG b (orderG b P)).nf) 0) = O := h3.trans hO
    rw [h4] at h2
    exact h2
  clear hO
  obtain ⟨d0, d1, d2, d3, d4, d5, d6, d7, d8⟩ := K1.out.cells
  go_wp2_with fail
  refine (CRk.out _ K1.out.row).mono ?_
  rintro e w2 ⟨ov, rfl, hoo, b2⟩
  obtain ⟨oa, oc, hof⟩ := owns_form hoo
  subst hof
  have hor := IntRow.of_list hoo (by have := HOl.out; omega)
  rw [HOl.out] at hor ⊢
  have OR2 := Lib.hid hor
  have K2 := Lib.hid (K1.out.next b2)
  clear d0 d1 d2 d3 d4 d5 d6 d7 d8 K1 hoo hor b2 CRk
  obtain ⟨d0, d1, d2, d3, d4, d5, d6, d7, d8⟩ := K2.out.cells
  go_wp2_with fail
  refine (CBk.out _ K2.out.row).mono ?_
  rintro e w3 ⟨rfl, b3⟩
  have K3 := Lib.hid (K2.out.next b3)
  have OR3 := Lib.hid (OR2.out.below b3 (Nat.le_refl _))
  have B3 := Lib.hid b3
  clear d0 d1 d2 d3 d4 d5 d6 d7 d8 CBk b3
  go_wp2_with fail
  refine (COr.out _ _ OR3.out).mono ?_
  rintro e w4 ⟨rfl, b4⟩
  have K4 := Lib.hid (K3.out.next b4)
  have OR4 := Lib.hid (OR3.out.below b4 (Nat.le_refl _))
  have B4 := Lib.hid (B3.out.trans (b4.mono B3.out.size))
  clear COr K3 OR3 B3 b4
  obtain ⟨d0, d1, d2, d3, d4, d5, d6, d7, d8⟩ := K4.out.cells
  go_wp2_with fail
  refine (CGr.out _ K4.out.row).mono ?_
  rintro e w5 ⟨gx, gy, rfl, b5⟩
  have K5 := Lib.hid (K4.out.next b5)
  have OR5 := Lib.hid (OR4.out.below b5 (Nat.le_refl _))
  have B5 := Lib.hid (B4.out.trans (b5.mono B4.out.size))
  clear d0 d1 d2 d3 d4 d5 d6 d7 d8 CGr K4 OR4 B4 b5 K2 OR2
  go_wp2
  go_loopw [42] (fun iv wr => ∃ i : Nat, i ≤ b.nf ∧ iv = .int .i64 i ∧ Hid (BkAt w1 wr w1.heap.size fa fc la lc ga gc qa qc ta tc b) ∧ Hid (IntRow wr (.slice oa b.nf oc) b.nf (getI O)) ∧ Hid (Below w2.heap.size w2 wr)) (fun iv _ => b.nf - (RowKit.intOf iv).toNat)
  case atStart => exact ⟨0, Nat.zero_le _, rfl, K5, OR5, B5⟩
  case round =>
    clear K5 OR5 B5
    obtain ⟨i, hi9, rfl, KB, OR, HB2⟩ := hrel
    by_cases hlt : i < b.nf
    · skip
      obtain ⟨ob, oo, rfl, hcap, q0⟩ := int_at OR.out hlt
      obtain ⟨y, hy⟩ : ∃ y, O[i]? = some y := ⟨_, at_getI (by have := HOl.out; omega)⟩
      rw [getI_at hy] at q0
      have HY : Hid (y ∈ O) := List.mem_of_getElem? hy
      have HS0 := Lib.hid (And.intro KB.out (And.intro OR.out HB2.out))
      clear KB OR HB2
      cases i with
      | zero =>
        rw [Nat.add_zero] at q0
        have HRo : Hid (∃ i : Nat, O[i]? = some y ∧ (0 : Int) + 1 = (i : Int) + 1) := ⟨0, hy, rfl⟩
        have s1 : IntKind.i64.wrap ((0 : Int) + 1) = 0 + 1 := by decide
        have hlt0 : (0 : Int) < (b.nf : Int) := by omega
        clear hy
        obtain ⟨S, HSd⟩ : ∃ S : World → Prop, S = fun w' => BkAt w1 w' w1.heap.size fa fc la lc ga gc qa qc ta tc b ∧ IntRow w' (.slice (some ⟨ob, oo, none⟩) b.nf oc) b.nf (getI O) ∧ Below w2.heap.size w2 w' := ⟨_, rfl⟩
        have KS : Hid (∀ wa wb, S wa → Below wa.heap.size wa wb → S wb) := by subst HSd; exact fun wa wb h bb => ⟨h.1.next bb, h.2.1.below bb (Nat.le_refl _), h.2.2.trans (bb.mono h.2.2.size)⟩
        have OS : Hid (∀ wa, S wa → BkAt w1 wa w1.heap.size fa fc la lc ga gc qa qc ta tc b ∧ IntRow wa (.slice (some ⟨ob, oo, none⟩) b.nf oc) b.nf (getI O) ∧ Below w2.heap.size w2 wa) := by subst HSd; exact fun wa h => h
        have IS : Hid (∀ wa, BkAt w1 wa w1.heap.size fa fc la lc ga gc qa qc ta tc b ∧ IntRow wa (.slice (some ⟨ob, oo, none⟩) b.nf oc) b.nf (getI O) ∧ Below w2.heap.size w2 wa → S wa) := by subst HSd; exact fun wa h => h
        clear HSd
        go_wp2_with fail
        refine wp_region_held_drew (S := S) (by kernel_rfl) ?_ (fun hHeld => ?_)
        · exact IS.out _ ((fun (h : BkAt w1 wr w1.heap.size fa fc la lc ga gc qa qc ta tc b ∧ IntRow wr (.slice (some ⟨ob, oo, none⟩) b.nf oc) b.nf (getI O) ∧ Below w2.heap.size w2 wr) (bb : Below wr.heap.size wr _) => ⟨h.1.next bb, h.2.1.below bb (Nat.le_refl _), h.2.2.trans (bb.mono h.2.2.size)⟩) HS0.out (Below.refl _ _).drew)
        refine wpAnyH_take (i := 0) (v := ?_) rfl (by kernel_rfl) (by kernel_rfl) (by kernel_rfl) (fun _ _ _ h => h) (Or.inl ⟨by rfl, ?_⟩) hHeld ?_
        rotate_left
        · (intro wa hSw; have K := OS.out _ hSw; obtain ⟨d0, d1, d2, d3, d4, d5, d6, d7, d8⟩ := K.1.cells; go_simp; try with_reducible rfl)
        simp only [Act.put, List.getElem_toArray, List.getElem_cons_zero, List.setIfInBounds_toArray, List.set_cons_zero, List.set_cons_succ]
        refine wpAnyH_take (i := 1) (v := ?_) rfl (by kernel_rfl) (by kernel_rfl) (by kernel_rfl) (fun _ _ _ h => h) (Or.inl ⟨by rfl, ?_⟩) hHeld ?_
        rotate_left
        · (intro wa hSw; go_simp; try with_reducible rfl)
        simp only [Act.put, List.getElem_toArray, List.getElem_cons_zero, List.getElem_cons_succ, List.setIfInBounds_toArray, List.set_cons_zero, List.set_cons_succ]
        refine wpAnyH_take (i := 3) (v := ?_) rfl (by kernel_rfl) (by kernel_rfl) (by kernel_rfl) (fun _ _ _ h => h) (Or.inl ⟨by rfl, ?_⟩) hHeld ?_
        rotate_left
        · (intro wa hSw; go_simp; try with_reducible rfl)
        simp only [Act.put, List.getElem_toArray, List.getElem_cons_zero, List.getElem_cons_succ, List.setIfInBounds_toArray, List.set_cons_zero, List.set_cons_succ]
        refine wpAnyH_take (i := 4) (v := ?_) rfl (by kernel_rfl) (by kernel_rfl) (by kernel_rfl) (fun _ _ _ h => h) (Or.inl ⟨by rfl, ?_⟩) hHeld ?_
        rotate_left
        · (intro wa hSw; go_simp; try with_reducible rfl)
        simp only [Act.put, List.getElem_toArray, List.getElem_cons_zero, List.getElem_cons_succ, List.setIfInBounds_toArray, List.set_cons_zero, List.set_cons_succ]
        refine wpAnyH_ready (rs := [2]) (by kernel_rfl) (by simp) ?_
        refine AllReadyH.cons (o := _) rfl (fun K hK => ?_) AllReadyH.nil
        go_simp
        have KK := OS.out _ hHeld
        refine (CRo.out y (0 + 1) _ KK.1.row HRo.out).mono ?_
        rintro e w101 ⟨rfl, b101⟩
        clear KK
        (try go_wp2_with fail)
        refine hK.out _ _ ?_ (fun hHeld101 => ?_)
        · exact KS.out _ _ hHeld b101
        clear hK K
        refine wpAnyH_take (i := 5) (v := ?_) rfl (by kernel_rfl) (by kernel_rfl) (by kernel_rfl) (fun _ _ _ h => h) (Or.inl ⟨by rfl, ?_⟩) hHeld101 ?_
        rotate_left
        · (intro wa hSw; go_simp; try with_reducible rfl)
        simp only [Act.put, List.getElem_toArray, List.getElem_cons_zero, List.getElem_cons_succ, List.setIfInBounds_toArray, List.set_cons_zero, List.set_cons_succ]
        refine wpAnyH_take (i := 6) (v := ?_) rfl (by kernel_rfl) (by kernel_rfl) (by kernel_rfl) (fun _ _ _ h => h) (Or.inl ⟨by rfl, ?_⟩) hHeld101 ?_
        rotate_left
        · (intro wa hSw; go_simp; try with_reducible rfl)
        simp only [Act.put, List.getElem_toArray, List.getElem_cons_zero, List.getElem_cons_succ, List.setIfInBounds_toArray, List.set_cons_zero, List.set_cons_succ]
        refine wpAnyH_take (i := 7) (v := ?_) rfl (by kernel_rfl) (by kernel_rfl) (by kernel_rfl) (fun _ _ _ h => h) (Or.inl ⟨by rfl, ?_⟩) hHeld101 ?_
        rotate_left
        · (intro wa hSw; go_simp; try with_reducible rfl)
        simp only [Act.put, List.getElem_toArray, List.getElem_cons_zero, List.getElem_cons_succ, List.setIfInBounds_toArray, List.set_cons_zero, List.set_cons_succ]
        refine wpAnyH_take (i := 8) (v := ?_) rfl (by kernel_rfl) (by kernel_rfl) (by kernel_rfl) (fun _ _ _ h => h) (Or.inl ⟨by rfl, ?_⟩) hHeld101 ?_
        rotate_left
        · (intro wa hSw; go_simp; try with_reducible rfl)
        simp only [Act.put, List.getElem_toArray, List.getElem_cons_zero, List.getElem_cons_succ, List.setIfInBounds_toArray, List.set_cons_zero, List.set_cons_succ]
        refine wpAnyH_take (i := 9) (v := ?_) rfl (by kernel_rfl) (by kernel_rfl) (by kernel_rfl) (fun _ _ _ h => h) (Or.inl ⟨by rfl, ?_⟩) hHeld101 ?_
        rotate_left
        · (intro wa hSw; go_simp; try with_reducible rfl)
        simp only [Act.put, List.getElem_toArray, List.getElem_cons_zero, List.getElem_cons_succ, List.setIfInBounds_toArray, List.set_cons_zero, List.set_cons_succ]
        refine wpAnyH_take (i := 10) (v := undef) rfl (by kernel_rfl) (by kernel_rfl) (by kernel_rfl) (fun _ _ _ h => h) (Or.inr ⟨by rfl, rfl⟩) hHeld101 ?_
        simp only [Act.put, List.getElem_toArray, List.getElem_cons_zero, List.getElem_cons_succ, List.setIfInBounds_toArray, List.set_cons_zero, List.set_cons_succ]
        refine wpAnyH_take (i := 11) (v := undef) rfl (by kernel_rfl) (by kernel_rfl) (by kernel_rfl) (fun _ _ _ h => h) (Or.inr ⟨by rfl, rfl⟩) hHeld101 ?_
        simp only [Act.put, List.getElem_toArray, List.getElem_cons_zero, List.getElem_cons_succ, List.setIfInBounds_toArray, List.set_cons_zero, List.set_cons_succ]
        refine wpAnyH_take (i := 12) (v := undef) rfl (by kernel_rfl) (by kernel_rfl) (by kernel_rfl) (fun _ _ _ h => h) (Or.inr ⟨by rfl, rfl⟩) hHeld101 ?_
        simp only [Act.put, List.getElem_toArray, List.getElem_cons_zero, List.getElem_cons_succ, List.setIfInBounds_toArray, List.set_cons_zero, List.set_cons_succ]
        refine wpAnyH_take (i := 13) (v := undef) rfl (by kernel_rfl) (by kernel_rfl) (by kernel_rfl) (fun _ _ _ h => h) (Or.inr ⟨by rfl, rfl⟩) hHeld101 ?_
        simp only [Act.put, List.getElem_toArray, List.getElem_cons_zero, List.getElem_cons_succ, List.setIfInBounds_toArray, List.set_cons_zero, List.set_cons_succ]
        refine wpAnyH_take (i := 14) (v := undef) rfl (by kernel_rfl) (by kernel_rfl) (by kernel_rfl) (fun _ _ _ h => h) (Or.inr ⟨by rfl, rfl⟩) hHeld101 ?_
        simp only [Act.put, List.getElem_toArray, List.getElem_cons_zero, List.getElem_cons_succ, List.setIfInBounds_toArray, List.set_cons_zero, List.set_cons_succ]
        refine wpAnyH_take (i := 15) (v := undef) rfl (by kernel_rfl) (by kernel_rfl) (by kernel_rfl) (fun _ _ _ h => h) (Or.inr ⟨by rfl, rfl⟩) hHeld101 ?_
        simp only [Act.put, List.getElem_toArray, List.getElem_cons_zero, List.getElem_cons_succ, List.setIfInBounds_toArray, List.set_cons_zero, List.set_cons_succ]
        refine wpAnyH_take (i := 17) (v := undef) rfl (by kernel_rfl) (by kernel_rfl) (by kernel_rfl) (fun _ _ _ h => h) (Or.inr ⟨by rfl, rfl⟩) hHeld101 ?_
        simp only [Act.put, List.getElem_toArray, List.getElem_cons_zero, List.getElem_cons_succ, List.setIfInBounds_toArray, List.set_cons_zero, List.set_cons_succ]
        refine wpAnyH_take (i := 18) (v := undef) rfl (by kernel_rfl) (by kernel_rfl) (by kernel_rfl) (fun _ _ _ h => h) (Or.inr ⟨by rfl, rfl⟩) hHeld101 ?_
        simp only [Act.put, List.getElem_toArray, List.getElem_cons_zero, List.getElem_cons_succ, List.setIfInBounds_toArray, List.set_cons_zero, List.set_cons_succ]
        refine wpAnyH_take (i := 16) (v := undef) rfl (by kernel_rfl) (by kernel_rfl) (by kernel_rfl) (fun _ _ _ h => h) (Or.inr ⟨by rfl, rfl⟩) hHeld101 ?_
        simp only [Act.put, List.getElem_toArray, List.getElem_cons_zero, List.getElem_cons_succ, List.setIfInBounds_toArray, List.set_cons_zero, List.set_cons_succ]
        refine wpAnyH_take (i := 19) (v := undef) rfl (by kernel_rfl) (by kernel_rfl) (by kernel_rfl) (fun _ _ _ h => h) (Or.inr ⟨by rfl, rfl⟩) hHeld101 ?_
        simp only [Act.put, List.getElem_toArray, List.getElem_cons_zero, List.getElem_cons_succ, List.setIfInBounds_toArray, List.set_cons_zero, List.set_cons_succ]
        refine wpAnyH_take (i := 20) (v := undef) rfl (by kernel_rfl) (by kernel_rfl) (by kernel_rfl) (fun _ _ _ h => h) (Or.inr ⟨by rfl, rfl⟩) hHeld101 ?_
        simp only [Act.put, List.getElem_toArray, List.getElem_cons_zero, List.getElem_cons_succ, List.setIfInBounds_toArray, List.set_cons_zero, List.set_cons_succ]
        refine wpAnyH_take (i := 21) (v := ?_) rfl (by kernel_rfl) (by kernel_rfl) (by kernel_rfl) (fun _ _ _ h => h) (Or.inl ⟨by rfl, ?_⟩) hHeld101 ?_
        rotate_left
        · (intro wa hSw; go_simp; try with_reducible rfl)
        simp only [Act.put, List.getElem_toArray, List.getElem_cons_zero, List.getElem_cons_succ, List.setIfInBounds_toArray, List.set_cons_zero, List.set_cons_succ]
        refine wpAnyH_take (i := 22) (v := ?_) rfl (by kernel_rfl) (by kernel_rfl) (by kernel_rfl) (fun _ _ _ h => h) (Or.inl ⟨by rfl, ?_⟩) hHeld101 ?_
        rotate_left
        · (intro wa hSw; go_simp; try with_reducible rfl)
        simp only [Act.put, List.getElem_toArray, List.getElem_cons_zero, List.getElem_cons_succ, List.setIfInBounds_toArray, List.set_cons_zero, List.set_cons_succ]
        refine wpAnyH_done (by kernel_rfl) ?_ _
        have KE := Lib.hid (OS.out _ hHeld101)
        clear KS OS IS hHeld hHeld101
        have HE := Lib.hid KE.out
        clear KE
        go_wp2
        go_roundw
        case rel => exact ⟨1, by omega, by go_num, HE.out.1, HE.out.2.1, HE.out.2.2⟩
        case measure => simp [RowKit.intOf]; omega
      | succ j =>
        obtain ⟨x, hx⟩ : ∃ x, O[j]? = some x := ⟨_, at_getI (by have := HOl.out; omega)⟩
        have HX : Hid (x ∈ O) := List.mem_of_getElem? hx
        have HJ := Lib.hid (getI_at hx)
        have HRo : Hid (∃ i : Nat, O[i]? = some y ∧ (j : Int) + 1 + 1 = (i : Int) + 1) := ⟨j + 1, hy, by omega⟩
        have hpts := HPt.out j x y hx hy
        have g7 : decide (bookV b 1 (fun _ => 0) 0 x.toNat < bookV b 1 (fun _ => 0) 0 y.toNat) = false := decide_eq_false (by omega)
        generalize hvx : bookV b 1 (fun _ => 0) 0 x.toNat = vx at g7
        generalize hvy : bookV b 1 (fun _ => 0) 0 y.toNat = vy at g7
        have CKx : Hid (∀ wa, BookRow wa (.slice fa b.nf fc) (.slice la b.nl lc) (.slice ga b.m gc) (.slice qa b.nfa qc) (.slice ta b.nta tc) b → Calls Tryz.prog 15 #[.agg #[.slice fa b.nf fc, .int .i64 b.win, .int .i64 b.draw, .int .i64 b.loss, .slice la b.nl lc, .bool b.again, .slice ga b.m gc, .slice qa b.nfa qc, .slice ta b.nta tc], .int .i64 1, .int .i64 x, .slice none 0 0] wa fun e w' => e = .returned (.int .i64 vx) ∧ Below wa.heap.size wa w') := fun wa h => by rw [← hvx]; exact CKv.out x wa h HX.out
        have CKy : Hid (∀ wa, BookRow wa (.slice fa b.nf fc) (.slice la b.nl lc) (.slice ga b.m gc) (.slice qa b.nfa qc) (.slice ta b.nta tc) b → Calls Tryz.prog 15 #[.agg #[.slice fa b.nf fc, .int .i64 b.win, .int .i64 b.draw, .int .i64 b.loss, .slice la b.nl lc, .bool b.again, .slice ga b.m gc, .slice qa b.nfa qc, .slice ta b.nta tc], .int .i64 1, .int .i64 y, .slice none 0 0] wa fun e w' => e = .returned (.int .i64 vy) ∧ Below wa.heap.size wa w') := fun wa h => by rw [← hvy]; exact CKv.out y wa h HY.out
        clear hpts hvx hvy
        have s1 : IntKind.i64.wrap ((j : Int) + 1 + 1) = (j : Int) + 1 + 1 := IntWalk.i64_in _ (by omega)
        have s2 : IntKind.i64.wrap ((j : Int)) = (j : Int) := IntWalk.i64_in _ (by omega)
        have s3 : (j : Int) + 1 - 1 = (j : Int) := by omega
        have g8 : decide ((0 : Int) < (j : Int) + 1) = true := decide_eq_true (by omega)
        have hj1 : (j : Int) < (b.nf : Int) := by omega
        have hj2 : (j : Int) + 1 < (b.nf : Int) := by omega
        have hj0 : (0 : Int) ≤ (j : Int) := by omega
        clear hx hy
        obtain ⟨S, HSd⟩ : ∃ S : World → Prop, S = fun w' => BkAt w1 w' w1.heap.size fa fc la lc ga gc qa qc ta tc b ∧ IntRow w' (.slice (some ⟨ob, oo, none⟩) b.nf oc) b.nf (getI O) ∧ Below w2.heap.size w2 w' := ⟨_, rfl⟩
        have KS : Hid (∀ wa wb, S wa → Below wa.heap.size wa wb → S wb) := by subst HSd; exact fun wa wb h bb => ⟨h.1.next bb, h.2.1.below bb (Nat.le_refl _), h.2.2.trans (bb.mono h.2.2.size)⟩
        have OS : Hid (∀ wa, S wa → BkAt w1 wa w1.heap.size fa fc la lc ga gc qa qc ta tc b ∧ IntRow wa (.slice (some ⟨ob, oo, none⟩) b.nf oc) b.nf (getI O) ∧ Below w2.heap.size w2 wa) := by subst HSd; exact fun wa h => h
        have IS : Hid (∀ wa, BkAt w1 wa w1.heap.size fa fc la lc ga gc qa qc ta tc b ∧ IntRow wa (.slice (some ⟨ob, oo, none⟩) b.nf oc) b.nf (getI O) ∧ Below w2.heap.size w2 wa → S wa) := by subst HSd; exact fun wa h => h
        clear HSd
        go_wp2_with fail
        refine wp_region_held_drew (S := S) (by kernel_rfl) ?_ (fun hHeld => ?_)
        · exact IS.out _ ((fun (h : BkAt w1 wr w1.heap.size fa fc la lc ga gc qa qc ta tc b ∧ IntRow wr (.slice (some ⟨ob, oo, none⟩) b.nf oc) b.nf (getI O) ∧ Below w2.heap.size w2 wr) (bb : Below wr.heap.size wr _) => ⟨h.1.next bb, h.2.1.below bb (Nat.le_refl _), h.2.2.trans (bb.mono h.2.2.size)⟩) HS0.out (Below.refl _ _).drew)
        refine wpAnyH_take (i := 0) (v := ?_) rfl (by kernel_rfl) (by kernel_rfl) (by kernel_rfl) (fun _ _ _ h => h) (Or.inl ⟨by rfl, ?_⟩) hHeld ?_
        rotate_left
        · (intro wa hSw; have K := OS.out _ hSw; obtain ⟨d0, d1, d2, d3, d4, d5, d6, d7, d8⟩ := K.1.cells; go_simp; try with_reducible rfl)
        simp only [Act.put, List.getElem_toArray, List.getElem_cons_zero, List.setIfInBounds_toArray, List.set_cons_zero, List.set_cons_succ]
        refine wpAnyH_take (i := 1) (v := ?_) rfl (by kernel_rfl) (by kernel_rfl) (by kernel_rfl) (fun _ _ _ h => h) (Or.inl ⟨by rfl, ?_⟩) hHeld ?_
        rotate_left
        · (intro wa hSw; go_simp; try with_reducible rfl)
        simp only [Act.put, List.getElem_toArray, List.getElem_cons_zero, List.getElem_cons_succ, List.setIfInBounds_toArray, List.set_cons_zero, List.set_cons_succ]
        refine wpAnyH_take (i := 3) (v := ?_) rfl (by kernel_rfl) (by kernel_rfl) (by kernel_rfl) (fun _ _ _ h => h) (Or.inl ⟨by rfl, ?_⟩) hHeld ?_
        rotate_left
        · (intro wa hSw; go_simp; try with_reducible rfl)
        simp only [Act.put, List.getElem_toArray, List.getElem_cons_zero, List.getElem_cons_succ, List.setIfInBounds_toArray, List.set_cons_zero, List.set_cons_succ]
        refine wpAnyH_take (i := 4) (v := ?_) rfl (by kernel_rfl) (by kernel_rfl) (by kernel_rfl) (fun _ _ _ h => h) (Or.inl ⟨by rfl, ?_⟩) hHeld ?_
        rotate_left
        · (intro wa hSw; go_simp; try with_reducible rfl)
        simp only [Act.put, List.getElem_toArray, List.getElem_cons_zero, List.getElem_cons_succ, List.setIfInBounds_toArray, List.set_cons_zero, List.set_cons_succ]
        refine wpAnyH_ready (rs := [2]) (by kernel_rfl) (by simp) ?_
        refine AllReadyH.cons (o := _) rfl (fun K hK => ?_) AllReadyH.nil
        go_simp
        have KK := OS.out _ hHeld
        refine (CRo.out y ((j : Int) + 1 + 1) _ KK.1.row HRo.out).mono ?_
        rintro e w101 ⟨rfl, b101⟩
        clear KK
        (try go_wp2_with fail)
        refine hK.out _ _ ?_ (fun hHeld101 => ?_)
        · exact KS.out _ _ hHeld b101
        clear hK K
        refine wpAnyH_take (i := 5) (v := ?_) rfl (by kernel_rfl) (by kernel_rfl) (by kernel_rfl) (fun _ _ _ h => h) (Or.inl ⟨by rfl, ?_⟩) hHeld101 ?_
        rotate_left
        · (intro wa hSw; go_simp; try with_reducible rfl)
        simp only [Act.put, List.getElem_toArray, List.getElem_cons_zero, List.getElem_cons_succ, List.setIfInBounds_toArray, List.set_cons_zero, List.set_cons_succ]
        refine wpAnyH_take (i := 6) (v := ?_) rfl (by kernel_rfl) (by kernel_rfl) (by kernel_rfl) (fun _ _ _ h => h) (Or.inl ⟨by rfl, ?_⟩) hHeld101 ?_
        rotate_left
        · (intro wa hSw; go_simp; try with_reducible rfl)
        simp only [Act.put, List.getElem_toArray, List.getElem_cons_zero, List.getElem_cons_succ, List.setIfInBounds_toArray, List.set_cons_zero, List.set_cons_succ]
        refine wpAnyH_take (i := 7) (v := ?_) rfl (by kernel_rfl) (by kernel_rfl) (by kernel_rfl) (fun _ _ _ h => h) (Or.inl ⟨by rfl, ?_⟩) hHeld101 ?_
        rotate_left
        · (intro wa hSw; go_simp; try with_reducible rfl)
        simp only [Act.put, List.getElem_toArray, List.getElem_cons_zero, List.getElem_cons_succ, List.setIfInBounds_toArray, List.set_cons_zero, List.set_cons_succ]
        refine wpAnyH_take (i := 8) (v := ?_) rfl (by kernel_rfl) (by kernel_rfl) (by kernel_rfl) (fun _ _ _ h => h) (Or.inl ⟨by rfl, ?_⟩) hHeld101 ?_
        rotate_left
        · (intro wa hSw; go_simp; try with_reducible rfl)
        simp only [Act.put, List.getElem_toArray, List.getElem_cons_zero, List.getElem_cons_succ, List.setIfInBounds_toArray, List.set_cons_zero, List.set_cons_succ]
        refine wpAnyH_take (i := 9) (v := ?_) rfl (by kernel_rfl) (by kernel_rfl) (by kernel_rfl) (fun _ _ _ h => h) (Or.inl ⟨by rfl, ?_⟩) hHeld101 ?_
        rotate_left
        · (intro wa hSw; go_simp; try with_reducible rfl)
        simp only [Act.put, List.getElem_toArray, List.getElem_cons_zero, List.getElem_cons_succ, List.setIfInBounds_toArray, List.set_cons_zero, List.set_cons_succ]
        refine wpAnyH_take (i := 10) (v := ?_) rfl (by kernel_rfl) (by kernel_rfl) (by kernel_rfl) (fun _ _ _ h => h) (Or.inl ⟨by rfl, ?_⟩) hHeld101 ?_
        rotate_left
        · (intro wa hSw; have K := OS.out _ hSw; obtain ⟨d0, d1, d2, d3, d4, d5, d6, d7, d8⟩ := K.1.cells; go_simp; try with_reducible rfl)
        simp only [Act.put, List.getElem_toArray, List.getElem_cons_zero, List.getElem_cons_succ, List.setIfInBounds_toArray, List.set_cons_zero, List.set_cons_succ]
        refine wpAnyH_take (i := 11) (v := ?_) rfl (by kernel_rfl) (by kernel_rfl) (by kernel_rfl) (fun _ _ _ h => h) (Or.inl ⟨by rfl, ?_⟩) hHeld101 ?_
        rotate_left
        · (intro wa hSw; go_simp; try with_reducible rfl)
        simp only [Act.put, List.getElem_toArray, List.getElem_cons_zero, List.getElem_cons_succ, List.setIfInBounds_toArray, List.set_cons_zero, List.set_cons_succ]
        refine wpAnyH_take (i := 12) (v := ?_) rfl (by kernel_rfl) (by kernel_rfl) (by kernel_rfl) (fun _ _ _ h => h) (Or.inl ⟨by rfl, ?_⟩) hHeld101 ?_
        rotate_left
        · (intro wa hSw; go_simp; try with_reducible rfl)
        simp only [Act.put, List.getElem_toArray, List.getElem_cons_zero, List.getElem_cons_succ, List.setIfInBounds_toArray, List.set_cons_zero, List.set_cons_succ]
        refine wpAnyH_take (i := 13) (v := ?_) rfl (by kernel_rfl) (by kernel_rfl) (by kernel_rfl) (fun _ _ _ h => h) (Or.inl ⟨by rfl, ?_⟩) hHeld101 ?_
        rotate_left
        · (intro wa hSw; go_simp; try with_reducible rfl)
        simp only [Act.put, List.getElem_toArray, List.getElem_cons_zero, List.getElem_cons_succ, List.setIfInBounds_toArray, List.set_cons_zero, List.set_cons_succ]
        refine wpAnyH_take (i := 14) (v := ?_) rfl (by kernel_rfl) (by kernel_rfl) (by kernel_rfl) (fun _ _ _ h => h) (Or.inl ⟨by rfl, ?_⟩) hHeld101 ?_
        rotate_left
        · (intro wa hSw; go_simp; try with_reducible rfl)
        simp only [Act.put, List.getElem_toArray, List.getElem_cons_zero, List.getElem_cons_succ, List.setIfInBounds_toArray, List.set_cons_zero, List.set_cons_succ]
        refine wpAnyH_take (i := 15) (v := ?_) rfl (by kernel_rfl) (by kernel_rfl) (by kernel_rfl) (fun _ _ _ h => h) (Or.inl ⟨by rfl, ?_⟩) hHeld101 ?_
        rotate_left
        · (intro wa hSw; have K := OS.out _ hSw; obtain ⟨_, _, he9, _, q9⟩ := int_at K.2.1 (show j < b.nf by omega); simp only [Option.some.injEq, Addr.mk.injEq, and_true] at he9; obtain ⟨rfl, rfl⟩ := he9; rw [HJ.out] at q9; go_simp; try with_reducible rfl)
        simp only [Act.put, List.getElem_toArray, List.getElem_cons_zero, List.getElem_cons_succ, List.setIfInBounds_toArray, List.set_cons_zero, List.set_cons_succ]
        refine wpAnyH_take (i := 17) (v := ?_) rfl (by kernel_rfl) (by kernel_rfl) (by kernel_rfl) (fun _ _ _ h => h) (Or.inl ⟨by rfl, ?_⟩) hHeld101 ?_
        rotate_left
        · (intro wa hSw; have K := OS.out _ hSw; obtain ⟨d0, d1, d2, d3, d4, d5, d6, d7, d8⟩ := K.1.cells; go_simp; try with_reducible rfl)
        simp only [Act.put, List.getElem_toArray, List.getElem_cons_zero, List.getElem_cons_succ, List.setIfInBounds_toArray, List.set_cons_zero, List.set_cons_succ]
        refine wpAnyH_take (i := 18) (v := ?_) rfl (by kernel_rfl) (by kernel_rfl) (by kernel_rfl) (fun _ _ _ h => h) (Or.inl ⟨by rfl, ?_⟩) hHeld101 ?_
        rotate_left
        · (intro wa hSw; go_simp; try with_reducible rfl)
        simp only [Act.put, List.getElem_toArray, List.getElem_cons_zero, List.getElem_cons_succ, List.setIfInBounds_toArray, List.set_cons_zero, List.set_cons_succ]
        refine wpAnyH_ready (rs := [16]) (by kernel_rfl) (by simp) ?_
        refine AllReadyH.cons (o := _) rfl (fun K hK => ?_) AllReadyH.nil
        go_simp
        have KK := OS.out _ hHeld101
        refine (CKx.out _ KK.1.row).mono ?_
        rintro e w102 ⟨rfl, b102⟩
        clear KK
        (try go_wp2_with fail)
        refine hK.out _ _ ?_ (fun hHeld102 => ?_)
        · exact KS.out _ _ hHeld101 b102
        clear hK K
        clear hHeld101
        refine wpAnyH_ready (rs := [19]) (by kernel_rfl) (by simp) ?_
        refine AllReadyH.cons (o := _) rfl (fun K hK => ?_) AllReadyH.nil
        go_simp
        have KK := OS.out _ hHeld102
        refine (CKy.out _ KK.1.row).mono ?_
        rintro e w103 ⟨rfl, b103⟩
        clear KK
        (try go_wp2_with fail)
        refine hK.out _ _ ?_ (fun hHeld103 => ?_)
        · exact KS.out _ _ hHeld102 b103
        clear hK K
        clear hHeld102
        refine wpAnyH_take (i := 20) (v := ?_) rfl (by kernel_rfl) (by kernel_rfl) (by kernel_rfl) (fun _ _ _ h => h) (Or.inl ⟨by rfl, ?_⟩) hHeld103 ?_
        rotate_left
        · (intro wa hSw; go_simp; try with_reducible rfl)
        simp only [Act.put, List.getElem_toArray, List.getElem_cons_zero, List.getElem_cons_succ, List.setIfInBounds_toArray, List.set_cons_zero, List.set_cons_succ]
        refine wpAnyH_take (i := 21) (v := ?_) rfl (by kernel_rfl) (by kernel_rfl) (by kernel_rfl) (fun _ _ _ h => h) (Or.inl ⟨by rfl, ?_⟩) hHeld103 ?_
        rotate_left
        · (intro wa hSw; go_simp; try with_reducible rfl)
        simp only [Act.put, List.getElem_toArray, List.getElem_cons_zero, List.getElem_cons_succ, List.setIfInBounds_toArray, List.set_cons_zero, List.set_cons_succ]
        refine wpAnyH_take (i := 22) (v := ?_) rfl (by kernel_rfl) (by kernel_rfl) (by kernel_rfl) (fun _ _ _ h => h) (Or.inl ⟨by rfl, ?_⟩) hHeld103 ?_
        rotate_left
        · (intro wa hSw; go_simp; try with_reducible rfl)
        simp only [Act.put, List.getElem_toArray, List.getElem_cons_zero, List.getElem_cons_succ, List.setIfInBounds_toArray, List.set_cons_zero, List.set_cons_succ]
        refine wpAnyH_done (by kernel_rfl) ?_ _
        have KE := Lib.hid (OS.out _ hHeld103)
        clear KS OS IS hHeld hHeld103
        have HE := Lib.hid KE.out
        clear KE
        go_wp2
        go_roundw
        case rel => exact ⟨j + 1 + 1, by omega, by go_num, HE.out.1, HE.out.2.1, HE.out.2.2⟩
        case measure => simp [RowKit.intOf]; omega
    obtain rfl : i = b.nf := by omega
    clear CRo CKv HPt HB2
    have hal := (Below.refl wr.heap.size wr).alloc (Nat.le_refl _) (.cells #[.slice fa b.nf fc, .int .i64 b.win, .int .i64 b.draw, .int .i64 b.loss, .slice la b.nl lc, .bool b.again, .slice none 0 0, .slice qa b.nfa qc, .slice ta b.nta tc] 29)
    have KA := Lib.hid (KB.out.next hal)
    have ORA := Lib.hid (OR.out.below hal (Nat.le_refl _))
    have BFA : Hid (BoxF (wr.alloc (.cells #[.slice fa b.nf fc, .int .i64 b.win, .int .i64 b.draw, .int .i64 b.loss, .slice la b.nl lc, .bool b.again, .slice none 0 0, .slice qa b.nfa qc, .slice ta b.nta tc] 29)) wr.heap.size [.slice fa b.nf fc, .int .i64 b.win, .int .i64 b.draw, .int .i64 b.loss, .slice la b.nl lc, .bool b.again, .slice none 0 0, .slice qa b.nfa qc, .slice ta b.nta tc]) := BoxF.made (Below.refl _ _) rfl
    have OI : Hid (0 < b.nf → InW 0 wr.heap.size (.slice oa b.nf oc)) := fun h0 => InW.nat OR.out h0 (Nat.le_refl _)
    have RA := Lib.hid (HROW.out.below (B1.out.trans (KA.out.bel.mono B1.out.size)) (Nat.le_refl _))
    have hDne : w1.heap.size < wr.heap.size := KB.out.box.1
    obtain ⟨d0, d1, d2, d3, d4, d5, d6, d7, d8⟩ := KB.out.cells
    have e6 := KA.out.box.2 6 _ rfl
    have hal9 := hal.size
    clear hal
    go_wp2_with fail
    refine (CO.out b.m _ RA.out (by omega) (by omega)).mono ?_
    rintro e w6 ⟨pv, P, rfl, hp, hpo, b6⟩
    obtain ⟨pa, pc, hpf⟩ := owns_form hpo
    subst hpf
    have HP := Lib.hid hp
    have hPl := hp.1
    have hpr := IntRow.of_list (L := P) (by rw [hPl]; exact hpo) (by omega)
    rw [hPl] at hpr
    have PR := Lib.hid hpr
    have hs6 := b6.size
    have PI : Hid (0 < b.m → InW (wr.heap.size + 1) w6.heap.size (.slice pa b.m pc)) := fun _ q hq => by
      have h1 := hpo.lt q hq
      simp at h1
      exact ⟨by omega, h1.2⟩
    have K6 := Lib.hid (KA.out.next b6)
    have OR6 := Lib.hid (ORA.out.below b6 (Nat.le_refl _))
    have BF6 := Lib.hid (BFA.out.below b6)
    have hD6 : wr.heap.size < w6.heap.size := by simp at hs6; omega
    have HPL := Lib.hid hPl
    clear d0 d1 d2 d3 d4 d5 d6 d7 d8 e6 hp hpo b6 hPl hpr KA ORA BFA RA CO KB OR hs6 hal9
    generalize hD : wr.heap.size = D at *
    clear hD
    have HD6 := Lib.hid hD6
    have hpos6 : w1.heap.size ≤ w6.heap.size := by omega
    have KXof : Hid (∀ wx, Touch D (D + 1) w6 wx → BkAt w1 wx w1.heap.size fa fc la lc ga gc qa qc ta tc b) := fun wx T => ⟨K6.out.box.touch T (.inl hDne), K6.out.row0, K6.out.bel.trans (T.below (by omega) hpos6)⟩
    have ON6 := Lib.hid (World.ownsRow_nil w6 w6.heap.size 40 5)
    go_wp2
    go_loopw [79] (fun iv wx => ∃ (k : Nat) (va : Option Addr) (vc : Nat), k ≤ b.m ∧ iv = .int .i64 k ∧ Hid (BoxF wx D [.slice fa b.nf fc, .int .i64 b.win, .int .i64 b.draw, .int .i64 b.loss, .slice la b.nl lc, .bool b.again, .slice va k vc, .slice qa b.nfa qc, .slice ta b.nta tc]) ∧ Hid (wx.ownsRow w6.heap.size 40 5 (.slice va k vc) k (gcells (orderG b (P.take k)))) ∧ Hid (Touch D (D + 1) w6 wx)) (fun iv _ => b.m - (RowKit.intOf iv).toNat)
    case atStart => exact ⟨0, none, 0, Nat.zero_le _, rfl, BF6, ON6, Touch.refl _ _ _⟩
    case round =>
    clear BF6 ON6
    obtain ⟨k, va, vc, hk, rfl, BF, OG, TX⟩ := hrel
    have KX := Lib.hid (KXof.out _ TX.out)
    by_cases hlt : k < b.m
    · obtain ⟨p, hp⟩ : ∃ p, P[k]? = some p := ⟨_, List.getElem?_eq_getElem (by have := HPL.out; omega)⟩
      obtain ⟨pb, po, rfl, hpc, cp⟩ := int_at (PR.out.touch TX.out PI.out (.inr (Nat.le_refl _))) hlt
      rw [getI_at hp] at cp
      have hpr := HP.out.2.1 p (List.mem_of_getElem? hp)
      obtain ⟨q, rfl⟩ : ∃ q : Nat, p = q := ⟨p.toNat, by omega⟩
      have hqn : q < b.m := by omega
      have hqi : (q : Int) < b.m := by omega
      have hki : (k : Int) < b.m := by omega
      have HTK : Hid (orderG b (P.take (k + 1)) = orderG b (P.take k) ++ [b.g q]) := order_take hp
      obtain ⟨aa, cap', he, _, hcr⟩ := (KX.out.row.2.2.1).form
      obtain ⟨gb, go', rfl, hcap', hcc⟩ := hcr (by omega)
      simp only [Value.slice.injEq, true_and] at he
      obtain ⟨rfl, rfl⟩ := he
      have HCG := Lib.hid (hcc q hqn)
      have HGof : Hid (∀ wx, Touch D (D + 1) w6 wx → CellsAt wx gb (go' + q * 5) (b.g q).cells) := fun wx T => by
        obtain ⟨aa, cap', he, _, hcr⟩ := ((KXof.out wx T).row.2.2.1).form
        simp only [Value.slice.injEq, true_and] at he
        obtain ⟨gb', go2, he2, _, hcc2⟩ := hcr (by omega)
        rw [← he.1] at he2
        simp only [Option.some.injEq, Addr.mk.injEq, and_true] at he2
        obtain ⟨rfl, rfl⟩ := he2
        exact hcc2 q hqn
      clear hcr hcc hp hpr
      generalize b.g q = y at *
      have k6 := BF.out.2 6 _ rfl
      go_wp2_with fail
      refine Await.begin (S := Until 10 fun wa => wa.cell? ⟨D, 6, none⟩ = some (.slice va k vc) ∧ wa.cell? ⟨w1.heap.size, 6, none⟩ = some (.slice (some ⟨gb, go', none⟩) b.m gc) ∧ CellsAt wa gb (go' + q * 5) y.cells) (by kernel_rfl) ?_ (fun hS => ?_)
      · exact Until.of ⟨(BF.out.below (Below.refl _ _).drew).2 6 _ rfl |>.1, (KX.out.next (Below.refl _ _).drew).box.2 6 _ rfl, HCG.out.below (Below.refl _ _).drew⟩
      have FE : Hid (∀ wa : World, (wa.cell? ⟨D, 6, none⟩ = some (.slice va k vc) ∧ wa.cell? ⟨w1.heap.size, 6, none⟩ = some (.slice (some ⟨gb, go', none⟩) b.m gc) ∧ CellsAt wa gb (go' + q * 5) y.cells) → (wa.cell? ⟨D, 6, none⟩ = some (.slice va k vc) ∧ wa.cell? ⟨w1.heap.size, 6, none⟩ = some (.slice (some ⟨gb, go', none⟩) b.m gc) ∧ CellsAt wa gb (go' + q * 5) y.cells)) := fun _ h => h
      have BF0 := Lib.hid (BF.out.below (Below.refl _ _).drew)
      have OG0 := Lib.hid (owns_below OG.out (Below.refl _ _).drew (Nat.le_refl _))
      have TX0 := Lib.hid (TX.out.trans (Touch.of_below (Below.refl wr.heap.size wr).drew))
      have KX0 := Lib.hid (KX.out.next (Below.refl _ _).drew)
      have HG0 := Lib.hid (HCG.out.below (Below.refl wr.heap.size wr).drew)
      clear k6 BF OG TX KX HCG
      generalize wr.drew = wd at *
      refine Await.pure (i := 0) (v := ?_) rfl (by kernel_rfl) (by kernel_rfl) (by kernel_rfl) (by kernel_rfl) (fun _ _ _ h => h) (Or.inl ⟨by rfl, ?_⟩) (by assumption) ?_
      rotate_left
      · (intro wa _; go_simp; try with_reducible rfl)
      simp only [Act.put, List.getElem_toArray, List.getElem_cons_zero, List.setIfInBounds_toArray, List.set_cons_zero, List.set_cons_succ]
      refine Await.takes (i := 1) [8] (v := ?_) rfl (by kernel_rfl) (by kernel_rfl) (by kernel_rfl) (by kernel_rfl) (fun _ _ _ h => h) (Or.inl ⟨by rfl, ?_⟩) (by assumption) ?_
      rotate_left
      · (intro wa hSw; have hF := FE.out wa hSw; have q7 := hF.1; go_simp; try with_reducible rfl)
      simp only [Act.put, List.getElem_toArray, List.getElem_cons_zero, List.getElem_cons_succ, List.setIfInBounds_toArray, List.set_cons_zero, List.set_cons_succ]
      refine Await.pure (i := 2) (v := ?_) rfl (by kernel_rfl) (by kernel_rfl) (by kernel_rfl) (by kernel_rfl) (fun _ _ _ h => h) (Or.inl ⟨by rfl, ?_⟩) (by assumption) ?_
      rotate_left
      · (intro wa _; go_simp; try with_reducible rfl)
      simp only [Act.put, List.getElem_toArray, List.getElem_cons_zero, List.getElem_cons_succ, List.setIfInBounds_toArray, List.set_cons_zero, List.set_cons_succ]
      refine Await.takes (i := 3) [5, 6, 7, 8] (v := ?_) rfl (by kernel_rfl) (by kernel_rfl) (by kernel_rfl) (by kernel_rfl) (fun _ _ _ h => h) (Or.inl ⟨by rfl, ?_⟩) (by assumption) ?_
      rotate_left
      · (intro wa hSw; have hF := FE.out wa hSw; have q7 := hF.2.1; go_simp; try with_reducible rfl)
      simp only [Act.put, List.getElem_toArray, List.getElem_cons_zero, List.getElem_cons_succ, List.setIfInBounds_toArray, List.set_cons_zero, List.set_cons_succ]
      refine Await.pure (i := 4) (v := ?_) rfl (by kernel_rfl) (by kernel_rfl) (by kernel_rfl) (by kernel_rfl) (fun _ _ _ h => h) (Or.inl ⟨by rfl, ?_⟩) (by assumption) ?_
      rotate_left
      · (intro wa _; go_simp; try with_reducible rfl)
      simp only [Act.put, List.getElem_toArray, List.getElem_cons_zero, List.getElem_cons_succ, List.setIfInBounds_toArray, List.set_cons_zero, List.set_cons_succ]
      refine Await.pure (i := 5) (v := ?_) rfl (by kernel_rfl) (by kernel_rfl) (by kernel_rfl) (by kernel_rfl) (fun _ _ _ h => h) (Or.inl ⟨by rfl, ?_⟩) (by assumption) ?_
      rotate_left
      · (intro wa _; go_simp; try with_reducible rfl)
      simp only [Act.put, List.getElem_toArray, List.getElem_cons_zero, List.getElem_cons_succ, List.setIfInBounds_toArray, List.set_cons_zero, List.set_cons_succ]
      refine Await.takes (i := 6) [7, 8] (v := ?_) rfl (by kernel_rfl) (by kernel_rfl) (by kernel_rfl) (by kernel_rfl) (fun _ _ _ h => h) (Or.inl ⟨by rfl, ?_⟩) (by assumption) ?_
      rotate_left
      · (intro wa hSw; have hF := FE.out wa hSw; obtain ⟨q0, q1, q2, q3, q4⟩ := game_cells hF.2.2; go_simp; try with_reducible rfl)
      simp only [Act.put, List.getElem_toArray, List.getElem_cons_zero, List.getElem_cons_succ, List.setIfInBounds_toArray, List.set_cons_zero, List.set_cons_succ]
      refine Await.step (i := 7) (o := _) (by kernel_rfl) rfl (fun K1 hK1' => ?_)
      have hA : Below wd.heap.size wd (wd.alloc (.cells #[.int .i64 y.home, .int .i64 y.away, .int .i64 y.hg, .int .i64 y.ag, .int .i64 y.st] 40)) := (Below.refl _ _).alloc (Nat.le_refl _) _
      have BF1 := Lib.hid (BF0.out.below hA)
      have OG1 := Lib.hid (owns_below OG0.out hA (Nat.le_refl _))
      have TX1 := Lib.hid (TX0.out.trans (Touch.of_below hA))
      have KX1 := Lib.hid (KX0.out.next hA)
      have HG1 := Lib.hid (HG0.out.below hA)
      have hn8 := heap_alloc_new wd (.cells #[.int .i64 y.home, .int .i64 y.away, .int .i64 y.hg, .int .i64 y.ag, .int .i64 y.st] 40)
      have hsz8 : w6.heap.size ≤ (wd.alloc (.cells #[.int .i64 y.home, .int .i64 y.away, .int .i64 y.hg, .int .i64 y.ag, .int .i64 y.st] 40)).heap.size := TX1.out.size
      clear hA BF0 OG0 TX0 KX0 HG0
      go_simp
      refine hK1'.out _ _ ?_ (fun hS => ?_)
      · exact Until.of ⟨(BF1.out.2 6 _ rfl).1, KX1.out.box.2 6 _ rfl, HG1.out⟩
      clear hK1' K1
      generalize hX8 : wd.heap.size = X8 at *
      generalize wd.alloc (.cells #[.int .i64 y.home, .int .i64 y.away, .int .i64 y.hg, .int .i64 y.ag, .int .i64 y.st] 40) = wb at *
      refine Await.step (i := 8) (o := _) (by kernel_rfl) rfl (fun K1 hK1' => ?_)
      refine step_append_lies _ (by rfl) (.tmp 84) (.tmp 90) 27 (by rfl) w6.heap.size 40 i0 (.agg #[.int .i64 0, .int .i64 0, .int .i64 0, .int .i64 0, .int .i64 0]) 5 40 Tryz.underlying27 hi hz0 hz1 hz2 rfl (by decide) (.slice va k vc) k (gcells (orderG b (P.take k))) (by rfl) OG1.out ⟨X8, 0, none⟩ 1 1 [.int .i64 y.home, .int .i64 y.away, .int .i64 y.hg, .int .i64 y.ag, .int .i64 y.st] (by rfl) (by simp) (by simpa using World.news_of_block hn8) (by intro u hu; simp at hu; rcases hu with rfl | rfl | rfl | rfl | rfl <;> rfl) (by omega) (by unfold maxLen; omega) (by omega) hsz8 _ rfl ?_
      intro gg cc wc og g5 at5 lt5
      have hgl : ∀ z, (Value.slice va k vc).ownBlock = some z → w6.heap.size ≤ z := fun z hz => (OG1.out.lt z hz).1
      have BF2 := Lib.hid (BF1.out.block (g5.block D BF1.out.1 (fun e => by have := hgl D e.symm; have := HD6.out; omega)) g5.size)
      have TX2 := Lib.hid (TX1.out.more g5 hgl)
      have OG2 := Lib.hid og
      clear og g5 at5 hn8 BF1 OG1 TX1 KX1 HG1 hgl hsz8
      have KX2 := Lib.hid (KXof.out _ TX2.out)
      have HG2 := Lib.hid (HGof.out _ TX2.out)
      refine hK1'.out _ _ ?_ (fun hS => ?_)
      · exact Until.of ⟨(BF2.out.2 6 _ rfl).1, KX2.out.box.2 6 _ rfl, HG2.out⟩
      clear hK1' K1
      have f6 := (BF2.out.2 6 _ rfl).2
      have f6c := (BF2.out.2 6 _ rfl).1
      have f6l := BF2.out.1
      refine Await.pure (i := 9) (v := ?_) rfl (by kernel_rfl) (by kernel_rfl) (by kernel_rfl) (by kernel_rfl) (fun _ _ _ h => h) (Or.inl ⟨by rfl, ?_⟩) (by assumption) ?_
      rotate_left
      · (intro wa _; go_simp; try with_reducible rfl)
      simp only [Act.put, List.getElem_toArray, List.getElem_cons_zero, List.getElem_cons_succ, List.setIfInBounds_toArray, List.set_cons_zero, List.set_cons_succ]
      refine Await.step (i := 10) (o := _) (by kernel_rfl) rfl (fun K1 hK1' => ?_)
      go_simp
      refine hK1'.out _ _ ?_ (fun hS => ?_)
      · exact Until.over (by kernel_rfl)
      clear hK1' K1
      refine Await.done (by kernel_rfl) ?_ _
      have BF3 := Lib.hid (BF2.out.set 6 (.slice (some ⟨gg, 0, none⟩) (k + 1) cc) (by simp))
      have OG3 := Lib.hid (owns_touch OG2.out ((Touch.refl D (D + 1) wc).setCell ⟨D, 6, none⟩ (.slice (some ⟨gg, 0, none⟩) (k + 1) cc) (Nat.le_refl _) (Nat.lt_succ_self _)) (InW.of_owns OG2.out) (.inr (by have := HD6.out; omega)))
      have TX3 := Lib.hid (TX2.out.setCell ⟨D, 6, none⟩ (.slice (some ⟨gg, 0, none⟩) (k + 1) cc) (Nat.le_refl _) (Nat.lt_succ_self _))
      generalize wc.setCell ⟨D, 6, none⟩ (.slice (some ⟨gg, 0, none⟩) (k + 1) cc) = we at *
      clear f6 f6c f6l hS FE BF2 OG2 TX2 KX2 HG2 lt5
      go_wp2
      go_roundw
      case rel => exact ⟨k + 1, _, _, by omega, by go_num, BF3, (by show World.ownsRow _ _ _ _ _ _ _; rw [HTK.out, gcells_push]; exact OG3.out), TX3⟩
      case measure => simp [RowKit.intOf]; omega
    obtain rfl : k = b.m := by omega
    have OR7 := Lib.hid (OR6.out.touch TX.out OI.out (.inl (Nat.le_refl _)))
    have hog := OG.out
    rw [List.take_of_length_le (by have := HPL.out; omega)] at hog
    have hgl2 : (orderG b P).length = b.m := orderG_len.trans HPL.out
    have hgr := GameRow.of_list (L := orderG b P) (v := .slice va b.m vc) (by rw [hgl2]; exact hog) (by omega)
    have HGX := Lib.hid hgr
    have HR7 : Hid (BookRow wr (.slice fa b.nf fc) (.slice la b.nl lc) (.slice va b.m vc) (.slice qa b.nfa qc) (.slice ta b.nta tc) (withG b (orderG b P))) := ⟨KX.out.row.1, KX.out.row.2.1, HGX.out, KX.out.row.2.2.2.1, KX.out.row.2.2.2.2⟩
    have HB7 : Hid (Below w.heap.size w wr) := B1.out.trans (KX.out.bel.mono B1.out.size)
    have BXX := Lib.hid BF.out.box
    have c0 := BXX.out.2 0 _ rfl
    have c1 := BXX.out.2 1 _ rfl
    have c2 := BXX.out.2 2 _ rfl
    have c3 := BXX.out.2 3 _ rfl
    have c4 := BXX.out.2 4 _ rfl
    have c5 := BXX.out.2 5 _ rfl
    have c6 := BXX.out.2 6 _ rfl
    have c7 := BXX.out.2 7 _ rfl
    have c8 := BXX.out.2 8 _ rfl
    clear hog hgl2 hgr HGX BF OG TX KX KXof K6 OR6 PR PI OI hlt
    go_wp2_with fail
    refine (CRx.out P va vc _ HP.out HR7.out).mono ?_
    rintro e w8 ⟨xv, rfl, hxo, b8⟩
    obtain ⟨xa, xcc, hxf⟩ := owns_form hxo
    subst hxf
    have hxr := IntRow.of_list hxo (by have := HOl.out; omega)
    rw [HOl.out] at hxr ⊢
    have XR8 := Lib.hid hxr
    have OR8 := Lib.hid (OR7.out.below b8 (Nat.le_refl _))
    have HB8 := Lib.hid (HB7.out.trans (b8.mono HB7.out.size))
    clear c0 c1 c2 c3 c4 c5 c6 c7 c8 hxo hxr b8 HR7 OR7 HB7 BXX CRx
    go_wp2
    go_loop [102] (fun iv => ∃ i : Nat, i ≤ b.nf ∧ iv = .int .i64 i) (fun iv => b.nf - (RowKit.intOf iv).toNat)
    case atStart => exact ⟨0, Nat.zero_le _, rfl⟩
    case round =>
      obtain ⟨i, hi9, rfl⟩ := hrel
      by_cases hlt : i < b.nf
      · obtain ⟨ob, oo, rfl, hcap, q0⟩ := int_at OR8.out hlt
        obtain ⟨xb, xo, rfl, hxcap, q1⟩ := int_at XR8.out hlt
        have hj1 : (i : Int) < (b.nf : Int) := by omega
        go_wp2
        go_round
        case rel => exact ⟨i + 1, by omega, by go_num⟩
        case measure => simp [RowKit.intOf]; omega
      obtain rfl : i = b.nf := by omega
      go_wp2
      go_ret
      exact ⟨rfl, HB8.out⟩

set_option maxRecDepth 100000 in
theorem lifted (os : Os) (started : os.Started) (H : Type) (enc : TypeId × Value → H) :
    ReturnsInHanded {} Tryz.checked os 3 .any (Rows.fnRankedSpec.pre6 enc Tryz.prog Tryz.f3 Rows.fnRankedRow.domain false) (Rows.fnRankedSpec.post enc Tryz.prog Tryz.f3 false true false false) := by
  refine returnsInHanded_of_change (C := Tryz.checked) own started (by kernel_rfl) Tryz.func3
    (ChangeSpec.witness6 (enc := enc) (C := Tryz.checked) false ⟨#[], #[.slice none 0 0], []⟩ 8 (by kernel_rfl) (by kernel_rfl) (by kernel_rfl) (by kernel_rfl)) ?_
  intro W base args ds gs before hval0 hW hcnd _
  have hval : ∀ (j : Nat) t v, Tryz.f3.params[j]? = some t → args[j]? = some v → Value.okWide Tryz.prog W .any base t v := hval0
  have hW' := hW
  obtain ⟨p, q, hA0, hV, rfl, hfz, hnd⟩ := hW
  have hA : DataW.TrodAll enc Tryz.prog W 0 (fun _ => true) true Tryz.f3.params.toList args.toList ds p := hA0
  rw [Tryz.params3] at hA hval
  obtain ⟨v0, vs0, d0, ds0, p0, q0, hargs, rfl, rfl, h0, r0⟩ := trodAll_cons hA
  obtain ⟨rfl, rfl, rfl⟩ := trodAll_nil r0
  obtain rfl : args = #[v0] := by cases args; simp_all
  obtain ⟨rfl, rfl⟩ := trodVars_none hV
  have k0 := h0
  have lt0 : ∀ x ∈ p0, x.block < W.heap.size := by obtain ⟨m, hm⟩ := k0; exact DataW.trod_lt m _ _ _ hm
  obtain ⟨a0, len0, cap0, rfl⟩ := okWide_slice Tryz.underlying22 (hval 0 22 v0 rfl rfl)
  obtain ⟨z0, w0⟩ : ∃ zs, IsRow .u8 W a0 len0 cap0 zs := by
    obtain ⟨fuel, hf⟩ := h0
    rcases open_ints Tryz.underlying22 Tryz.underlying5 (by kernel_rfl) hf with ⟨hcs, _⟩ | ⟨x, l, c, zs, hcs, _, hl, hm, hz, _, hcell, hwz⟩
    · simp [Value.cells] at hcs
      obtain ⟨rfl, rfl, rfl⟩ := hcs
      exact ⟨[], .inl ⟨rfl, rfl, rfl, rfl⟩⟩
    · simp [Value.cells] at hcs
      obtain ⟨rfl, rfl, rfl⟩ := hcs
      exact ⟨zs, .inr ⟨_, rfl, hl, hm, by simpa using hz, hcell, hwz⟩⟩
  clear hA0 hval0
  simp only [List.append_nil] at hW'
  refine (walk a0 len0 cap0 z0 W w0).mono fun e W' ⟨he, bel⟩ => ?_
  subst he
  exact ⟨_, rfl, _, _, _, [], _, [], hW', trodAll_mk1 (shut_bool Tryz.underlying4 _), (trodAll_cons_mk (Below.trod laidOut (by kernel_rfl) (of_decide_eq_true (by kernel_rfl)) k0 bel lt0) trodAll_mk0), rfl, bel.frame _, fun h => by cases h⟩

theorem over : Rows.fnRankedRow.holds Tryz.pinned (OpenSpec.ofChange Rows.fnRankedSpec) :=
  OpenClaim.holds_of_wide 3 Tryz.f3 rfl rfl rfl rfl rfl rfl rfl ⟨rfl, rfl, rfl, rfl, rfl⟩ rfl rfl rfl rfl rfl (by kernel_rfl) Tryz.func3 (by kernel_rfl)
    (of_decide_eq_true (by kernel_rfl)) (by unfold Func.isWrapper; first | (rw [if_pos (by decide +kernel)]; kernel_rfl) | (rw [if_neg (by decide +kernel)]; exact ⟨rfl, rfl⟩))
    (fun os started H enc _ => lifted os started H enc)

theorem proved : Rows.FnRankedSaid := over
end Go.Proofs.YtakbolkdbpehoaaGreat.fnRanked
