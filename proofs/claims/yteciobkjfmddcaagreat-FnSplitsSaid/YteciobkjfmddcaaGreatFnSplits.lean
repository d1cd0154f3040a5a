/-
  The law FnSplits holds for every argument: the program answers as the model does.
-/
import Derived.Test.YteciobkjfmddcaaGreatRows
import Derived.WalkKit
import Derived.ProofKit
import Derived.OpenShut
import Derived.ShutString
import Derived.ChangeOld
import Derived.Below
import Derived.Lib.Hide
import Derived.Deep.AppendLies
import Derived.Deep.RegionHeld3
import Derived.Test.YteciobkjfmddcaaGreatQ1
import Derived.Test.YteciobkjfmddcaaGreatQ10
import Derived.Test.YteciobkjfmddcaaGreatQ11
import Derived.Test.YteciobkjfmddcaaGreatQ18
import Derived.Test.YteciobkjfmddcaaGreatQ19
namespace Go.Proofs.YteciobkjfmddcaaGreat.fnSplits
open Go.ChangeShapes Go.WideShapes Go.ChangeAt Go.RowKit
open Go.ChangeMaps (open_string shut_string)
set_option linter.unusedVariables false

theorem own : ownKnob Tryz.prog.godebug = none := by kernel_rfl
theorem laidOut : laidOutB Tryz.prog = true := by kernel_rfl

def lastV (L : List (Int × List Int)) : Nat → Int
  | 0 => 0
  | k + 1 => ((L[k]?).map Prod.fst).getD 0
set_option maxRecDepth 100000 in
set_option maxHeartbeats 4000000 in
theorem walk (a : Option Addr) (len cap : Nat) (zs : List Int) (w : World) (hr : IsRow .u8 w a len cap zs) :
    Calls Tryz.prog 3 #[.slice a len cap] w fun e w' => e = .returned (.bool true) ∧ Below w.heap.size w w' := by
  obtain ⟨i0, hi, hz0, hz1, hz2⟩ := info_parts Tryz.infoI
  obtain ⟨hrow, hsm, hfit⟩ := hr.bytes
  clear hr
  generalize getN zs = g at *
  by_cases hl : 1048576 < len
  · have g0 : decide ((1048576 : Int) < (len : Int)) = true := decide_eq_true (by omega)
    clear hrow hsm
    go_enter Tryz.func3, Tryz.ntmps3
    go_wp2
    go_ret
    exact ⟨rfl, Below.refl _ _⟩
  have g0 : decide ((1048576 : Int) < (len : Int)) = false := decide_eq_false (by omega)
  have hle : len ≤ 1048576 := by omega
  have CM := Lib.hid (madeBook a len cap g w hrow hsm hle)
  have HBR := Lib.hid hrow
  have CN := Lib.hid (fun U h => makeNum_any a len cap 60 g U h hsm hle (by omega))
  clear hrow hsm
  go_enter Tryz.func3, Tryz.ntmps3
  go_wp2_with fail
  refine CM.out.mono ?_
  rintro e w1 ⟨b, fa, fc, la, lc, ga, gc, qa, qc, ta, tc, hmade, rfl, hrow1, b1⟩
  have HM := Lib.hid hmade
  have hn := hmade.nf
  have hsix := hrow1.sixty
  have K1 := Lib.hid (BkAt.made hrow1 29)
  have HB1 := Lib.hid (HBR.out.below (b1.alloc b1.size (.cells #[.slice fa b.nf fc, .int .i64 b.win, .int .i64 b.draw, .int .i64 b.loss, .slice la b.nl lc, .bool b.again, .slice ga b.m gc, .slice qa b.nfa qc, .slice ta b.nta tc] 29)) (Nat.le_refl _))
  have B1 := Lib.hid b1
  clear hmade hrow1 b1 CM HBR
  go_wp2_with fail
  refine (CN.out _ HB1.out).mono ?_
  rintro e w2 ⟨⟨x, hx, rfl⟩, b2⟩
  have K2 := Lib.hid (K1.out.next b2)
  clear CN HB1 K1 b2
  have hx8 : (x : Int) % 8 < 8 ∧ 0 ≤ (x : Int) % 8 := by omega
  have K3 := Lib.hid (K2.out.alloc (.cells #[] 3))
  have o0 := World.ownsRow_lit (e := 3) (size := 1) w2 #[] 0 (Nat.le_refl _) (by decide) rfl
  have HO0 := Lib.hid o0
  have HB0 := Lib.hid ((Below.refl w2.heap.size w2).alloc (Nat.le_refl _) (.cells #[] 3))
  have HN8 : Hid (b.nf ≤ 8) := by show _ ≤ _; omega
  have hn8 : b.nf ≤ 8 := HN8.out
  clear o0
  obtain ⟨d0, d1, d2, d3, d4, d5, d6, d7, d8⟩ := K3.out.cells
  go_wp2
  clear d0 d1 d2 d3 d4 d5 d6 d7 d8
  go_loopw [5, 32] (fun ov iv wr => ∃ k : Nat, k ≤ b.nf ∧ iv = .int .i64 k ∧ Hid (wr.ownsRow w2.heap.size 3 1 ov k ((valsL (fun i => (i : Int)) k).map (Value.int .i64))) ∧ Hid (Below w2.heap.size w2 wr)) (fun _ iv _ => b.nf - (RowKit.intOf iv).toNat)
  case atStart => exact ⟨0, Nat.zero_le _, rfl, HO0, HB0⟩
  case round =>
    clear HO0 HB0 K3
    obtain ⟨k, hk, rfl, HO, HB⟩ := hrel
    by_cases hlt : k < b.nf
    · have hown := HO.out
      have hsz := HB.out.size
      have hk64 : k + 1 ≤ maxLen := by unfold maxLen; omega
      go_wp2_with (at_builtin; refine wpList_pushL rfl (.tmp 35) (.tmp 37) 24 rfl w2.heap.size 3 Tryz.underlying24 hi hz0 hz1 hz2 rfl (by decide) [.int .i64 k] rfl (by intro u hu; simp at hu; subst hu; rfl) rfl (by show Value.slice (some ⟨_, 0, none⟩) 1 1 = _; simp) hown hk64 (by omega) hsz ?_; intro gg5 cc5 w5 o5 g5 at5 lt5)
      have hHB := Lib.hid (HB.out.grown g5 hsz (fun q hq => (hown.lt q hq).1))
      have hO5 : Hid (w5.ownsRow w2.heap.size 3 1 (.slice (some ⟨gg5, 0, none⟩) (k + 1) cc5) (k + 1) ((valsL (fun i => (i : Int)) (k + 1)).map (Value.int .i64))) := by rw [valsL_succ, List.map_append]; exact o5
      clear o5 g5 at5 hown HO HB
      go_roundw
      case rel => exact ⟨k + 1, by omega, by go_num, hO5, hHB⟩
      case measure => simp [RowKit.intOf]; omega
    · obtain rfl : b.nf = k := by omega
      obtain ⟨aa, ac, hof⟩ := owns_form HO.out
      subst hof
      have K4 := Lib.hid (K2.out.next HB.out)
      have hAL : valsL (fun i => (i : Int)) b.nf = allL b.nf := rfl
      have HAR : Hid (IntRow wr (.slice aa b.nf ac) b.nf (getI (allL b.nf))) := by
        have h1 := IntRow.of_list (L := allL b.nf) (v := .slice aa b.nf ac) (by rw [allL_len, ← hAL]; exact HO.out) (by rw [allL_len]; omega)
        rw [allL_len] at h1
        exact h1
      clear hAL HO HB K2
      obtain ⟨key, hkey⟩ : ∃ key : Int, 1 + (x : Int) % 8 = key := ⟨_, rfl⟩
      rw [hkey]
      have hteams : teamsP b.nf b.nf (getI (allL b.nf)) := fun i hi => by rw [allL_get hi]; omega
      have CSB : Hid (∀ wa, BookRow wa (.slice fa b.nf fc) (.slice la b.nl lc) (.slice ga b.m gc) (.slice qa b.nfa qc) (.slice ta b.nta tc) b → IntRow wa (.slice aa b.nf ac) b.nf (getI (allL b.nf)) → Calls Tryz.prog 9 #[.agg #[.slice fa b.nf fc, .int .i64 b.win, .int .i64 b.draw, .int .i64 b.loss, .slice la b.nl lc, .bool b.again, .slice ga b.m gc, .slice qa b.nfa qc, .slice ta b.nta tc], .int .i64 key, .slice aa b.nf ac] wa (ListsL wa ((splitP (bookV b key (getI (allL b.nf)) b.nf) (getI (allL b.nf)) b.nf).map Prod.snd))) := fun wa h1 h2 => by
        have h3 := splitBy_impl _ _ _ _ _ b key _ b.nf (getI (allL b.nf)) true wa ⟨fun _ => ⟨HM.out.book, hteams⟩, fun _ => rfl⟩ h1 HM.out.names h2 (by omega)
        rw [if_pos rfl] at h3
        exact h3
      have CKV : Hid (∀ (t : Nat) wa, t < b.nf → BookRow wa (.slice fa b.nf fc) (.slice la b.nl lc) (.slice ga b.m gc) (.slice qa b.nfa qc) (.slice ta b.nta tc) b → IntRow wa (.slice aa b.nf ac) b.nf (getI (allL b.nf)) → Calls Tryz.prog 10 #[.agg #[.slice fa b.nf fc, .int .i64 b.win, .int .i64 b.draw, .int .i64 b.loss, .slice la b.nl lc, .bool b.again, .slice ga b.m gc, .slice qa b.nfa qc, .slice ta b.nta tc], .int .i64 key, .int .i64 (t : Int), .slice aa b.nf ac] wa fun e w' => e = .returned (.int .i64 (bookV b key (getI (allL b.nf)) b.nf t)) ∧ Below wa.heap.size wa w') := fun t wa ht h1 h2 => by
        have h3 := keyValue_impl _ _ _ _ _ b key (t : Int) _ b.nf (getI (allL b.nf)) true wa ⟨fun _ => ⟨HM.out.book, by omega, by omega⟩, fun _ => rfl⟩ h1 HM.out.names h2
        rw [if_pos rfl] at h3
        exact h3
      have CST : Hid (∀ (t : Nat) wa, t < b.nf → BookRow wa (.slice fa b.nf fc) (.slice la b.nl lc) (.slice ga b.m gc) (.slice qa b.nfa qc) (.slice ta b.nta tc) b → Calls Tryz.prog 11 #[.agg #[.slice fa b.nf fc, .int .i64 b.win, .int .i64 b.draw, .int .i64 b.loss, .slice la b.nl lc, .bool b.again, .slice ga b.m gc, .slice qa b.nfa qc, .slice ta b.nta tc], .int .i64 (t : Int)] wa (IntsL wa (stepP b t (allL b.nf) 0))) := fun t wa ht h1 => by
        have h3 := stepsOf_impl _ _ _ _ _ b (t : Int) true wa ⟨fun _ => ⟨HM.out.book, by omega, by omega⟩, fun _ => rfl⟩ h1 HM.out.names (by omega)
        rw [if_pos rfl] at h3
        exact h3
      have HST : Hid (∀ t : Nat, t < b.nf → stepP b t (allL b.nf) 0 ≠ [] ∧ (∀ k ∈ stepP b t (allL b.nf) 0, hasP b.l k b.nl) ∧ (stepP b t (allL b.nf) 0).length ≤ 80) := fun t ht => by
        have h4 := HM.out.steps (t := (t : Int)) (by omega)
        refine ⟨h4.1, h4.2, ?_⟩
        have h5 := sepAll_len b t (by omega) (by have := HM.out.book.2.1.2.2.2.1; omega) hn8
        have h6 := congrArg List.length (sep_steps b t (allL b.nf) 0 (allL_mem.2 (by omega)))
        rw [List.length_map] at h6
        unfold sepAll at h5
        omega
      have CHS : Hid (∀ y wa, hasP b.l y b.nl → IntRow wa (.slice la b.nl lc) b.nl b.l → Calls Tryz.prog 12 #[.slice la b.nl lc, .int .i64 y] wa fun e w' => e = .returned (.bool true) ∧ Below wa.heap.size wa w') := fun y wa h1 h2 => has_any _ _ _ y true wa ⟨fun _ => h1, fun _ => rfl⟩ h2
      have HSP : Hid (∀ y ∈ splitP (bookV b key (getI (allL b.nf)) b.nf) (getI (allL b.nf)) b.nf, y.2 ≠ [] ∧ (∀ u ∈ y.2, 0 ≤ u ∧ u < (b.nf : Int) ∧ bookV b key (getI (allL b.nf)) b.nf u.toNat = y.1) ∧ y.2.length ≤ 8) := fun y hy => by
        refine ⟨splitP_ne _ _ _ y hy, fun u hu => ?_, ?_⟩
        · obtain ⟨i, hi, rfl⟩ := splitP_mem _ _ _ y hy u hu
          have h5 := hteams i hi
          exact ⟨h5.1, by omega, splitP_val _ _ _ y hy _ hu⟩
        · have := part_le hy; rw [splitP_sum] at this; omega
      have HSD := Lib.hid (splitP_desc (bookV b key (getI (allL b.nf)) b.nf) (getI (allL b.nf)) b.nf)
      have HSS := Lib.hid (splitP_sum (bookV b key (getI (allL b.nf)) b.nf) (getI (allL b.nf)) b.nf)
      have HSL := Lib.hid (splitP_len (bookV b key (getI (allL b.nf)) b.nf) (getI (allL b.nf)) b.nf)
      generalize splitP (bookV b key (getI (allL b.nf)) b.nf) (getI (allL b.nf)) b.nf = SP at *
      generalize bookV b key (getI (allL b.nf)) b.nf = V at *
      clear hkey hteams hx8 hx
      obtain ⟨d0, d1, d2, d3, d4, d5, d6, d7, d8⟩ := K4.out.cells
      go_wp2_with fail
      refine (CSB.out _ K4.out.row HAR.out).mono ?_
      rintro e w5 ⟨v7, T, rfl, hT, hLL, b5⟩
      have K5 := Lib.hid (K4.out.next b5)
      have HA5 := Lib.hid (HAR.out.below b5 (Nat.le_refl _))
      have HL5 := Lib.hid hLL
      have HT := Lib.hid hT
      obtain ⟨pa, pc, hpf⟩ := owns_form hLL.1
      subst hpf
      have hTl : T.length = SP.length := by have := congrArg List.length hT; simpa using this
      have hT8 : T.length ≤ 8 := by have := HSL.out; omega
      have HTL := Lib.hid hTl
      clear d0 d1 d2 d3 d4 d5 d6 d7 d8 K4 HAR hLL hT b5 CSB hTl
      go_wp2
      go_loopw [8, 9, 46] (fun nv lv iv wr => ∃ k : Nat, k ≤ T.length ∧ iv = .int .i64 k ∧ nv = .int .i64 (lenS (SP.take k) : Nat) ∧ lv = .int .i64 (lastV SP k) ∧ Hid (Below w5.heap.size w5 wr)) (fun _ _ iv _ => T.length - (RowKit.intOf iv).toNat)
      case atStart => exact ⟨0, Nat.zero_le _, rfl, rfl, rfl, Below.refl _ _⟩
      case round =>
        obtain ⟨k, hk, rfl, rfl, rfl, HB⟩ := hrel
        by_cases hlt : k < T.length
        · obtain ⟨y, hy⟩ : ∃ y, T[k]? = some y := ⟨_, List.getElem?_eq_getElem hlt⟩
          obtain ⟨z, hz, hzy⟩ : ∃ z, SP[k]? = some z ∧ z.2 = y.2 := by
            have h1 : (T.map Prod.snd)[k]? = (SP.map Prod.snd)[k]? := by rw [HT.out]
            rw [List.getElem?_map, List.getElem?_map, hy] at h1
            cases hz : SP[k]? with
            | none => rw [hz] at h1; simp at h1
            | some z => rw [hz] at h1; exact ⟨z, rfl, by simpa using h1.symm⟩
          have hzm := HSP.out z (List.mem_of_getElem? hz)
          have LLr := HL5.out.below HB.out (Nat.le_refl _)
          obtain ⟨pg, pcap, he, hpc, _, cp⟩ := vals_at (x := y.1) (j := k) LLr.1 (by rw [List.getElem?_map, hy]; rfl)
          simp only [Value.slice.injEq, true_and] at he
          obtain ⟨rfl, rfl⟩ := he
          have hrowp := LLr.2.1 _ (List.mem_of_getElem? hy)
          obtain ⟨m, hm⟩ : ∃ m, y.2.length = m := ⟨_, rfl⟩
          have hm8 : m ≤ 8 := by rw [← hm, ← hzy]; exact hzm.2.2
          have hm0 : 0 < m := by rw [← hm, ← hzy]; exact List.length_pos_iff.2 hzm.1
          have hpr := IntRow.of_list hrowp (by omega)
          rw [hm] at hpr hrowp
          obtain ⟨ya, yc, hyf⟩ := owns_form hrowp
          rw [hyf] at hpr cp
          obtain ⟨pb, po, rfl, hcap, q0⟩ := int_at hpr hm0
          have HPU : Hid (∀ j, j < m → ∃ t : Nat, getI y.2 j = (t : Int) ∧ t < b.nf ∧ V t = z.1) := fun j hj => by
            have h1 : getI y.2 j ∈ z.2 := by rw [hzy]; unfold getI; simp [show j < y.2.length by omega]
            obtain ⟨h2, h3, h4⟩ := hzm.2.1 _ h1
            exact ⟨(getI y.2 j).toNat, by omega, by omega, h4⟩
          have HPR := Lib.hid hpr
          have HTK : Hid (lenS (SP.take (k + 1)) = lenS (SP.take k) + m) := by
            show _ = _
            unfold lenS
            rw [List.take_add_one, hz]
            simp [hzy, hm]
          have HLV : Hid (lastV SP (k + 1) = z.1) := by show ((SP[k]?).map Prod.fst).getD 0 = _; rw [hz]; rfl
          have HLT : Hid (0 < k → decide (lastV SP k ≤ z.1) = false) := fun h0 => by
            obtain ⟨k', rfl⟩ : ∃ k', k = k' + 1 := ⟨k - 1, by omega⟩
            have hd := HSD.out
            rw [List.pairwise_iff_getElem] at hd
            obtain ⟨h1, rfl⟩ := List.getElem?_eq_some_iff.1 hz
            have h2 := hd k' (k' + 1) (by omega) h1 (by omega)
            have h3 : lastV SP (k' + 1) = (SP[k']'(by omega)).1 := by show ((SP[k']?).map Prod.fst).getD 0 = _; rw [List.getElem?_eq_getElem (by omega)]; rfl
            rw [h3]
            exact decide_eq_false (by omega)
          have HTS : Hid (lenS (SP.take k) ≤ 8 * 8) := by
            have h1 : ∀ (n : Nat) (Q : List (Int × List Int)), Q.length ≤ n → (∀ q ∈ Q, q.2.length ≤ 8) → lenS Q ≤ 8 * n := by
              intro n
              induction n with
              | zero => intro Q hQ _; have : Q = [] := List.length_eq_zero_iff.1 (by omega); subst this; unfold lenS; simp
              | succ n ih =>
                intro Q hQ hq
                cases Q with
                | nil => unfold lenS; simp
                | cons a r =>
                  have h2 := ih r (by simp at hQ; omega) (fun q h => hq q (List.mem_cons_of_mem _ h))
                  have h3 := hq a (List.mem_cons_self ..)
                  unfold lenS at h2 ⊢
                  simp; omega
            exact h1 8 _ (by rw [List.length_take]; have := HTL.out; omega) (fun q h => (HSP.out q (List.mem_of_mem_take h)).2.2)
          obtain ⟨t0, ht0, ht1, ht2⟩ := HPU.out 0 hm0
          rw [ht0, Nat.add_zero] at q0
          have CK0 := Lib.hid (fun wa h1 h2 => CKV.out t0 wa ht1 h1 h2)
          rw [ht2] at CK0
          have hKw := K5.out.next HB.out
          have HAw := Lib.hid (HA5.out.below HB.out (Nat.le_refl _))
          have hm0i : (0 : Int) < (m : Int) := by omega
          have g5 : ((m : Int) == 0) = false := by rw [beq_eq_false_iff_ne]; omega
          have g6 : (m == 0) = false := by rw [beq_eq_false_iff_ne]; omega
          have hki : (k : Int) < (T.length : Int) := by omega
          have HPB : Hid (pb < wr.heap.size) := World.block_lt_of_cell? wr _ q0
          have HQ0 := Lib.hid q0
          obtain ⟨sk, hsk⟩ : ∃ sk, lenS (SP.take k) = sk := ⟨_, rfl⟩
          rw [hsk] at HTK HTS ⊢
          obtain ⟨lv, hlv⟩ : ∃ lv, lastV SP k = lv := ⟨_, rfl⟩
          rw [hlv] at HLT ⊢
          obtain ⟨S, HSd⟩ : ∃ S : World → Prop, S = fun U => BkAt w1 U w1.heap.size fa fc la lc ga gc qa qc ta tc b ∧ IntRow U (.slice aa b.nf ac) b.nf (getI (allL b.nf)) ∧ (U.cell? ⟨pb, po, none⟩ = some (.int .i64 (t0 : Int)) ∧ pb < U.heap.size) ∧ Below w5.heap.size w5 U ∧ IntRow U (.slice (some ⟨pb, po, none⟩) m yc) m (getI y.2) := ⟨_, rfl⟩
          have KS : Hid (∀ wa wb, S wa → Below wa.heap.size wa wb → S wb) := by subst HSd; exact fun wa wb h bb => ⟨h.1.next bb, h.2.1.below bb (Nat.le_refl _), ⟨(bb.cell (p := ⟨pb, po, none⟩) h.2.2.1.2).trans h.2.2.1.1, Nat.lt_of_lt_of_le h.2.2.1.2 bb.size⟩, h.2.2.2.1.trans (bb.mono h.2.2.2.1.size), h.2.2.2.2.below bb (Nat.le_refl _)⟩
          have OS : Hid (∀ wa, S wa → BkAt w1 wa w1.heap.size fa fc la lc ga gc qa qc ta tc b ∧ IntRow wa (.slice aa b.nf ac) b.nf (getI (allL b.nf)) ∧ (wa.cell? ⟨pb, po, none⟩ = some (.int .i64 (t0 : Int)) ∧ pb < wa.heap.size) ∧ Below w5.heap.size w5 wa ∧ IntRow wa (.slice (some ⟨pb, po, none⟩) m yc) m (getI y.2)) := by subst HSd; exact fun wa h => h
          have IS : Hid (S wr) := by subst HSd; exact ⟨hKw, HAw.out, ⟨HQ0.out, HPB.out⟩, HB.out, HPR.out⟩
          have ISd : Hid (S wr.drew) := KS.out _ _ IS.out (Below.refl _ _).drew
          clear HSd hy hz hzy hzm LLr hrowp hpr hyf ht0 hKw q0 hsk hlv hm HB
          go_wp2_with fail
          refine wp_region_held_drew (S := S) (by kernel_rfl) ?_ (fun hHeld => ?_)
          · exact ISd.out
          refine wpAnyH_take (i := 0) (v := ?_) rfl (by kernel_rfl) (by kernel_rfl) (by kernel_rfl) (fun _ _ _ h => h) (Or.inl ⟨by rfl, ?_⟩) hHeld ?_
          rotate_left
          · (intro wa hSw; have K := OS.out _ hSw; obtain ⟨d0, d1, d2, d3, d4, d5, d6, d7, d8⟩ := K.1.cells; go_simp; try with_reducible rfl)
          simp only [Act.put, List.getElem_toArray, List.getElem_cons_zero, List.setIfInBounds_toArray, List.set_cons_zero, List.set_cons_succ]
          refine wpAnyH_take (i := 1) (v := ?_) rfl (by kernel_rfl) (by kernel_rfl) (by kernel_rfl) (fun _ _ _ h => h) (Or.inl ⟨by rfl, ?_⟩) hHeld ?_
          rotate_left
          · (intro wa hSw; go_simp; try with_reducible rfl)
          simp only [Act.put, List.getElem_toArray, List.getElem_cons_zero, List.getElem_cons_succ, List.setIfInBounds_toArray, List.set_cons_zero, List.set_cons_succ]
          refine wpAnyH_take (i := 2) (v := ?_) rfl (by kernel_rfl) (by kernel_rfl) (by kernel_rfl) (fun _ _ _ h => h) (Or.inl ⟨by rfl, ?_⟩) hHeld ?_
          rotate_left
          · (intro wa hSw; go_simp; try with_reducible rfl)
          simp only [Act.put, List.getElem_toArray, List.getElem_cons_zero, List.getElem_cons_succ, List.setIfInBounds_toArray, List.set_cons_zero, List.set_cons_succ]
          refine wpAnyH_take (i := 3) (v := ?_) rfl (by kernel_rfl) (by kernel_rfl) (by kernel_rfl) (fun _ _ _ h => h) (Or.inl ⟨by rfl, ?_⟩) hHeld ?_
          rotate_left
          · (intro wa hSw; go_simp; try with_reducible rfl)
          simp only [Act.put, List.getElem_toArray, List.getElem_cons_zero, List.getElem_cons_succ, List.setIfInBounds_toArray, List.set_cons_zero, List.set_cons_succ]
          refine wpAnyH_take (i := 4) (v := ?_) rfl (by kernel_rfl) (by kernel_rfl) (by kernel_rfl) (fun _ _ _ h => h) (Or.inl ⟨by rfl, ?_⟩) hHeld ?_
          rotate_left
          · (intro wa hSw; have K := OS.out _ hSw; have q0 := K.2.2.1.1; go_simp; try with_reducible rfl)
          simp only [Act.put, List.getElem_toArray, List.getElem_cons_zero, List.getElem_cons_succ, List.setIfInBounds_toArray, List.set_cons_zero, List.set_cons_succ]
          refine wpAnyH_take (i := 5) (v := ?_) rfl (by kernel_rfl) (by kernel_rfl) (by kernel_rfl) (fun _ _ _ h => h) (Or.inl ⟨by rfl, ?_⟩) hHeld ?_
          rotate_left
          · (intro wa hSw; go_simp; try with_reducible rfl)
          simp only [Act.put, List.getElem_toArray, List.getElem_cons_zero, List.getElem_cons_succ, List.setIfInBounds_toArray, List.set_cons_zero, List.set_cons_succ]
          refine wpAnyH_ready (rs := [6]) (by kernel_rfl) (by simp) ?_
          refine AllReadyH.cons (o := _) rfl (fun K hK => ?_) AllReadyH.nil
          go_simp
          have KK := OS.out _ hHeld
          refine (CK0.out _ KK.1.row KK.2.1).mono ?_
          rintro e w101 ⟨rfl, b101⟩
          clear KK
          (try go_wp2_with fail)
          refine hK.out _ _ ?_ (fun hHeld101 => ?_)
          · exact KS.out _ _ hHeld b101
          clear hK K
          refine wpAnyH_take (i := 7) (v := ?_) rfl (by kernel_rfl) (by kernel_rfl) (by kernel_rfl) (fun _ _ _ h => h) (Or.inl ⟨by rfl, ?_⟩) hHeld101 ?_
          rotate_left
          · (intro wa hSw; go_simp; try with_reducible rfl)
          simp only [Act.put, List.getElem_toArray, List.getElem_cons_zero, List.getElem_cons_succ, List.setIfInBounds_toArray, List.set_cons_zero, List.set_cons_succ]
          refine wpAnyH_done (by kernel_rfl) ?_ _
          have HS1 := Lib.hid hHeld101
          clear hHeld hHeld101 IS ISd CK0 b101
          go_wp2_with fail
          go_loopw [63] (fun iv wr => ∃ j : Nat, j ≤ m ∧ iv = .int .i64 j ∧ Hid (S wr)) (fun iv _ => m - (RowKit.intOf iv).toNat)
          case atStart => exact ⟨0, Nat.zero_le _, rfl, HS1⟩
          case round =>
            obtain ⟨j, hj, rfl, HSj⟩ := hrel
            have KK := OS.out _ HSj.out
            by_cases hjl : j < m
            · obtain ⟨tj, h1, h2, h3⟩ := HPU.out j hjl
              obtain ⟨_, _, hq, _, q1⟩ := int_at KK.2.2.2.2 hjl
              simp only [Option.some.injEq, Addr.mk.injEq] at hq
              obtain ⟨rfl, rfl, _⟩ := hq
              rw [h1] at q1
              have CKj := Lib.hid (fun wa h4 h5 => CKV.out tj wa h2 h4 h5)
              rw [h3] at CKj
              have hji : (j : Int) < (m : Int) := by omega
              have g7 : decide ((tj : Int) < 0) = false := decide_eq_false (by omega)
              have g8 : decide ((b.nf : Int) ≤ (tj : Int)) = false := decide_eq_false (by omega)
              have g9 : decide (b.nf ≤ tj) = false := decide_eq_false (by omega)
              obtain ⟨d0, d1, d2, d3, d4, d5, d6, d7, d8⟩ := KK.1.cells
              have HKK := Lib.hid KK
              clear h1 h3 KK
              go_wp2_with fail
              refine (CKj.out _ HKK.out.1.row HKK.out.2.1).mono ?_
              rintro e w7 ⟨rfl, b7⟩
              have HS7 := Lib.hid (KS.out _ _ HSj.out b7)
              clear b7 CKj HSj d0 d1 d2 d3 d4 d5 d6 d7 d8 q1 HKK
              go_wp2
              go_roundw
              case rel => exact ⟨j + 1, by omega, by go_num, HS7⟩
              case measure => simp [RowKit.intOf]; omega
            · obtain rfl : m = j := by omega
              have HB7 := Lib.hid KK.2.2.2.1
              have hsk64 := HTS.out
              clear KK HSj HS1
              by_cases hk0 : 0 < k
              · have g7 : decide ((0 : Int) < (k : Int)) = true := decide_eq_true (by omega)
                have g8 : decide (0 < k) = true := decide_eq_true hk0
                have g9 := HLT.out hk0
                clear hk0 HLT
                go_wp2
                go_roundw
                case rel => exact ⟨k + 1, by omega, by go_num, by rw [HTK.out]; go_num, by rw [HLV.out], HB7⟩
                case measure => simp [RowKit.intOf]; omega
              · have g7 : decide ((0 : Int) < (k : Int)) = false := decide_eq_false (by omega)
                have g8 : decide (0 < k) = false := decide_eq_false hk0
                clear hk0 HLT
                go_wp2
                go_roundw
                case rel => exact ⟨k + 1, by omega, by go_num, by rw [HTK.out]; go_num, by rw [HLV.out], HB7⟩
                case measure => simp [RowKit.intOf]; omega
        · obtain rfl : T.length = k := by omega
          have HNN : Hid (lenS (SP.take T.length) = b.nf) := by show _ = _; rw [HTL.out, List.take_length]; exact HSS.out
          rw [HNN.out]
          have K6 := Lib.hid (K5.out.next HB.out)
          clear HB K5 HA5 HL5 HSP HSD CKV HTL HT HSS HSL
          obtain ⟨d0, d1, d2, d3, d4, d5, d6, d7, d8⟩ := K6.out.cells
          go_wp2
          clear d0 d1 d2 d3 d4 d5 d6 d7 d8
          go_loopw [102] (fun iv wr => ∃ t : Nat, t ≤ b.nf ∧ iv = .int .i64 t ∧ Hid (BkAt w1 wr w1.heap.size fa fc la lc ga gc qa qc ta tc b)) (fun iv _ => b.nf - (RowKit.intOf iv).toNat)
          case atStart => exact ⟨0, Nat.zero_le _, rfl, K6⟩
          case round =>
            clear K6
            obtain ⟨t, ht, rfl, K⟩ := hrel
            obtain ⟨d0, d1, d2, d3, d4, d5, d6, d7, d8⟩ := K.out.cells
            by_cases htl : t < b.nf
            · have hti : (t : Int) < (b.nf : Int) := by omega
              have hst := HST.out t htl
              have CSt := Lib.hid (fun wa h => CST.out t wa htl h)
              obtain ⟨L, hL⟩ : ∃ L, stepP b t (allL b.nf) 0 = L := ⟨_, rfl⟩
              rw [hL] at hst CSt
              have HLH := Lib.hid hst.2.1
              obtain ⟨m, hm⟩ : ∃ m, L.length = m := ⟨_, rfl⟩
              have hm80 : m ≤ 80 := by rw [← hm]; exact hst.2.2
              have hm0 : 0 < m := by rw [← hm]; exact List.length_pos_iff.2 hst.1
              have g5 : ((m : Int) == 0) = false := by rw [beq_eq_false_iff_ne]; omega
              have g6 : (m == 0) = false := by rw [beq_eq_false_iff_ne]; omega
              have HMM := Lib.hid hm
              clear hst hL hm
              go_wp2_with fail
              refine (CSt.out _ K.out.row).mono ?_
              rintro e w7 ⟨lv, rfl, hlo, b7⟩
              obtain ⟨ya, yc, hlf⟩ := owns_form hlo
              subst hlf
              have HLR := Lib.hid (IntRow.of_list hlo (by rw [HMM.out]; omega))
              rw [HMM.out] at HLR ⊢
              have K7 := Lib.hid (K.out.next b7)
              clear d0 d1 d2 d3 d4 d5 d6 d7 d8 hlo b7 K CSt
              go_wp2
              go_loopw [113] (fun iv wr => ∃ j : Nat, j ≤ m ∧ iv = .int .i64 j ∧ Hid (Below w7.heap.size w7 wr)) (fun iv _ => m - (RowKit.intOf iv).toNat)
              case atStart => exact ⟨0, Nat.zero_le _, rfl, Below.refl _ _⟩
              case round =>
                obtain ⟨j, hj, rfl, HB⟩ := hrel
                have KK := K7.out.next HB.out
                obtain ⟨d0, d1, d2, d3, d4, d5, d6, d7, d8⟩ := KK.cells
                by_cases hjl : j < m
                · obtain ⟨pb, po, rfl, hcap, q1⟩ := int_at (HLR.out.below HB.out (Nat.le_refl _)) hjl
                  have hji : (j : Int) < (m : Int) := by omega
                  have CHj := Lib.hid (fun wa h => CHS.out (getI L j) wa (HLH.out _ (by have h1 : getI L j = L[j]'(by have := HMM.out; omega) := by unfold getI; simp [show j < L.length by have := HMM.out; omega]
                                                                                        rw [h1]; exact List.getElem_mem _)) h)
                  obtain ⟨q, hq⟩ : ∃ q, getI L j = q := ⟨_, rfl⟩
                  rw [hq] at CHj q1
                  have HKK := Lib.hid KK
                  clear hq KK
                  go_wp2_with fail
                  refine (CHj.out _ HKK.out.row.2.1).mono ?_
                  rintro e w8 ⟨rfl, b8⟩
                  have HB8 := Lib.hid (HB.out.trans (b8.mono HB.out.size))
                  clear d0 d1 d2 d3 d4 d5 d6 d7 d8 b8 CHj HB HKK q1
                  go_wp2
                  go_roundw
                  case rel => exact ⟨j + 1, by omega, by go_num, HB8⟩
                  case measure => simp [RowKit.intOf]; omega
                · obtain rfl : m = j := by omega
                  have K8 := Lib.hid KK
                  clear HB KK
                  go_wp2
                  go_roundw
                  case rel => exact ⟨t + 1, by omega, by go_num, K8⟩
                  case measure => simp [RowKit.intOf]; omega
            · obtain rfl : b.nf = t := by omega
              have HE := Lib.hid (B1.out.trans (K.out.bel.mono B1.out.size))
              clear K
              go_wp2
              go_ret
              exact ⟨rfl, HE.out⟩

set_option maxRecDepth 100000 in
theorem lifted (os : Os) (started : os.Started) (H : Type) (enc : TypeId × Value → H) :
    ReturnsInHanded {} Tryz.checked os 3 .any (Rows.fnSplitsSpec.pre6 enc Tryz.prog Tryz.f3 Rows.fnSplitsRow.domain false) (Rows.fnSplitsSpec.post enc Tryz.prog Tryz.f3 false true false false) := by
  refine returnsInHanded_of_change (C := Tryz.checked) own started (by kernel_rfl) Tryz.func3
    (ChangeSpec.witness6 (enc := enc) (C := Tryz.checked) false ⟨#[], #[.slice none 0 0], []⟩ 8 (by kernel_rfl) (by kernel_rfl) (by kernel_rfl) (by kernel_rfl)) ?_
  intro W base args ds gs before hval0 hW hcnd _
  have hval : ∀ (j : Nat) t v, Tryz.f3.params[j]? = some t → args[j]? = some v → Value.okWide Tryz.prog W .any base t v := hval0
  have hW' := hW
  obtain ⟨p, q, hA0, hV, rfl, hfz, hnd⟩ := hW
  have hA : DataW.TrodAll enc Tryz.prog W 0 (fun _ => true) true Tryz.f3.params.toList args.toList ds p := hA0
  rw [Tryz.params3] at hA hval
  obtain ⟨v0, vs0, d0, ds0, p0, q0, hargs, rfl, rfl, h0, r0⟩ := trodAll_cons hA
  obtain ⟨rfl, rfl, rfl⟩ := trodAll_nil r0
  obtain rfl : args = #[v0] := by cases args; simp_all
  obtain ⟨rfl, rfl⟩ := trodVars_none hV
  have k0 := h0
  have lt0 : ∀ x ∈ p0, x.block < W.heap.size := by obtain ⟨m, hm⟩ := k0; exact DataW.trod_lt m _ _ _ hm
  obtain ⟨a0, len0, cap0, rfl⟩ := okWide_slice Tryz.underlying22 (hval 0 22 v0 rfl rfl)
  obtain ⟨z0, w0⟩ : ∃ zs, IsRow .u8 W a0 len0 cap0 zs := by
    obtain ⟨fuel, hf⟩ := h0
    rcases open_ints Tryz.underlying22 Tryz.underlying5 (by kernel_rfl) hf with ⟨hcs, _⟩ | ⟨x, l, c, zs, hcs, _, hl, hm, hz, _, hcell, hwz⟩
    · simp [Value.cells] at hcs
      obtain ⟨rfl, rfl, rfl⟩ := hcs
      exact ⟨[], .inl ⟨rfl, rfl, rfl, rfl⟩⟩
    · simp [Value.cells] at hcs
      obtain ⟨rfl, rfl, rfl⟩ := hcs
      exact ⟨zs, .inr ⟨_, rfl, hl, hm, by simpa using hz, hcell, hwz⟩⟩
  clear hA0 hval0
  simp only [List.append_nil] at hW'
  refine (walk a0 len0 cap0 z0 W w0).mono fun e W' ⟨he, bel⟩ => ?_
  subst he
  exact ⟨_, rfl, _, _, _, [], _, [], hW', trodAll_mk1 (shut_bool Tryz.underlying4 _), (trodAll_cons_mk (Below.trod laidOut (by kernel_rfl) (of_decide_eq_true (by kernel_rfl)) k0 bel lt0) trodAll_mk0), rfl, bel.frame _, fun h => by cases h⟩

theorem over : Rows.fnSplitsRow.holds Tryz.pinned (OpenSpec.ofChange Rows.fnSplitsSpec) :=
  OpenClaim.holds_of_wide 3 Tryz.f3 rfl rfl rfl rfl rfl rfl rfl ⟨rfl, rfl, rfl, rfl, rfl⟩ rfl rfl rfl rfl rfl (by kernel_rfl) Tryz.func3 (by kernel_rfl)
    (of_decide_eq_true (by kernel_rfl)) (by unfold Func.isWrapper; first | (rw [if_pos (by decide +kernel)]; kernel_rfl) | (rw [if_neg (by decide +kernel)]; exact ⟨rfl, rfl⟩))
    (fun os started H enc _ => lifted os started H enc)

theorem proved : Rows.FnSplitsSaid := over
end Go.Proofs.YteciobkjfmddcaaGreat.fnSplits
