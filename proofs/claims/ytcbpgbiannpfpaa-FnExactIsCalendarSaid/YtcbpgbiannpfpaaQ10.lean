/-
  Packed: RndImplD, RndImplE, CalImplA, RndImplB.
-/
import Derived.BigRegion
import Derived.Test.YtcbpgbiannpfpaaQ1
import Derived.Test.YtcbpgbiannpfpaaQ6
import Derived.Test.YtcbpgbiannpfpaaQ7
import Derived.Test.YtcbpgbiannpfpaaQ9
set_option linter.unusedVariables false
namespace Go.Proofs.Ytcbpgbiannpfpaa
open Go.RowKit

set_option maxRecDepth 100000 in
set_option maxHeartbeats 4000000 in
theorem isRound_impl (N : Int) (v : Value) (r : PairL) (R : Bool) (hR : R = true ↔ onceP N (teamsR r)) (hN : N ≤ 8) (w : World) (h : RdA tPairS w [v] r) :
    Calls Try.prog 66 #[.int .i64 N, v] w fun e w' => e = .returned (.bool R) ∧ Below w.heap.size w w' := by
  obtain ⟨a, c, rfl, hn⟩ := pairs_form h
  have HR := Lib.hid h
  clear h
  obtain ⟨n, hd⟩ : ∃ n, List.length (α := tPair.D) r = n := ⟨_, rfl⟩
  have HD := Lib.hid hd
  rw [hd] at hn ⊢
  clear hd
  have HNo := Lib.hid (boolF hR)
  have HY := Lib.hid (boolT hR)
  clear hR
  have s1 := SeenN.made 8 w #[.bool false, .bool false, .bool false, .bool false, .bool false, .bool false, .bool false, .bool false] 95 (fun j hj => by match j, hj with | 0, _ => rfl | 1, _ => rfl | 2, _ => rfl | 3, _ => rfl | 4, _ => rfl | 5, _ => rfl | 6, _ => rfl | 7, _ => rfl)
  have HS0 := Lib.hid s1
  have HB0 : Hid (Below w.heap.size w (w.alloc (.cells #[.bool false, .bool false, .bool false, .bool false, .bool false, .bool false, .bool false, .bool false] 95))) := (Below.refl _ _).alloc (Nat.le_refl _) _
  clear s1
  go_enter Try.func66, Try.ntmps66
  go_wp2
  go_loopw [10] (fun iv wr => ∃ (k : Nat) (M : Nat → Bool), k ≤ n ∧ iv = .int .i64 k ∧ Hid (onceP N (teamsR (r.take k))) ∧ Hid (SeenN 8 wr w.heap.size M) ∧ Hid (∀ j : Nat, j < 8 → (M j = true ↔ (j : Int) ∈ teamsR (r.take k))) ∧ Hid (Below w.heap.size w wr)) (fun iv _ => n - (RowKit.intOf iv).toNat)
  case atStart => exact ⟨0, _, Nat.zero_le _, rfl, ⟨fun t ht => by simp [teamsR] at ht, by simp [teamsR]⟩, HS0, fun j _ => (by simp [teamsR]), HB0⟩
  case round =>
    clear HS0 HB0
    obtain ⟨k, M, hk9, rfl, HV, HS, HM, HB⟩ := hrel
    by_cases hlt : k < n
    · obtain ⟨p, hp⟩ : ∃ p : tPair.D, r[k]? = some p := ⟨_, List.getElem?_eq_getElem (by rw [HD.out]; exact hlt)⟩
      have HRr := HR.out.below HB.out
      obtain ⟨b, off, rfl, hcap, q0, q1⟩ := pair_cells HRr hp
      rw [HD.out] at hcap
      have hj1 : (k : Int) < (n : Int) := by omega
      have HTK : Hid (teamsR (r.take (k + 1)) = teamsR (r.take k) ++ [hm p, aw p]) := by show _ = _; rw [List.take_add_one, hp]; exact teamsR_app _ _
      have HTA : Hid (teamsR r = teamsR (r.take k) ++ hm p :: aw p :: teamsR (r.drop (k + 1))) := by
        show _ = _
        have e : teamsR r = teamsR (r.take k ++ r.drop k) := by rw [List.take_append_drop]
        rw [e, teamsR_app, drop_at hp]; rfl
      clear hp HRr
      generalize hm p = ph at *
      generalize aw p = pa at *
      obtain ⟨U, hU⟩ : ∃ U, wr.alloc (.cells #[.int .i64 ph, .int .i64 pa] 63) = U := ⟨_, rfl⟩
      have bU : Below wr.heap.size wr U := by rw [← hU]; exact (Below.refl _ _).alloc (Nat.le_refl _) _
      have HXU : Hid (BoxN U wr.heap.size [.int .i64 ph, .int .i64 pa]) := by rw [← hU]; exact BoxN.made (Below.refl _ _) rfl
      have HSU := Lib.hid (HS.out.below bU)
      have HBU := Lib.hid (HB.out.trans (bU.mono HB.out.size))
      have HP : Hid (w.heap.size ≠ wr.heap.size) := fun e => by have := HS.out.1; omega
      have x0 := HXU.out.2 0 _ rfl
      have x1 := HXU.out.2 1 _ rfl
      clear bU HS HB
      by_cases ho : 0 ≤ ph ∧ ph < N ∧ 0 ≤ pa ∧ pa < N ∧ ph ≠ pa
      case neg =>
        have HF : R = false := HNo.out (fun e => ho (by
          rw [HTA.out] at e
          have e1 := e.1 ph (List.mem_append_right _ (List.mem_cons_self ..))
          have e2 := e.1 pa (List.mem_append_right _ (List.mem_cons_of_mem _ (List.mem_cons_self ..)))
          refine ⟨e1.1, by omega, e2.1, by omega, fun e3 => ?_⟩
          have h9 := (List.nodup_append.1 e.2).2.1
          subst e3
          exact (List.nodup_cons.1 h9).1 (List.mem_cons_self ..)))
        subst HF
        have CA := Lib.hid (areOpp_impl N ph pa false U (by constructor; (intro h; cases h); (intro h; exact absurd h ho)))
        clear HNo HY HTA HTK HV HM
        go_wp2_with fail
        refine CA.out.mono ?_
        rintro e wx ⟨rfl, rfl⟩
        clear hU CA
        go_wp2
        go_ret
        exact ⟨rfl, HBU.out⟩
      have CA := Lib.hid (areOpp_impl N ph pa true U ⟨fun _ => ho, fun _ => rfl⟩)
      obtain ⟨o1, o2, o3, o4, o5⟩ := ho
      obtain ⟨p, rfl⟩ : ∃ p : Nat, ph = p := ⟨ph.toNat, by omega⟩
      obtain ⟨q, rfl⟩ : ∃ q : Nat, pa = q := ⟨pa.toNat, by omega⟩
      have p8 : p < 8 := by omega
      have q8 : q < 8 := by omega
      have p8' : (p : Int) < 8 := by omega
      have q8' : (q : Int) < 8 := by omega
      have hpq : p ≠ q := fun e => o5 (by rw [e])
      have m0 := (HSU.out.2 p p8).1
      have m1 := (HSU.out.2 q q8).1
      have HMp := Lib.hid (HM.out p p8)
      have HMq := Lib.hid (HM.out q q8)
      have f0 := (HSU.out.2 p p8).2
      have f1 := (HSU.out.2 q q8).2
      by_cases hp1 : M p = true
      · rw [hp1] at m0
        have HF : R = false := HNo.out (fun e => by rw [HTA.out] at e; exact not_once_dup (HMp.out.1 hp1) e)
        subst HF
        clear HNo HY HTA HTK HV HM HMp HMq hp1
        go_wp2_with fail
        refine CA.out.mono ?_
        rintro e wx ⟨rfl, rfl⟩
        clear hU CA
        go_wp2
        go_ret
        exact ⟨rfl, HBU.out⟩
      have hp1' : M p = false := by simpa using hp1
      rw [hp1'] at m0
      by_cases hq1 : M q = true
      · rw [hq1] at m1
        have HF : R = false := HNo.out (fun e => by
          have e3 : teamsR (r.take k) ++ (p : Int) :: (q : Int) :: teamsR (r.drop (k + 1)) = (teamsR (r.take k) ++ [(p : Int)]) ++ (q : Int) :: teamsR (r.drop (k + 1)) := by simp
          rw [HTA.out, e3] at e
          exact not_once_dup (List.mem_append_left _ (HMq.out.1 hq1)) e)
        subst HF
        clear HNo HY HTA HTK HV HM HMp HMq hp1 hq1 hp1'
        go_wp2_with fail
        refine CA.out.mono ?_
        rintro e wx ⟨rfl, rfl⟩
        clear hU CA
        go_wp2
        go_ret
        exact ⟨rfl, HBU.out⟩
      have hq1' : M q = false := by simpa using hq1
      rw [hq1'] at m1
      have HVN : Hid (onceP N (teamsR (r.take (k + 1)))) := by
        show onceP _ _
        rw [HTK.out, show teamsR (r.take k) ++ [(p : Int), (q : Int)] = (teamsR (r.take k) ++ [(p : Int)]) ++ [(q : Int)] by simp]
        refine onceP_push (onceP_push HV.out ⟨o1, by omega⟩ (fun e => hp1 (HMp.out.2 e))) ⟨o3, by omega⟩ (fun e => ?_)
        rcases List.mem_append.1 e with e | e
        · exact hq1 (HMq.out.2 e)
        · have := List.mem_singleton.1 e; omega
      have HMN : Hid (∀ j : Nat, j < 8 → (((M j || decide (j = p)) || decide (j = q)) = true ↔ (j : Int) ∈ teamsR (r.take (k + 1)))) := fun j hj => by
        rw [HTK.out, List.mem_append]
        have h1 := HM.out j hj
        simp only [Bool.or_eq_true, decide_eq_true_eq, List.mem_cons, List.not_mem_nil, or_false]
        rw [h1]
        constructor
        · rintro ((h | h) | h)
          · exact .inl h
          · exact .inr (.inl (by rw [h]))
          · exact .inr (.inr (by rw [h]))
        · rintro (h | h | h)
          · exact .inl (.inl h)
          · exact .inl (.inr (by omega))
          · exact .inr (by omega)
      have HSN : Hid (SeenN 8 ((U.setCell ⟨w.heap.size, p, none⟩ (.bool true)).setCell ⟨w.heap.size, q, none⟩ (.bool true)) w.heap.size (fun j => (M j || decide (j = p)) || decide (j = q))) := (HSU.out.set p p8).set q q8
      have HBN : Hid (Below w.heap.size w ((U.setCell ⟨w.heap.size, p, none⟩ (.bool true)).setCell ⟨w.heap.size, q, none⟩ (.bool true))) := (HBU.out.setCell (Nat.le_refl _) _).setCell (Nat.le_refl _) _
      clear HNo HY HTA HTK HV HM HMp HMq hp1 hq1 hp1' hq1' o5
      go_wp2_with fail
      refine CA.out.mono ?_
      rintro e wx ⟨rfl, rfl⟩
      clear hU CA
      have hne : w.heap.size ≠ wr.heap.size := HP.out
      go_wp2_with fail
      go_region
      all_goals (try go_wp2)
      all_goals go_roundw
      case rel => exact ⟨k + 1, _, by omega, by go_num, HVN, HSN.out.below (Below.refl _ _).drew, HMN, HBN.out.drew⟩
      case measure => simp [RowKit.intOf]; omega
    obtain rfl : k = n := by omega
    obtain rfl := HY.out (by have h9 := HV.out; rw [List.take_of_length_le (by have := HD.out; omega)] at h9; exact h9)
    go_wp2
    go_ret
    exact ⟨rfl, HB.out⟩
end Go.Proofs.Ytcbpgbiannpfpaa
set_option linter.unusedVariables false
namespace Go.Proofs.Ytcbpgbiannpfpaa
open Go.RowKit

theorem notRound_impl (N : Int) (v : Value) (r : PairL) (B : Nat) (R : Bool) (hR : R = true ↔ onceP N (teamsR r)) (hN : N ≤ 8) (w : World) (h : RdA tPairS w [v] r) (v1 : BoxN w B [.int .i64 N]) :
    Calls Try.prog 65 #[v, .pointer (some ⟨B, 0, none⟩)] w fun e w' => e = .returned (.bool (!R)) ∧ Below w.heap.size w w' := by
  have C := Lib.hid (isRound_impl N v r R hR hN w h)
  have c1 := v1.2 0 _ rfl
  clear h hR
  go_enter Try.func65, Try.ntmps65
  go_wp2_with fail
  refine C.out.mono ?_
  rintro e w1 ⟨rfl, b1⟩
  have HB := Lib.hid b1
  clear b1 C c1
  go_wp2
  go_ret
  exact ⟨rfl, HB.out⟩
set_option maxRecDepth 100000 in
set_option maxHeartbeats 4000000 in
theorem indexBad_impl (v : Value) (d : List PairL) (N : Int) (B : Nat) (hN : N ≤ 8) (w : World) (h : RdA tPairSS w [v] d) (v1 : BoxN w B [.int .i64 N]) :
    Calls Try.prog 70 #[v, .func (.func 65) #[] #[.pointer (some ⟨B, 0, none⟩)]] w fun e w' => ∃ z : Int, e = .returned (.int .i64 z) ∧ (0 ≤ z ↔ ¬ ∀ r ∈ d, onceP N (teamsR r)) ∧ Below w.heap.size w w' := by
  obtain ⟨a, c, rfl, hn⟩ := schedule_form h
  have HR := Lib.hid h
  have K1 := Lib.hid v1
  clear h v1
  obtain ⟨n, hd⟩ : ∃ n, List.length (α := PairL) d = n := ⟨_, rfl⟩
  have HD := Lib.hid hd
  rw [hd] at hn ⊢
  clear hd
  go_enter Try.func70, Try.ntmps70
  go_wp2
  go_loopw [8] (fun iv wr => ∃ k : Nat, k ≤ n ∧ iv = .int .i64 k ∧ Hid (∀ r ∈ d.take k, onceP N (teamsR r)) ∧ Hid (Below w.heap.size w wr)) (fun iv _ => n - (RowKit.intOf iv).toNat)
  case atStart => exact ⟨0, Nat.zero_le _, rfl, fun r hr => (by simp at hr), Below.refl _ _⟩
  case round =>
    obtain ⟨k, hk9, rfl, HV, HB⟩ := hrel
    by_cases hlt : k < n
    · obtain ⟨r, hr⟩ : ∃ r : PairL, d[k]? = some r := ⟨_, List.getElem?_eq_getElem (by rw [HD.out]; exact hlt)⟩
      have HRr := HR.out.below HB.out
      obtain ⟨b, off, x, xc, rfl, hcap, q0, hrr, hm63⟩ := round_cells HRr hr
      rw [HD.out] at hcap
      have hj1 : (k : Int) < (n : Int) := by omega
      obtain ⟨R, hR⟩ := boolEx (onceP N (teamsR r))
      have C := Lib.hid (notRound_impl N _ r B R hR hN _ hrr (K1.out.below HB.out))
      have HIN : Hid (r ∈ d) := List.mem_of_getElem? hr
      have HTK : Hid (d.take (k + 1) = d.take k ++ [r]) := by show _ = _; rw [List.take_add_one, hr]; rfl
      clear hr HRr hrr
      obtain ⟨m, hm⟩ : ∃ m, List.length (α := tPair.D) r = m := ⟨_, rfl⟩
      rw [hm] at q0 hm63 C
      clear hm
      cases R with
      | false =>
        have HVx : Hid ((0 : Int) ≤ k ↔ ¬ ∀ r ∈ d, onceP N (teamsR r)) := ⟨fun _ h => (by have := hR.2 (h r HIN.out); cases this), fun _ => Int.natCast_nonneg k⟩
        clear hR HTK HV
        go_wp2_with (go_at_call 65; refine C.out.mono ?_; rintro e w2 ⟨rfl, b2⟩; have HB2 := Lib.hid (HB.out.trans (b2.mono HB.out.size)); clear b2)
        go_ret
        exact ⟨_, rfl, HVx.out, HB2.out⟩
      | true =>
        have HVx : Hid (∀ r ∈ d.take (k + 1), onceP N (teamsR r)) := fun q hq => by
          rw [HTK.out] at hq
          rcases List.mem_append.1 hq with hq | hq
          · exact HV.out q hq
          · rw [List.mem_singleton.1 hq]; exact hR.1 rfl
        clear hR HTK HV
        go_wp2_with (go_at_call 65; refine C.out.mono ?_; rintro e w2 ⟨rfl, b2⟩; have HB2 := Lib.hid (HB.out.trans (b2.mono HB.out.size)); clear b2)
        go_roundw
        case rel => exact ⟨k + 1, by omega, by go_num, HVx, HB2⟩
        case measure => simp [RowKit.intOf]; omega
    obtain rfl : k = n := by omega
    have HVx : Hid ((0 : Int) ≤ -1 ↔ ¬ ∀ r ∈ d, onceP N (teamsR r)) := ⟨fun h => absurd h (by omega), fun h => absurd (fun r hr => HV.out r (by rw [List.take_of_length_le (by have := HD.out; omega)]; exact hr)) h⟩
    clear HV
    go_wp2
    go_ret
    exact ⟨_, rfl, HVx.out, HB.out⟩
theorem containsBad_impl (v : Value) (d : List PairL) (N : Int) (B : Nat) (hN : N ≤ 8) (R : Bool) (hR : R = true ↔ ∀ r ∈ d, onceP N (teamsR r)) (w : World) (h : RdA tPairSS w [v] d) (v1 : BoxN w B [.int .i64 N]) :
    Calls Try.prog 64 #[v, .func (.func 65) #[] #[.pointer (some ⟨B, 0, none⟩)]] w fun e w' => e = .returned (.bool (!R)) ∧ Below w.heap.size w w' := by
  have C := Lib.hid (indexBad_impl v d N B hN w h v1)
  have HR := Lib.hid hR
  clear hR h v1
  go_enter Try.func64, Try.ntmps64
  go_wp2_with fail
  refine C.out.mono ?_
  rintro e w1 ⟨z, rfl, hz, b1⟩
  have HB := Lib.hid b1
  have e : decide (0 ≤ z) = !R := by
    cases R with
    | true => exact decide_eq_false fun h => hz.1 h (HR.out.1 rfl)
    | false => exact decide_eq_true (hz.2 fun h => by have := HR.out.2 h; cases this)
  clear b1 C hz HR
  go_wp2
  go_ret
  exact ⟨by first | rfl | (rw [← e]; rfl) | (rw [e]; rfl), HB.out⟩
set_option maxRecDepth 100000 in
set_option maxHeartbeats 4000000 in
theorem isSchedule_impl (v : Value) (d : List PairL) (N : Int) (R : Bool) (w : World) (hR : R = true ↔ schedP N d) (h : RdA tPairSS w [v] d) (hw : tPairSS.wt d ≤ 1048576) :
    Calls Try.prog 58 #[.int .i64 N, v] w fun e w' => e = .returned (.bool R) ∧ Below w.heap.size w w' := by
  have b1 : Below w.heap.size w (w.alloc (.cells #[.int .i64 N] 3)) := (Below.refl _ _).alloc (Nat.le_refl _) _
  have HB := Lib.hid b1
  have BX : BoxN (w.alloc (.cells #[.int .i64 N] 3)) w.heap.size [.int .i64 N] := BoxN.made (Below.refl _ _) rfl
  have h1 := h.below b1
  obtain ⟨a, c, rfl, hn⟩ := schedule_form h
  have HN := Lib.hid (boolF hR)
  have HY := Lib.hid (boolT hR)
  obtain ⟨r1, hr1⟩ := boolEx (∀ r ∈ d, onceP N (teamsR r))
  have C := Lib.hid (fun hN => containsBad_impl _ d N w.heap.size hN r1 hr1 _ h1 BX)
  clear h h1 BX b1 hR hw
  obtain ⟨n, hd⟩ : ∃ n, List.length (α := PairL) d = n := ⟨_, rfl⟩
  have HD := Lib.hid hd
  rw [hd] at hn C ⊢
  clear hd
  by_cases h2 : 2 ≤ N
  case neg =>
    have g1 : decide (2 ≤ N) = false := decide_eq_false h2
    obtain rfl := HN.out (fun e => h2 e.1.1)
    clear HN HY C hr1
    go_enter Try.func58, Try.ntmps58
    go_wp2
    go_ret
    exact ⟨rfl, HB.out⟩
  have g1 : decide (2 ≤ N) = true := decide_eq_true h2
  by_cases h8 : N ≤ 8
  case neg =>
    have g2 : decide (N ≤ 8) = false := decide_eq_false h8
    obtain rfl := HN.out (fun e => h8 e.1.2)
    clear HN HY C hr1
    go_enter Try.func58, Try.ntmps58
    go_wp2
    go_ret
    exact ⟨rfl, HB.out⟩
  have g2 : decide (N ≤ 8) = true := decide_eq_true h8
  by_cases hl : n ≤ 14
  case neg =>
    have g3 : decide ((n : Int) ≤ 14) = false := decide_eq_false (by omega)
    have g3' : decide (n ≤ 14) = false := decide_eq_false (by omega)
    obtain rfl := HN.out (fun e => hl (by have := e.2.1; rw [HD.out] at this; exact this))
    clear HN HY C hr1
    go_enter Try.func58, Try.ntmps58
    go_wp2
    go_ret
    exact ⟨rfl, HB.out⟩
  have g3 : decide ((n : Int) ≤ 14) = true := decide_eq_true (by omega)
  have g3' : decide (n ≤ 14) = true := decide_eq_true (by omega)
  have e : R = r1 := by
    cases r1 with
    | true => exact HY.out ⟨⟨h2, h8⟩, by rw [HD.out]; exact hl, hr1.1 rfl⟩
    | false => exact HN.out fun h => by have := hr1.2 h.2.2; cases this
  subst e
  have C2 := Lib.hid (C.out h8)
  have hmf : ∀ (fn : Fn) (first cap : Array Value) (w : World), (Instr.makeFunc fn first cap).run Try.prog w = .ok (.func fn first cap) w := fun _ _ _ _ => rfl
  clear HN HY C hr1
  go_enter Try.func58, Try.ntmps58
  go_wp2_with fail
  refine C2.out.mono ?_
  rintro e w1 ⟨rfl, b1⟩
  have HB2 := Lib.hid (HB.out.trans (b1.mono HB.out.size))
  clear b1 C2 HB hmf
  cases R with
  | true =>
    go_wp2
    go_ret
    exact ⟨rfl, HB2.out⟩
  | false =>
    go_wp2
    go_ret
    exact ⟨rfl, HB2.out⟩
end Go.Proofs.Ytcbpgbiannpfpaa
set_option linter.unusedVariables false
namespace Go.Proofs.Ytcbpgbiannpfpaa
open Go.RowKit

set_option maxRecDepth 100000 in
set_option maxHeartbeats 4000000 in
theorem isPlannable_impl (n : Int) (vr vd : Value) (rest : Int) (vc : Value) (D : List PairL) (L : List Int) (C : ClosL) (R : Bool) (w : World) (hR : R = true ↔ seaP n D L rest C)
    (hr : RdA tPairSS w [vr] D) (hd : IntRow w vd L.length (getI L)) (hc : RdA tClosedS w [vc] C) (hw : tPairSS.wt D ≤ 1048576) :
    Calls Try.prog 44 #[.int .i64 n, .agg #[vr, vd, .int .i64 rest, vc]] w fun e w' => e = .returned (.bool R) ∧ Below w.heap.size w w' := by
  obtain ⟨ra, rc, rfl, hrn⟩ := schedule_form hr
  obtain ⟨da, dc, rfl, hdn, _⟩ := hd.form
  obtain ⟨ca, cc, rfl, hcn⟩ := clos_form hc
  obtain ⟨nr, hnr⟩ : ∃ nr, List.length (α := PairL) D = nr := ⟨_, rfl⟩
  obtain ⟨nd, hnd⟩ : ∃ nd, L.length = nd := ⟨_, rfl⟩
  obtain ⟨nc, hnc⟩ : ∃ nc, List.length (α := tClosed.D) C = nc := ⟨_, rfl⟩
  obtain ⟨r1, hr1⟩ := boolEx (schedP n D)
  obtain ⟨r2, hr2⟩ := boolEx (closedP n C)
  obtain ⟨r3, hr3⟩ := boolEx (L.length ≤ 30 ∧ daysP L)
  obtain ⟨U, hU⟩ : ∃ U, w.alloc (.cells #[.slice ra nr rc, .slice da nd dc, .int .i64 rest, .slice ca nc cc] 44) = U := ⟨_, rfl⟩
  have CS := Lib.hid (fun wa h => isSchedule_impl (.slice ra (List.length (α := PairL) D) rc) D n r1 wa hr1 h hw)
  have CC := Lib.hid (fun wa h => closedOk_impl n (.slice ca (List.length (α := tClosed.D) C) cc) C r2 wa hr2 h)
  have CA := Lib.hid (fun wa h => areDays_impl (.slice da L.length dc) L r3 wa hr3 h)
  have HQ : Hid (R = true ↔ r1 = true ∧ r2 = true ∧ r3 = true ∧ (1 ≤ rest ∧ rest ≤ 60)) := by
    refine hR.trans ?_
    unfold seaP
    rw [hr1, hr2, hr3]
    exact ⟨fun h => ⟨h.1, h.2.1, ⟨h.2.2.1, h.2.2.2.2⟩, h.2.2.2.1⟩, fun h => ⟨h.1, h.2.1, h.2.2.1.1, h.2.2.2, h.2.2.1.2⟩⟩
  rw [hnr] at hr CS ⊢
  rw [hnd] at hd hdn CA ⊢
  rw [hnc] at hc hcn CC ⊢
  have HS : Hid (SeaAt U w.heap.size ra nr rc da nd dc rest ca nc cc D L C) := by rw [← hU]; exact SeaAt.made hr hd hc
  have HB : Hid (Below w.heap.size w U) := by rw [← hU]; exact (Below.refl _ _).alloc (Nat.le_refl _) _
  clear hr hd hc hR hw hnr hnd hnc hrn hcn hr1 hr2 hr3
  have HF : Hid (¬ (r1 = true ∧ r2 = true ∧ r3 = true ∧ (1 ≤ rest ∧ rest ≤ 60)) → R = false) := boolF HQ.out
  have HT : Hid ((r1 = true ∧ r2 = true ∧ r3 = true ∧ (1 ≤ rest ∧ rest ≤ 60)) → R = true) := boolT HQ.out
  clear HQ
  go_enter Try.func44, Try.ntmps44
  obtain ⟨c0, c1, c2, c3⟩ := HS.out.cells
  go_wp2_with fail
  clear hU
  refine (CS.out _ HS.out.2.1).mono ?_
  rintro e w1 ⟨rfl, b⟩
  have HS1 := Lib.hid (HS.out.below b)
  have HB1 := Lib.hid (HB.out.trans (b.mono HB.out.size))
  clear b c0 c1 c2 c3 HS HB
  obtain ⟨c0, c1, c2, c3⟩ := HS1.out.cells
  cases r1 with
  | false =>
    obtain rfl := HF.out (fun h => by have := h.1; cases this)
    go_wp2
    go_ret
    exact ⟨rfl, HB1.out⟩
  | true =>
  go_wp2_with fail
  refine (CC.out _ HS1.out.2.2.2).mono ?_
  rintro e w2 ⟨rfl, b⟩
  have HS2 := Lib.hid (HS1.out.below b)
  have HB2 := Lib.hid (HB1.out.trans (b.mono HB1.out.size))
  clear b c0 c1 c2 c3 HS1 HB1
  obtain ⟨c0, c1, c2, c3⟩ := HS2.out.cells
  cases r2 with
  | false =>
    obtain rfl := HF.out (fun h => by have := h.2.1; cases this)
    go_wp2
    go_ret
    exact ⟨rfl, HB2.out⟩
  | true =>
  go_wp2_with fail
  refine (CA.out _ HS2.out.2.2.1).mono ?_
  rintro e w3 ⟨rfl, b⟩
  have HS3 := Lib.hid (HS2.out.below b)
  have HB3 := Lib.hid (HB2.out.trans (b.mono HB2.out.size))
  clear b c0 c1 c2 c3 HS2 HB2
  obtain ⟨c0, c1, c2, c3⟩ := HS3.out.cells
  cases r3 with
  | false =>
    obtain rfl := HF.out (fun h => by have := h.2.2.1; cases this)
    go_wp2
    go_ret
    exact ⟨rfl, HB3.out⟩
  | true =>
  by_cases h1 : 1 ≤ rest
  case neg =>
    obtain rfl := HF.out (fun h => h1 h.2.2.2.1)
    have g1 : decide (1 ≤ rest) = false := decide_eq_false h1
    clear HT HF
    go_wp2
    go_ret
    exact ⟨rfl, HB3.out⟩
  have g1 : decide (1 ≤ rest) = true := decide_eq_true h1
  by_cases h2 : rest ≤ 60
  case neg =>
    obtain rfl := HF.out (fun h => h2 h.2.2.2.2)
    have g2 : decide (rest ≤ 60) = false := decide_eq_false h2
    clear HT HF
    go_wp2
    go_ret
    exact ⟨rfl, HB3.out⟩
  have g2 : decide (rest ≤ 60) = true := decide_eq_true h2
  obtain rfl := HT.out (by refine ⟨?_, ?_, ?_, h1, h2⟩ <;> first | rfl | trivial)
  clear HT HF
  go_wp2
  go_ret
  exact ⟨rfl, HB3.out⟩

set_option maxRecDepth 100000 in
set_option maxHeartbeats 4000000 in
theorem isCalendar_impl (n : Int) (vr vd : Value) (rest : Int) (vc : Value) (D : List PairL) (L : List Int) (C : ClosL) (vt : Value) (T : List Int) (R : Bool) (w : World) (hR : R = true ↔ calP n D L rest C T)
    (hr : RdA tPairSS w [vr] D) (hd : IntRow w vd L.length (getI L)) (hc : RdA tClosedS w [vc] C) (ht : IntRow w vt T.length (getI T)) (hw : tPairSS.wt D ≤ 1048576) :
    Calls Try.prog 22 #[.int .i64 n, .agg #[vr, vd, .int .i64 rest, vc], vt] w fun e w' => e = .returned (.bool R) ∧ Below w.heap.size w w' := by
  obtain ⟨ra, rc, rfl, hrn⟩ := schedule_form hr
  obtain ⟨da, dc, rfl, hdn, _⟩ := hd.form
  obtain ⟨ca, cc, rfl, hcn⟩ := clos_form hc
  obtain ⟨nr, hnr⟩ : ∃ nr, List.length (α := PairL) D = nr := ⟨_, rfl⟩
  obtain ⟨nd, hnd⟩ : ∃ nd, L.length = nd := ⟨_, rfl⟩
  obtain ⟨nc, hnc⟩ : ∃ nc, List.length (α := tClosed.D) C = nc := ⟨_, rfl⟩
  obtain ⟨ta, tc, rfl, htn, _⟩ := ht.form
  obtain ⟨nt, hnt⟩ : ∃ nt, T.length = nt := ⟨_, rfl⟩
  obtain ⟨r1, hr1⟩ := boolEx (seaP n D L rest C)
  obtain ⟨U, hU⟩ : ∃ U, w.alloc (.cells #[.slice ra nr rc, .slice da nd dc, .int .i64 rest, .slice ca nc cc] 44) = U := ⟨_, rfl⟩
  have bU : Below w.heap.size w U := by rw [← hU]; exact (Below.refl _ _).alloc (Nat.le_refl _) _
  have CS := Lib.hid (isPlannable_impl n _ _ rest _ D L C r1 U hr1 (hr.below bU) (hd.below bU (Nat.le_refl _)) (hc.below bU) hw)
  have HN := Lib.hid (boolF hR)
  have HY := Lib.hid (boolT hR)
  have HNR := Lib.hid hnr
  have HNT := Lib.hid hnt
  have HND := Lib.hid hnd
  rw [hnr] at hr CS ⊢
  rw [hnd] at hd hdn CS ⊢
  rw [hnc] at hc hcn CS ⊢
  rw [hnt] at ht htn ⊢
  have HS : Hid (SeaAt U w.heap.size ra nr rc da nd dc rest ca nc cc D L C) := by rw [← hU]; exact SeaAt.made hr hd hc
  have HB := Lib.hid bU
  have HT := Lib.hid (ht.below bU (Nat.le_refl _))
  have HR1 := Lib.hid hr1
  clear hr hd hc hR hw hnr hnd hnc ht hnt hrn hcn bU hr1
  obtain ⟨c0, c1, c2, c3⟩ := HS.out.cells
  go_enter Try.func22, Try.ntmps22
  go_wp2_with fail
  clear hU
  refine CS.out.mono ?_
  rintro e w1 ⟨rfl, b⟩
  have HS1 := Lib.hid (HS.out.below b)
  have HT1 := Lib.hid (HT.out.below b (Nat.le_refl _))
  have HB1 := Lib.hid (HB.out.trans (b.mono HB.out.size))
  clear b c0 c1 c2 c3 HS HB HT CS
  obtain ⟨c0, c1, c2, c3⟩ := HS1.out.cells
  cases r1 with
  | false =>
    obtain rfl := HN.out (fun h => by have := HR1.out.2 h.1; cases this)
    go_wp2
    go_ret
    exact ⟨rfl, HB1.out⟩
  | true =>
  by_cases hne : nt = nr
  case neg =>
    obtain rfl := HN.out (fun h => hne (by have := h.2.1; rw [HNT.out, HNR.out] at this; exact this))
    have g1 : ((nt : Int) != (nr : Int)) = true := by simp; omega
    go_wp2
    go_ret
    exact ⟨rfl, HB1.out⟩
  subst hne
  have HSea : Hid (seaP n D L rest C) := HR1.out.1 (by first | rfl | trivial)
  have HRS : Hid (1 ≤ rest ∧ rest ≤ 60) := HSea.out.2.2.2.1
  have HDY : Hid (∀ x ∈ L, 0 ≤ x ∧ x ≤ 60) := fun x hx => by
    obtain ⟨i, hi⟩ := List.mem_iff_getElem?.1 hx
    have hil := (List.getElem?_eq_some_iff.1 hi).1
    have h9 := (HSea.out.2.2.2.2 i hil).1
    have e : getI L i = x := by unfold getI; rw [List.getD_eq_getElem?_getD, hi]; rfl
    rw [e] at h9
    exact h9
  have HAS : Hid (AscL L) := days_asc HSea.out.2.2.2.2
  have HNo : Hid (¬ datesP D L rest C T nt → R = false) := fun h => HN.out fun hp => h (by have := hp.2.2; rw [HNT.out] at this; exact this)
  have HYes : Hid (datesP D L rest C T nt → R = true) := fun h => HY.out ⟨HSea.out, by rw [HNT.out, HNR.out], by rw [HNT.out]; exact h⟩
  have HD1 : Hid (IntRow w1 (.slice da nd dc) L.length (getI L)) := by rw [HND.out]; exact HS1.out.2.2.1
  have hd30 : L.length ≤ 30 := HSea.out.2.2.1
  have HD30 := Lib.hid hd30
  clear HN HY HR1 hd30
  go_wp2
  clear c0 c1 c2 c3
  go_loopw [7, 26] (fun sv iv wr => ∃ (k : Nat) (vd' : Value) (Ld : List Int), k ≤ nt ∧ vd' = sv ∧ iv = .int .i64 k ∧ Hid (AscL Ld ∧ Ld.length ≤ 30 ∧ ∀ x, x ∈ Ld ↔ x ∈ L ∧ (0 < k → getI T (k - 1) + rest ≤ x)) ∧ Hid (IntRow wr vd' Ld.length (getI Ld)) ∧ Hid (datesP D L rest C T k) ∧ Hid (SeaAt wr w.heap.size ra nt rc da nd dc rest ca nc cc D L C) ∧ Hid (IntRow wr (.slice ta nt tc) nt (getI T)) ∧ Hid (Below w.heap.size w wr)) (fun _ iv _ => nt - (RowKit.intOf iv).toNat)
  case atStart => exact ⟨0, _, L, Nat.zero_le _, rfl, rfl, ⟨HAS.out, HD30.out, fun x => ⟨fun h => ⟨h, fun h0 => absurd h0 (Nat.lt_irrefl _)⟩, fun h => h.1⟩⟩, HD1, fun i hi => absurd hi (Nat.not_lt_zero _), HS1, HT1, HB1⟩
  case round =>
    clear HS1 HT1 HB1 HD1 HAS
    obtain ⟨k, vd', Ld, hk9, rfl, rfl, HLD, HD, HV, HS, HT, HB⟩ := hrel
    by_cases hlt : k < nt
    · obtain ⟨tb, to, hta, hcap, q0⟩ := int_at HT.out hlt
      subst hta
      obtain ⟨rr, hrr⟩ : ∃ rr : PairL, D[k]? = some rr := ⟨_, List.getElem?_eq_getElem (by rw [HNR.out]; exact hlt)⟩
      obtain ⟨rb, ro, xa, xc, hra, hcap2, hq, hrd, hx63⟩ := round_cells (by rw [HNR.out]; exact HS.out.2.1) hrr
      subst hra
      rw [HNR.out] at hcap2
      have hat : atR D k = rr := by unfold atR; rw [hrr]; rfl
      have hj1 : (k : Int) < (nt : Int) := by omega
      have HVN : Hid ((getI T k ∈ Ld ∧ playB rr (getI T k) C = true) → datesP D L rest C T (k + 1)) := fun h i hi => by
        by_cases e : i = k
        · subst e; rw [hat]; exact ⟨((HLD.out.2.2 _).1 h.1).1, ((HLD.out.2.2 _).1 h.1).2, h.2⟩
        · exact HV.out i (by omega)
      have HF : Hid (¬ (getI T k ∈ Ld ∧ playB rr (getI T k) C = true) → R = false) := fun h => HNo.out fun hp => h (by have := hp k hlt; rw [hat] at this; exact ⟨(HLD.out.2.2 _).2 ⟨this.1, this.2.1⟩, this.2.2⟩)
      have CP : Hid (∀ wa, RdA tPairS wa [.slice xa (List.length (α := tPair.D) rr) xc] rr → RdA tClosedS wa [.slice ca nc cc] C → Calls Try.prog 16 #[.slice xa (List.length (α := tPair.D) rr) xc, .int .i64 (getI T k), .slice ca nc cc] wa fun e w' => e = .returned (.bool (playB rr (getI T k) C)) ∧ Below wa.heap.size wa w') := fun wa h1 h2 => canPlayOn_impl _ rr (getI T k) _ C wa h1 h2
      have CF : Hid (∀ wa, IntRow wa vd' Ld.length (getI Ld) → Calls Try.prog 46 #[vd', .int .i64 (getI T k + rest)] wa fun e w' => (∃ v2, e = .returned v2 ∧ IntRow w' v2 (fromL (getI T k + rest) Ld).length (getI (fromL (getI T k + rest) Ld))) ∧ Below wa.heap.size wa w') := fun wa h => (daysFrom_impl vd' Ld (getI T k + rest) wa h HLD.out.1 (by have := HLD.out.2.1; omega)).mono fun e w' h9 => ⟨⟨_, h9.1, (subV_from h HLD.out.1 _).below h9.2 (Nat.le_refl _)⟩, h9.2⟩
      have HLN : Hid (getI T k ∈ Ld → (AscL (fromL (getI T k + rest) Ld) ∧ (fromL (getI T k + rest) Ld).length ≤ 30 ∧ ∀ x, x ∈ fromL (getI T k + rest) Ld ↔ x ∈ L ∧ (0 < k + 1 → getI T (k + 1 - 1) + rest ≤ x))) := fun hm => ⟨asc_from _ HLD.out.1, Nat.le_trans (List.length_filter_le _ _) HLD.out.2.1, fun x => by
        unfold fromL
        rw [List.mem_filter, decide_eq_true_eq, HLD.out.2.2, Nat.add_sub_cancel]
        have h9 := (HLD.out.2.2 _).1 hm
        have h8 := HRS.out
        constructor
        · rintro ⟨⟨h1, _⟩, h3⟩; exact ⟨h1, fun _ => h3⟩
        · rintro ⟨h1, h3⟩
          have h3 := h3 (Nat.succ_pos _)
          exact ⟨⟨h1, fun h0 => by have := h9.2 h0; omega⟩, h3⟩⟩
      obtain ⟨xn, hxn⟩ : ∃ xn, List.length (α := tPair.D) rr = xn := ⟨_, rfl⟩
      rw [hxn] at hq hrd hx63 CP
      have HC2 := Lib.hid hq
      have HRR := Lib.hid hrd
      obtain ⟨rh, hrh⟩ := boolEx (getI T k ∈ Ld)
      have CH : Hid (∀ wa, IntRow wa vd' Ld.length (getI Ld) → Calls Try.prog 45 #[vd', .int .i64 (getI T k)] wa fun e w' => e = .returned (.bool rh) ∧ Below wa.heap.size wa w') := fun wa h => (slicesContains_int vd' _ _ _ rh wa (hrh.trans (hasP_mem Ld _).symm) h).mono fun e w' h => ⟨h.1, by rw [← h.2]; exact Below.refl _ _⟩
      have HRH := Lib.hid hrh
      have HMD : Hid (getI T k ∈ Ld → 0 ≤ getI T k ∧ getI T k ≤ 60) := fun h => HDY.out _ ((HLD.out.2.2 _).1 h).1
      clear hrr hat hxn hq hrd hrh HV HLD
      cases rh with
      | false =>
        obtain rfl := HF.out (fun h => by have := HRH.out.2 h.1; cases this)
        clear HF HVN HRH HLN CF CP HMD
        generalize getI T k = x at *
        obtain ⟨S, HSd⟩ : ∃ S : World → Prop, S = fun w' => (SeaAt w' w.heap.size (some ⟨rb, ro, none⟩) nt rc da nd dc rest ca nc cc D L C ∧ IntRow w' vd' Ld.length (getI Ld) ∧ w'.cell? ⟨rb, ro + k, none⟩ = some (.slice xa xn xc) ∧ RdA tPairS w' [.slice xa xn xc] rr ∧ IntRow w' (.slice (some ⟨tb, to, none⟩) nt tc) nt (getI T) ∧ Below w.heap.size w w') := ⟨_, rfl⟩
        have KS : Hid (∀ wa wb, S wa → Below wa.heap.size wa wb → S wb) := by subst HSd; exact fun wa wb h b => ⟨h.1.below b, h.2.1.below b (Nat.le_refl _), (b.cell (p := ⟨rb, ro + k, none⟩) (World.block_lt_of_cell? wa _ h.2.2.1)).trans h.2.2.1, h.2.2.2.1.below b, h.2.2.2.2.1.below b (Nat.le_refl _), h.2.2.2.2.2.trans (b.mono h.2.2.2.2.2.size)⟩
        have OS : Hid (∀ wa, S wa → (SeaAt wa w.heap.size (some ⟨rb, ro, none⟩) nt rc da nd dc rest ca nc cc D L C ∧ IntRow wa vd' Ld.length (getI Ld) ∧ wa.cell? ⟨rb, ro + k, none⟩ = some (.slice xa xn xc) ∧ RdA tPairS wa [.slice xa xn xc] rr ∧ IntRow wa (.slice (some ⟨tb, to, none⟩) nt tc) nt (getI T) ∧ Below w.heap.size w wa)) := by subst HSd; exact fun wa h => h
        have IS : Hid (∀ wa, (SeaAt wa w.heap.size (some ⟨rb, ro, none⟩) nt rc da nd dc rest ca nc cc D L C ∧ IntRow wa vd' Ld.length (getI Ld) ∧ wa.cell? ⟨rb, ro + k, none⟩ = some (.slice xa xn xc) ∧ RdA tPairS wa [.slice xa xn xc] rr ∧ IntRow wa (.slice (some ⟨tb, to, none⟩) nt tc) nt (getI T) ∧ Below w.heap.size w wa) → S wa) := by subst HSd; exact fun wa h => h
        clear HSd
        go_wp2_with fail
        refine wp_region_held_drew (S := S) (by kernel_rfl) ?_ (fun hHeld => ?_)
        · exact IS.out _ ((fun (b : Below wr.heap.size wr wr.drew) => ⟨HS.out.below b, HD.out.below b (Nat.le_refl _), (b.cell (p := ⟨rb, ro + k, none⟩) (World.block_lt_of_cell? wr _ HC2.out)).trans HC2.out, HRR.out.below b, HT.out.below b (Nat.le_refl _), HB.out.trans (b.mono HB.out.size)⟩) (Below.refl _ _).drew)
        refine wpAnyH_take (i := 0) (v := ?_) rfl (by kernel_rfl) (by kernel_rfl) (by kernel_rfl) (fun _ _ _ h => h) (Or.inl ⟨by rfl, ?_⟩) hHeld ?_
        rotate_left
        · (intro wa hSw; go_simp; try with_reducible rfl)
        simp only [Act.put, List.getElem_toArray, List.getElem_cons_zero, List.setIfInBounds_toArray, List.set_cons_zero, List.set_cons_succ]
        refine wpAnyH_take (i := 1) (v := ?_) rfl (by kernel_rfl) (by kernel_rfl) (by kernel_rfl) (fun _ _ _ h => h) (Or.inl ⟨by rfl, ?_⟩) hHeld ?_
        rotate_left
        · (intro wa hSw; go_simp; try with_reducible rfl)
        simp only [Act.put, List.getElem_toArray, List.getElem_cons_zero, List.getElem_cons_succ, List.setIfInBounds_toArray, List.set_cons_zero, List.set_cons_succ]
        refine wpAnyH_ready (rs := [2]) (by kernel_rfl) (by simp) ?_
        refine AllReadyH.cons (o := _) rfl (fun K hK => ?_) AllReadyH.nil
        go_simp
        have KK := OS.out _ hHeld
        refine (CH.out _ KK.2.1).mono ?_
        rintro e w101 ⟨rfl, b101⟩
        clear KK
        (try go_wp2_with fail)
        refine hK.out _ _ ?_ (fun hHeld101 => ?_)
        · exact KS.out _ _ hHeld b101
        clear hK K
        refine wpAnyH_take (i := 3) (v := ?_) rfl (by kernel_rfl) (by kernel_rfl) (by kernel_rfl) (fun _ _ _ h => h) (Or.inl ⟨by rfl, ?_⟩) hHeld101 ?_
        rotate_left
        · (intro wa hSw; go_simp; try with_reducible rfl)
        simp only [Act.put, List.getElem_toArray, List.getElem_cons_zero, List.getElem_cons_succ, List.setIfInBounds_toArray, List.set_cons_zero, List.set_cons_succ]
        refine wpAnyH_take (i := 4) (v := ?_) rfl (by kernel_rfl) (by kernel_rfl) (by kernel_rfl) (fun _ _ _ h => h) (Or.inl ⟨by rfl, ?_⟩) hHeld101 ?_
        rotate_left
        · (intro wa hSw; go_simp; try with_reducible rfl)
        simp only [Act.put, List.getElem_toArray, List.getElem_cons_zero, List.getElem_cons_succ, List.setIfInBounds_toArray, List.set_cons_zero, List.set_cons_succ]
        refine wpAnyH_take (i := 5) (v := undef) rfl (by kernel_rfl) (by kernel_rfl) (by kernel_rfl) (fun _ _ _ h => h) (Or.inr ⟨by rfl, rfl⟩) hHeld101 ?_
        simp only [Act.put, List.getElem_toArray, List.getElem_cons_zero, List.getElem_cons_succ, List.setIfInBounds_toArray, List.set_cons_zero, List.set_cons_succ]
        refine wpAnyH_take (i := 6) (v := undef) rfl (by kernel_rfl) (by kernel_rfl) (by kernel_rfl) (fun _ _ _ h => h) (Or.inr ⟨by rfl, rfl⟩) hHeld101 ?_
        simp only [Act.put, List.getElem_toArray, List.getElem_cons_zero, List.getElem_cons_succ, List.setIfInBounds_toArray, List.set_cons_zero, List.set_cons_succ]
        refine wpAnyH_take (i := 7) (v := undef) rfl (by kernel_rfl) (by kernel_rfl) (by kernel_rfl) (fun _ _ _ h => h) (Or.inr ⟨by rfl, rfl⟩) hHeld101 ?_
        simp only [Act.put, List.getElem_toArray, List.getElem_cons_zero, List.getElem_cons_succ, List.setIfInBounds_toArray, List.set_cons_zero, List.set_cons_succ]
        refine wpAnyH_take (i := 8) (v := undef) rfl (by kernel_rfl) (by kernel_rfl) (by kernel_rfl) (fun _ _ _ h => h) (Or.inr ⟨by rfl, rfl⟩) hHeld101 ?_
        simp only [Act.put, List.getElem_toArray, List.getElem_cons_zero, List.getElem_cons_succ, List.setIfInBounds_toArray, List.set_cons_zero, List.set_cons_succ]
        refine wpAnyH_take (i := 9) (v := undef) rfl (by kernel_rfl) (by kernel_rfl) (by kernel_rfl) (fun _ _ _ h => h) (Or.inr ⟨by rfl, rfl⟩) hHeld101 ?_
        simp only [Act.put, List.getElem_toArray, List.getElem_cons_zero, List.getElem_cons_succ, List.setIfInBounds_toArray, List.set_cons_zero, List.set_cons_succ]
        refine wpAnyH_take (i := 10) (v := undef) rfl (by kernel_rfl) (by kernel_rfl) (by kernel_rfl) (fun _ _ _ h => h) (Or.inr ⟨by rfl, rfl⟩) hHeld101 ?_
        simp only [Act.put, List.getElem_toArray, List.getElem_cons_zero, List.getElem_cons_succ, List.setIfInBounds_toArray, List.set_cons_zero, List.set_cons_succ]
        refine wpAnyH_take (i := 11) (v := undef) rfl (by kernel_rfl) (by kernel_rfl) (by kernel_rfl) (fun _ _ _ h => h) (Or.inr ⟨by rfl, rfl⟩) hHeld101 ?_
        simp only [Act.put, List.getElem_toArray, List.getElem_cons_zero, List.getElem_cons_succ, List.setIfInBounds_toArray, List.set_cons_zero, List.set_cons_succ]
        refine wpAnyH_take (i := 12) (v := undef) rfl (by kernel_rfl) (by kernel_rfl) (by kernel_rfl) (fun _ _ _ h => h) (Or.inr ⟨by rfl, rfl⟩) hHeld101 ?_
        simp only [Act.put, List.getElem_toArray, List.getElem_cons_zero, List.getElem_cons_succ, List.setIfInBounds_toArray, List.set_cons_zero, List.set_cons_succ]
        refine wpAnyH_take (i := 13) (v := undef) rfl (by kernel_rfl) (by kernel_rfl) (by kernel_rfl) (fun _ _ _ h => h) (Or.inr ⟨by rfl, rfl⟩) hHeld101 ?_
        simp only [Act.put, List.getElem_toArray, List.getElem_cons_zero, List.getElem_cons_succ, List.setIfInBounds_toArray, List.set_cons_zero, List.set_cons_succ]
        refine wpAnyH_take (i := 14) (v := undef) rfl (by kernel_rfl) (by kernel_rfl) (by kernel_rfl) (fun _ _ _ h => h) (Or.inr ⟨by rfl, rfl⟩) hHeld101 ?_
        simp only [Act.put, List.getElem_toArray, List.getElem_cons_zero, List.getElem_cons_succ, List.setIfInBounds_toArray, List.set_cons_zero, List.set_cons_succ]
        refine wpAnyH_take (i := 15) (v := ?_) rfl (by kernel_rfl) (by kernel_rfl) (by kernel_rfl) (fun _ _ _ h => h) (Or.inl ⟨by rfl, ?_⟩) hHeld101 ?_
        rotate_left
        · (intro wa hSw; go_simp; try with_reducible rfl)
        simp only [Act.put, List.getElem_toArray, List.getElem_cons_zero, List.getElem_cons_succ, List.setIfInBounds_toArray, List.set_cons_zero, List.set_cons_succ]
        refine wpAnyH_done (by kernel_rfl) ?_ _
        have KE := Lib.hid (OS.out _ hHeld101)
        clear KS OS IS hHeld hHeld101
        have HE := Lib.hid KE.out
        go_wp2
        go_ret
        exact ⟨rfl, HE.out.2.2.2.2.2⟩
      | true =>
      have HM := Lib.hid (HRH.out.1 rfl)
      have hxr := HMD.out HM.out
      have HLX := Lib.hid (HLN.out HM.out)
      obtain ⟨pl, hpl⟩ : ∃ pl, playB rr (getI T k) C = pl := ⟨_, rfl⟩
      rw [hpl] at CP HVN HF
      clear hpl HRH HLN HMD
      cases pl with
      | false =>
        obtain rfl := HF.out (fun h => by have := h.2; cases this)
        clear HF HVN HM HLX CF
        generalize getI T k = x at *
        obtain ⟨S, HSd⟩ : ∃ S : World → Prop, S = fun w' => (SeaAt w' w.heap.size (some ⟨rb, ro, none⟩) nt rc da nd dc rest ca nc cc D L C ∧ IntRow w' vd' Ld.length (getI Ld) ∧ w'.cell? ⟨rb, ro + k, none⟩ = some (.slice xa xn xc) ∧ RdA tPairS w' [.slice xa xn xc] rr ∧ IntRow w' (.slice (some ⟨tb, to, none⟩) nt tc) nt (getI T) ∧ Below w.heap.size w w') := ⟨_, rfl⟩
        have KS : Hid (∀ wa wb, S wa → Below wa.heap.size wa wb → S wb) := by subst HSd; exact fun wa wb h b => ⟨h.1.below b, h.2.1.below b (Nat.le_refl _), (b.cell (p := ⟨rb, ro + k, none⟩) (World.block_lt_of_cell? wa _ h.2.2.1)).trans h.2.2.1, h.2.2.2.1.below b, h.2.2.2.2.1.below b (Nat.le_refl _), h.2.2.2.2.2.trans (b.mono h.2.2.2.2.2.size)⟩
        have OS : Hid (∀ wa, S wa → (SeaAt wa w.heap.size (some ⟨rb, ro, none⟩) nt rc da nd dc rest ca nc cc D L C ∧ IntRow wa vd' Ld.length (getI Ld) ∧ wa.cell? ⟨rb, ro + k, none⟩ = some (.slice xa xn xc) ∧ RdA tPairS wa [.slice xa xn xc] rr ∧ IntRow wa (.slice (some ⟨tb, to, none⟩) nt tc) nt (getI T) ∧ Below w.heap.size w wa)) := by subst HSd; exact fun wa h => h
        have IS : Hid (∀ wa, (SeaAt wa w.heap.size (some ⟨rb, ro, none⟩) nt rc da nd dc rest ca nc cc D L C ∧ IntRow wa vd' Ld.length (getI Ld) ∧ wa.cell? ⟨rb, ro + k, none⟩ = some (.slice xa xn xc) ∧ RdA tPairS wa [.slice xa xn xc] rr ∧ IntRow wa (.slice (some ⟨tb, to, none⟩) nt tc) nt (getI T) ∧ Below w.heap.size w wa) → S wa) := by subst HSd; exact fun wa h => h
        clear HSd
        go_wp2_with fail
        refine wp_region_held_drew (S := S) (by kernel_rfl) ?_ (fun hHeld => ?_)
        · exact IS.out _ ((fun (b : Below wr.heap.size wr wr.drew) => ⟨HS.out.below b, HD.out.below b (Nat.le_refl _), (b.cell (p := ⟨rb, ro + k, none⟩) (World.block_lt_of_cell? wr _ HC2.out)).trans HC2.out, HRR.out.below b, HT.out.below b (Nat.le_refl _), HB.out.trans (b.mono HB.out.size)⟩) (Below.refl _ _).drew)
        refine wpAnyH_take (i := 0) (v := ?_) rfl (by kernel_rfl) (by kernel_rfl) (by kernel_rfl) (fun _ _ _ h => h) (Or.inl ⟨by rfl, ?_⟩) hHeld ?_
        rotate_left
        · (intro wa hSw; go_simp; try with_reducible rfl)
        simp only [Act.put, List.getElem_toArray, List.getElem_cons_zero, List.setIfInBounds_toArray, List.set_cons_zero, List.set_cons_succ]
        refine wpAnyH_take (i := 1) (v := ?_) rfl (by kernel_rfl) (by kernel_rfl) (by kernel_rfl) (fun _ _ _ h => h) (Or.inl ⟨by rfl, ?_⟩) hHeld ?_
        rotate_left
        · (intro wa hSw; go_simp; try with_reducible rfl)
        simp only [Act.put, List.getElem_toArray, List.getElem_cons_zero, List.getElem_cons_succ, List.setIfInBounds_toArray, List.set_cons_zero, List.set_cons_succ]
        refine wpAnyH_ready (rs := [2]) (by kernel_rfl) (by simp) ?_
        refine AllReadyH.cons (o := _) rfl (fun K hK => ?_) AllReadyH.nil
        go_simp
        have KK := OS.out _ hHeld
        refine (CH.out _ KK.2.1).mono ?_
        rintro e w101 ⟨rfl, b101⟩
        clear KK
        (try go_wp2_with fail)
        refine hK.out _ _ ?_ (fun hHeld101 => ?_)
        · exact KS.out _ _ hHeld b101
        clear hK K
        refine wpAnyH_take (i := 3) (v := ?_) rfl (by kernel_rfl) (by kernel_rfl) (by kernel_rfl) (fun _ _ _ h => h) (Or.inl ⟨by rfl, ?_⟩) hHeld101 ?_
        rotate_left
        · (intro wa hSw; go_simp; try with_reducible rfl)
        simp only [Act.put, List.getElem_toArray, List.getElem_cons_zero, List.getElem_cons_succ, List.setIfInBounds_toArray, List.set_cons_zero, List.set_cons_succ]
        refine wpAnyH_take (i := 4) (v := ?_) rfl (by kernel_rfl) (by kernel_rfl) (by kernel_rfl) (fun _ _ _ h => h) (Or.inl ⟨by rfl, ?_⟩) hHeld101 ?_
        rotate_left
        · (intro wa hSw; go_simp; try with_reducible rfl)
        simp only [Act.put, List.getElem_toArray, List.getElem_cons_zero, List.getElem_cons_succ, List.setIfInBounds_toArray, List.set_cons_zero, List.set_cons_succ]
        refine wpAnyH_take (i := 5) (v := ?_) rfl (by kernel_rfl) (by kernel_rfl) (by kernel_rfl) (fun _ _ _ h => h) (Or.inl ⟨by rfl, ?_⟩) hHeld101 ?_
        rotate_left
        · (intro wa hSw; go_simp; try with_reducible rfl)
        simp only [Act.put, List.getElem_toArray, List.getElem_cons_zero, List.getElem_cons_succ, List.setIfInBounds_toArray, List.set_cons_zero, List.set_cons_succ]
        refine wpAnyH_take (i := 6) (v := ?_) rfl (by kernel_rfl) (by kernel_rfl) (by kernel_rfl) (fun _ _ _ h => h) (Or.inl ⟨by rfl, ?_⟩) hHeld101 ?_
        rotate_left
        · (intro wa hSw; have K := OS.out _ hSw; obtain ⟨cb0, cb1, cb2, cb3⟩ := K.1.cells; have cr := K.2.2.1; go_simp; try with_reducible rfl)
        simp only [Act.put, List.getElem_toArray, List.getElem_cons_zero, List.getElem_cons_succ, List.setIfInBounds_toArray, List.set_cons_zero, List.set_cons_succ]
        refine wpAnyH_take (i := 7) (v := ?_) rfl (by kernel_rfl) (by kernel_rfl) (by kernel_rfl) (fun _ _ _ h => h) (Or.inl ⟨by rfl, ?_⟩) hHeld101 ?_
        rotate_left
        · (intro wa hSw; go_simp; try with_reducible rfl)
        simp only [Act.put, List.getElem_toArray, List.getElem_cons_zero, List.getElem_cons_succ, List.setIfInBounds_toArray, List.set_cons_zero, List.set_cons_succ]
        refine wpAnyH_take (i := 8) (v := ?_) rfl (by kernel_rfl) (by kernel_rfl) (by kernel_rfl) (fun _ _ _ h => h) (Or.inl ⟨by rfl, ?_⟩) hHeld101 ?_
        rotate_left
        · (intro wa hSw; go_simp; try with_reducible rfl)
        simp only [Act.put, List.getElem_toArray, List.getElem_cons_zero, List.getElem_cons_succ, List.setIfInBounds_toArray, List.set_cons_zero, List.set_cons_succ]
        refine wpAnyH_take (i := 9) (v := ?_) rfl (by kernel_rfl) (by kernel_rfl) (by kernel_rfl) (fun _ _ _ h => h) (Or.inl ⟨by rfl, ?_⟩) hHeld101 ?_
        rotate_left
        · (intro wa hSw; have K := OS.out _ hSw; obtain ⟨cb0, cb1, cb2, cb3⟩ := K.1.cells; have cr := K.2.2.1; go_simp; try with_reducible rfl)
        simp only [Act.put, List.getElem_toArray, List.getElem_cons_zero, List.getElem_cons_succ, List.setIfInBounds_toArray, List.set_cons_zero, List.set_cons_succ]
        refine wpAnyH_take (i := 10) (v := ?_) rfl (by kernel_rfl) (by kernel_rfl) (by kernel_rfl) (fun _ _ _ h => h) (Or.inl ⟨by rfl, ?_⟩) hHeld101 ?_
        rotate_left
        · (intro wa hSw; go_simp; try with_reducible rfl)
        simp only [Act.put, List.getElem_toArray, List.getElem_cons_zero, List.getElem_cons_succ, List.setIfInBounds_toArray, List.set_cons_zero, List.set_cons_succ]
        refine wpAnyH_take (i := 11) (v := ?_) rfl (by kernel_rfl) (by kernel_rfl) (by kernel_rfl) (fun _ _ _ h => h) (Or.inl ⟨by rfl, ?_⟩) hHeld101 ?_
        rotate_left
        · (intro wa hSw; go_simp; try with_reducible rfl)
        simp only [Act.put, List.getElem_toArray, List.getElem_cons_zero, List.getElem_cons_succ, List.setIfInBounds_toArray, List.set_cons_zero, List.set_cons_succ]
        refine wpAnyH_take (i := 12) (v := ?_) rfl (by kernel_rfl) (by kernel_rfl) (by kernel_rfl) (fun _ _ _ h => h) (Or.inl ⟨by rfl, ?_⟩) hHeld101 ?_
        rotate_left
        · (intro wa hSw; have K := OS.out _ hSw; obtain ⟨cb0, cb1, cb2, cb3⟩ := K.1.cells; have cr := K.2.2.1; go_simp; try with_reducible rfl)
        simp only [Act.put, List.getElem_toArray, List.getElem_cons_zero, List.getElem_cons_succ, List.setIfInBounds_toArray, List.set_cons_zero, List.set_cons_succ]
        refine wpAnyH_ready (rs := [13]) (by kernel_rfl) (by simp) ?_
        refine AllReadyH.cons (o := _) rfl (fun K hK => ?_) AllReadyH.nil
        go_simp
        have KK := OS.out _ hHeld101
        refine (CP.out _ KK.2.2.2.1 KK.1.2.2.2).mono ?_
        rintro e w102 ⟨rfl, b102⟩
        clear KK
        (try go_wp2_with fail)
        refine hK.out _ _ ?_ (fun hHeld102 => ?_)
        · exact KS.out _ _ hHeld101 b102
        clear hK K
        clear hHeld101
        refine wpAnyH_take (i := 14) (v := ?_) rfl (by kernel_rfl) (by kernel_rfl) (by kernel_rfl) (fun _ _ _ h => h) (Or.inl ⟨by rfl, ?_⟩) hHeld102 ?_
        rotate_left
        · (intro wa hSw; go_simp; try with_reducible rfl)
        simp only [Act.put, List.getElem_toArray, List.getElem_cons_zero, List.getElem_cons_succ, List.setIfInBounds_toArray, List.set_cons_zero, List.set_cons_succ]
        refine wpAnyH_take (i := 15) (v := ?_) rfl (by kernel_rfl) (by kernel_rfl) (by kernel_rfl) (fun _ _ _ h => h) (Or.inl ⟨by rfl, ?_⟩) hHeld102 ?_
        rotate_left
        · (intro wa hSw; go_simp; try with_reducible rfl)
        simp only [Act.put, List.getElem_toArray, List.getElem_cons_zero, List.getElem_cons_succ, List.setIfInBounds_toArray, List.set_cons_zero, List.set_cons_succ]
        refine wpAnyH_done (by kernel_rfl) ?_ _
        have KE := Lib.hid (OS.out _ hHeld102)
        clear KS OS IS hHeld hHeld102
        have HE := Lib.hid KE.out
        go_wp2
        go_ret
        exact ⟨rfl, HE.out.2.2.2.2.2⟩
      | true =>
        have HVx := Lib.hid (HVN.out ⟨HM.out, rfl⟩)
        clear HF HVN HM
        generalize hxe : getI T k = x at *
        clear hxe
        obtain ⟨S, HSd⟩ : ∃ S : World → Prop, S = fun w' => (SeaAt w' w.heap.size (some ⟨rb, ro, none⟩) nt rc da nd dc rest ca nc cc D L C ∧ IntRow w' vd' Ld.length (getI Ld) ∧ w'.cell? ⟨rb, ro + k, none⟩ = some (.slice xa xn xc) ∧ RdA tPairS w' [.slice xa xn xc] rr ∧ IntRow w' (.slice (some ⟨tb, to, none⟩) nt tc) nt (getI T) ∧ Below w.heap.size w w') := ⟨_, rfl⟩
        have KS : Hid (∀ wa wb, S wa → Below wa.heap.size wa wb → S wb) := by subst HSd; exact fun wa wb h b => ⟨h.1.below b, h.2.1.below b (Nat.le_refl _), (b.cell (p := ⟨rb, ro + k, none⟩) (World.block_lt_of_cell? wa _ h.2.2.1)).trans h.2.2.1, h.2.2.2.1.below b, h.2.2.2.2.1.below b (Nat.le_refl _), h.2.2.2.2.2.trans (b.mono h.2.2.2.2.2.size)⟩
        have OS : Hid (∀ wa, S wa → (SeaAt wa w.heap.size (some ⟨rb, ro, none⟩) nt rc da nd dc rest ca nc cc D L C ∧ IntRow wa vd' Ld.length (getI Ld) ∧ wa.cell? ⟨rb, ro + k, none⟩ = some (.slice xa xn xc) ∧ RdA tPairS wa [.slice xa xn xc] rr ∧ IntRow wa (.slice (some ⟨tb, to, none⟩) nt tc) nt (getI T) ∧ Below w.heap.size w wa)) := by subst HSd; exact fun wa h => h
        have IS : Hid (∀ wa, (SeaAt wa w.heap.size (some ⟨rb, ro, none⟩) nt rc da nd dc rest ca nc cc D L C ∧ IntRow wa vd' Ld.length (getI Ld) ∧ wa.cell? ⟨rb, ro + k, none⟩ = some (.slice xa xn xc) ∧ RdA tPairS wa [.slice xa xn xc] rr ∧ IntRow wa (.slice (some ⟨tb, to, none⟩) nt tc) nt (getI T) ∧ Below w.heap.size w wa) → S wa) := by subst HSd; exact fun wa h => h
        clear HSd
        go_wp2_with fail
        refine wp_region_held_drew (S := S) (by kernel_rfl) ?_ (fun hHeld => ?_)
        · exact IS.out _ ((fun (b : Below wr.heap.size wr wr.drew) => ⟨HS.out.below b, HD.out.below b (Nat.le_refl _), (b.cell (p := ⟨rb, ro + k, none⟩) (World.block_lt_of_cell? wr _ HC2.out)).trans HC2.out, HRR.out.below b, HT.out.below b (Nat.le_refl _), HB.out.trans (b.mono HB.out.size)⟩) (Below.refl _ _).drew)
        refine wpAnyH_take (i := 0) (v := ?_) rfl (by kernel_rfl) (by kernel_rfl) (by kernel_rfl) (fun _ _ _ h => h) (Or.inl ⟨by rfl, ?_⟩) hHeld ?_
        rotate_left
        · (intro wa hSw; go_simp; try with_reducible rfl)
        simp only [Act.put, List.getElem_toArray, List.getElem_cons_zero, List.setIfInBounds_toArray, List.set_cons_zero, List.set_cons_succ]
        refine wpAnyH_take (i := 1) (v := ?_) rfl (by kernel_rfl) (by kernel_rfl) (by kernel_rfl) (fun _ _ _ h => h) (Or.inl ⟨by rfl, ?_⟩) hHeld ?_
        rotate_left
        · (intro wa hSw; go_simp; try with_reducible rfl)
        simp only [Act.put, List.getElem_toArray, List.getElem_cons_zero, List.getElem_cons_succ, List.setIfInBounds_toArray, List.set_cons_zero, List.set_cons_succ]
        refine wpAnyH_ready (rs := [2]) (by kernel_rfl) (by simp) ?_
        refine AllReadyH.cons (o := _) rfl (fun K hK => ?_) AllReadyH.nil
        go_simp
        have KK := OS.out _ hHeld
        refine (CH.out _ KK.2.1).mono ?_
        rintro e w101 ⟨rfl, b101⟩
        clear KK
        (try go_wp2_with fail)
        refine hK.out _ _ ?_ (fun hHeld101 => ?_)
        · exact KS.out _ _ hHeld b101
        clear hK K
        refine wpAnyH_take (i := 3) (v := ?_) rfl (by kernel_rfl) (by kernel_rfl) (by kernel_rfl) (fun _ _ _ h => h) (Or.inl ⟨by rfl, ?_⟩) hHeld101 ?_
        rotate_left
        · (intro wa hSw; go_simp; try with_reducible rfl)
        simp only [Act.put, List.getElem_toArray, List.getElem_cons_zero, List.getElem_cons_succ, List.setIfInBounds_toArray, List.set_cons_zero, List.set_cons_succ]
        refine wpAnyH_take (i := 4) (v := ?_) rfl (by kernel_rfl) (by kernel_rfl) (by kernel_rfl) (fun _ _ _ h => h) (Or.inl ⟨by rfl, ?_⟩) hHeld101 ?_
        rotate_left
        · (intro wa hSw; go_simp; try with_reducible rfl)
        simp only [Act.put, List.getElem_toArray, List.getElem_cons_zero, List.getElem_cons_succ, List.setIfInBounds_toArray, List.set_cons_zero, List.set_cons_succ]
        refine wpAnyH_take (i := 5) (v := ?_) rfl (by kernel_rfl) (by kernel_rfl) (by kernel_rfl) (fun _ _ _ h => h) (Or.inl ⟨by rfl, ?_⟩) hHeld101 ?_
        rotate_left
        · (intro wa hSw; go_simp; try with_reducible rfl)
        simp only [Act.put, List.getElem_toArray, List.getElem_cons_zero, List.getElem_cons_succ, List.setIfInBounds_toArray, List.set_cons_zero, List.set_cons_succ]
        refine wpAnyH_take (i := 6) (v := ?_) rfl (by kernel_rfl) (by kernel_rfl) (by kernel_rfl) (fun _ _ _ h => h) (Or.inl ⟨by rfl, ?_⟩) hHeld101 ?_
        rotate_left
        · (intro wa hSw; have K := OS.out _ hSw; obtain ⟨cb0, cb1, cb2, cb3⟩ := K.1.cells; have cr := K.2.2.1; go_simp; try with_reducible rfl)
        simp only [Act.put, List.getElem_toArray, List.getElem_cons_zero, List.getElem_cons_succ, List.setIfInBounds_toArray, List.set_cons_zero, List.set_cons_succ]
        refine wpAnyH_take (i := 7) (v := ?_) rfl (by kernel_rfl) (by kernel_rfl) (by kernel_rfl) (fun _ _ _ h => h) (Or.inl ⟨by rfl, ?_⟩) hHeld101 ?_
        rotate_left
        · (intro wa hSw; go_simp; try with_reducible rfl)
        simp only [Act.put, List.getElem_toArray, List.getElem_cons_zero, List.getElem_cons_succ, List.setIfInBounds_toArray, List.set_cons_zero, List.set_cons_succ]
        refine wpAnyH_take (i := 8) (v := ?_) rfl (by kernel_rfl) (by kernel_rfl) (by kernel_rfl) (fun _ _ _ h => h) (Or.inl ⟨by rfl, ?_⟩) hHeld101 ?_
        rotate_left
        · (intro wa hSw; go_simp; try with_reducible rfl)
        simp only [Act.put, List.getElem_toArray, List.getElem_cons_zero, List.getElem_cons_succ, List.setIfInBounds_toArray, List.set_cons_zero, List.set_cons_succ]
        refine wpAnyH_take (i := 9) (v := ?_) rfl (by kernel_rfl) (by kernel_rfl) (by kernel_rfl) (fun _ _ _ h => h) (Or.inl ⟨by rfl, ?_⟩) hHeld101 ?_
        rotate_left
        · (intro wa hSw; have K := OS.out _ hSw; obtain ⟨cb0, cb1, cb2, cb3⟩ := K.1.cells; have cr := K.2.2.1; go_simp; try with_reducible rfl)
        simp only [Act.put, List.getElem_toArray, List.getElem_cons_zero, List.getElem_cons_succ, List.setIfInBounds_toArray, List.set_cons_zero, List.set_cons_succ]
        refine wpAnyH_take (i := 10) (v := ?_) rfl (by kernel_rfl) (by kernel_rfl) (by kernel_rfl) (fun _ _ _ h => h) (Or.inl ⟨by rfl, ?_⟩) hHeld101 ?_
        rotate_left
        · (intro wa hSw; go_simp; try with_reducible rfl)
        simp only [Act.put, List.getElem_toArray, List.getElem_cons_zero, List.getElem_cons_succ, List.setIfInBounds_toArray, List.set_cons_zero, List.set_cons_succ]
        refine wpAnyH_take (i := 11) (v := ?_) rfl (by kernel_rfl) (by kernel_rfl) (by kernel_rfl) (fun _ _ _ h => h) (Or.inl ⟨by rfl, ?_⟩) hHeld101 ?_
        rotate_left
        · (intro wa hSw; go_simp; try with_reducible rfl)
        simp only [Act.put, List.getElem_toArray, List.getElem_cons_zero, List.getElem_cons_succ, List.setIfInBounds_toArray, List.set_cons_zero, List.set_cons_succ]
        refine wpAnyH_take (i := 12) (v := ?_) rfl (by kernel_rfl) (by kernel_rfl) (by kernel_rfl) (fun _ _ _ h => h) (Or.inl ⟨by rfl, ?_⟩) hHeld101 ?_
        rotate_left
        · (intro wa hSw; have K := OS.out _ hSw; obtain ⟨cb0, cb1, cb2, cb3⟩ := K.1.cells; have cr := K.2.2.1; go_simp; try with_reducible rfl)
        simp only [Act.put, List.getElem_toArray, List.getElem_cons_zero, List.getElem_cons_succ, List.setIfInBounds_toArray, List.set_cons_zero, List.set_cons_succ]
        refine wpAnyH_ready (rs := [13]) (by kernel_rfl) (by simp) ?_
        refine AllReadyH.cons (o := _) rfl (fun K hK => ?_) AllReadyH.nil
        go_simp
        have KK := OS.out _ hHeld101
        refine (CP.out _ KK.2.2.2.1 KK.1.2.2.2).mono ?_
        rintro e w102 ⟨rfl, b102⟩
        clear KK
        (try go_wp2_with fail)
        refine hK.out _ _ ?_ (fun hHeld102 => ?_)
        · exact KS.out _ _ hHeld101 b102
        clear hK K
        clear hHeld101
        refine wpAnyH_take (i := 14) (v := ?_) rfl (by kernel_rfl) (by kernel_rfl) (by kernel_rfl) (fun _ _ _ h => h) (Or.inl ⟨by rfl, ?_⟩) hHeld102 ?_
        rotate_left
        · (intro wa hSw; go_simp; try with_reducible rfl)
        simp only [Act.put, List.getElem_toArray, List.getElem_cons_zero, List.getElem_cons_succ, List.setIfInBounds_toArray, List.set_cons_zero, List.set_cons_succ]
        refine wpAnyH_take (i := 15) (v := ?_) rfl (by kernel_rfl) (by kernel_rfl) (by kernel_rfl) (fun _ _ _ h => h) (Or.inl ⟨by rfl, ?_⟩) hHeld102 ?_
        rotate_left
        · (intro wa hSw; go_simp; try with_reducible rfl)
        simp only [Act.put, List.getElem_toArray, List.getElem_cons_zero, List.getElem_cons_succ, List.setIfInBounds_toArray, List.set_cons_zero, List.set_cons_succ]
        refine wpAnyH_done (by kernel_rfl) ?_ _
        have KE := Lib.hid (OS.out _ hHeld102)
        clear KS OS IS hHeld hHeld102
        have HE := Lib.hid KE.out
        clear KE CP CH HB HT HS HD
        have hrs := HRS.out
        obtain ⟨c0, c1, c2, c3⟩ := HE.out.1.cells
        go_wp2_with fail
        refine (CF.out _ HE.out.2.1).mono ?_
        rintro e w5 ⟨⟨v2, rfl, h2⟩, b⟩
        have HD5 := Lib.hid h2
        have HS5 := Lib.hid (HE.out.1.below b)
        have HT5 := Lib.hid (HE.out.2.2.2.2.1.below b (Nat.le_refl _))
        have HB5 := Lib.hid (HE.out.2.2.2.2.2.trans (b.mono HE.out.2.2.2.2.2.size))
        clear h2 b c0 c1 c2 c3 HE CF
        go_wp2
        go_roundw
        case rel => exact ⟨k + 1, _, _, by omega, rfl, by go_num, HLX, HD5, HVx, HS5, HT5, HB5⟩
        case measure => simp [RowKit.intOf]; omega
    obtain rfl : k = nt := by omega
    obtain rfl := HYes.out HV.out
    go_wp2
    go_ret
    exact ⟨rfl, HB.out⟩
end Go.Proofs.Ytcbpgbiannpfpaa
set_option linter.unusedVariables false
namespace Go.Proofs.Ytcbpgbiannpfpaa
open Go.RowKit

set_option maxRecDepth 100000 in
set_option maxHeartbeats 4000000 in
theorem venuesOf_impl (v : Value) (d : List PairL) (tm : Int) (w : World) (h : RdA tPairSS w [v] d) (hw : tPairSS.wt d ≤ 1048576) :
    Calls Try.prog 63 #[v, .int .i64 tm] w (IntsL w (d.map fun r => venueL r tm)) := by
  obtain ⟨i0, hi, hz0, hz1, hz2⟩ := info_parts Try.infoI
  obtain ⟨a, c, rfl, hn⟩ := schedule_form h
  have HR := Lib.hid h
  clear h
  obtain ⟨n, hd⟩ : ∃ n, List.length (α := PairL) d = n := ⟨_, rfl⟩
  have HD := Lib.hid hd
  rw [hd] at hn ⊢
  clear hd
  have hn6 : n ≤ 1048576 := by have e : tPairSS.wt d = List.length (α := PairL) d + (d.map tPairS.wt).sum := rfl; rw [HD.out] at e; omega
  have CV := Lib.hid (fun v r wa h => venueIn_impl v r tm wa h)
  clear hw
  go_enter Try.func63, Try.ntmps63
  go_wp2_with (at_make; refine wpList_make_full _ rfl _ _ 37 rfl w.heap.size 3 i0 (.int .i64 0) 1 Try.underlying37 hi hz0 hz1 .i64 .i64 n n n rfl rfl rfl rfl (by rw [hz2]; omega) (by unfold maxLen; omega) (Nat.le_refl _) ?_; intro w1 hown hg1)
  have HO1 := Lib.hid hown
  have HB1 : Hid (Below w.heap.size w w1) := (Below.refl _ _).grown hg1 (Nat.le_refl _) (fun k hk => by cases hk)
  clear hown hg1
  go_loopw [13] (fun iv wr => ∃ (k : Nat) (ys : List Value), k ≤ n ∧ iv = .int .i64 k ∧ Hid (wr.ownsRow w.heap.size 3 1 (.slice (some ⟨w.heap.size, 0, none⟩) n n) n ys) ∧ Hid (∀ t, t < k → ys[t]? = some (.int .i64 (venueL (((d[t]?).getD [])) tm))) ∧ Hid (Below w.heap.size w wr)) (fun iv _ => n - (RowKit.intOf iv).toNat)
  case atStart => exact ⟨0, _, Nat.zero_le _, rfl, HO1.out, fun t ht => absurd ht (by omega), HB1.out⟩
  case round =>
    clear HO1 HB1
    obtain ⟨k, ys, hk9, rfl, HO, HY, HB⟩ := hrel
    by_cases hlt : k < n
    · obtain ⟨r, hr⟩ : ∃ r : PairL, d[k]? = some r := ⟨_, List.getElem?_eq_getElem (by rw [HD.out]; exact hlt)⟩
      have HRr := HR.out.below HB.out
      obtain ⟨b, off, x, xc, rfl, hcap, q0, hrr, hm63⟩ := round_cells HRr hr
      rw [HD.out] at hcap
      have hj1 : (k : Int) < (n : Int) := by omega
      have HRW := Lib.hid hrr
      have HYN : Hid (∀ z, z = venueL r tm → venueL ((d[k]?).getD []) tm = z) := fun z e => by rw [hr, e]; rfl
      clear hrr HRr hr
      go_wp2_with fail
      refine (CV.out _ r _ HRW.out).mono ?_
      rintro e w2 ⟨rfl, b2⟩
      have HO2 := Lib.hid (owns_below HO.out b2 (Nat.le_refl _))
      have HB2 := Lib.hid (HB.out.trans (b2.mono HB.out.size))
      have hs2 := HB2.out.size
      have HYN2 := Lib.hid (HYN.out _ rfl)
      clear b2 HO HB HRW HYN
      generalize venueL r tm = z at *
      obtain ⟨u, hu⟩ := owns_some HO2.out k hlt
      have HU := Lib.hid hu
      have hcl := owns_cell HO2.out k hlt HU
      have hfr := HO2.out.frozenAt k
      clear hu
      go_wp2
      go_roundw
      case rel =>
        refine ⟨k + 1, ys.set k (.int .i64 z), by omega, by go_num, (HO2.out.stored k _).1, fun t ht => ?_, HB2.out.setCell (Nat.le_refl _) _⟩
        have hlen := HO2.out.1
        by_cases htk : t = k
        · subst htk
          rw [List.getElem?_set_self (by omega), HYN2.out]
        · rw [List.getElem?_set_ne (by omega)]
          exact HY.out t (by omega)
      case measure => simp [RowKit.intOf]; omega
    obtain rfl : k = n := by omega
    have HE : Hid (ys = (d.map fun r => venueL r tm).map (Value.int .i64)) := by
      show _ = _
      have hlen := HO.out.1
      rw [List.map_map]
      apply List.ext_getElem?
      intro t
      by_cases ht : t < k
      · rw [HY.out t ht, List.getElem?_map]
        obtain ⟨r, hr⟩ : ∃ r : PairL, d[t]? = some r := ⟨_, List.getElem?_eq_getElem (by rw [HD.out]; exact ht)⟩
        rw [hr]; rfl
      · rw [List.getElem?_eq_none (by omega), List.getElem?_eq_none (by rw [List.length_map, HD.out]; omega)]
    clear HY
    go_wp2
    go_ret
    refine ⟨_, rfl, ?_, HB.out⟩
    have h9 := HO.out
    rw [HE.out] at h9
    rw [List.length_map]
    show World.ownsRow _ _ _ _ _ (List.length (α := PairL) d) _
    rw [HD.out]
    exact h9
end Go.Proofs.Ytcbpgbiannpfpaa
