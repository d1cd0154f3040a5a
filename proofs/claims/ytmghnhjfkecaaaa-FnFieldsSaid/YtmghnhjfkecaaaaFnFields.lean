/-
  The law FnFields holds for every argument: the program answers as the model does.
-/
import Derived.Test.YtmghnhjfkecaaaaRows
import Derived.WalkKit
import Derived.ProofKit
import Derived.OpenShut
import Derived.ShutString
import Derived.ChangeOld
import Derived.Below
import Derived.Lib.Hide
import Derived.Test.YtmghnhjfkecaaaaFieldFacts
namespace Go.Proofs.Ytmghnhjfkecaaaa.fnFields
open Go.ChangeShapes Go.WideShapes Go.ChangeAt Go.RowKit
open Go.ChangeMaps (open_string shut_string)
set_option linter.unusedVariables false

theorem own : ownKnob Try.prog.godebug = none := by kernel_rfl
theorem laidOut : laidOutB Try.prog = true := by kernel_rfl

theorem tcells {w w' : World} {b off n : Nat} {G : Nat → TeamD} (hb : Below w.heap.size w w') (h : ∀ i, i < n → w.cell? ⟨b, off + i * 3, none⟩ = some (.string (G i).nm) ∧ w.cell? ⟨b, off + i * 3 + 1, none⟩ = some (.int .i64 (G i).club) ∧ w.cell? ⟨b, off + i * 3 + 2, none⟩ = some (.int .i64 (G i).seed)) :
    ∀ i, i < n → w'.cell? ⟨b, off + i * 3, none⟩ = some (.string (G i).nm) ∧ w'.cell? ⟨b, off + i * 3 + 1, none⟩ = some (.int .i64 (G i).club) ∧ w'.cell? ⟨b, off + i * 3 + 2, none⟩ = some (.int .i64 (G i).seed) := fun i hi => cells_below hb (h i hi)
theorem below_step {base : Nat} {w0 w w' : World} (h : Hid (Below base w0 w)) (hB : base ≤ w0.heap.size) (b : Below w.heap.size w w') : Hid (Below base w0 w') := h.out.trans (b.mono (Nat.le_trans hB h.out.size))
set_option maxRecDepth 100000 in
set_option maxHeartbeats 2000000 in
theorem walk (a : Option Addr) (len cap : Nat) (zs : List Int) (w : World) (hr : IsRow .u8 w a len cap zs) :
    Calls Try.prog 3 #[.slice a len cap] w fun e w' => e = .returned (.bool true) ∧ Below w.heap.size w w' := by
  obtain ⟨hrow, hsm, hfit⟩ := hr.bytes
  clear hr
  generalize getN zs = g at *
  by_cases hl : 1048576 < len
  · have g0 : decide ((1048576 : Int) < (len : Int)) = true := decide_eq_true (by omega)
    clear hrow hsm
    go_enter Try.func3, Try.ntmps3
    go_wp2
    go_ret
    exact ⟨rfl, Below.refl _ _⟩
  have g0 : decide ((1048576 : Int) < (len : Int)) = false := decide_eq_false (by omega)
  have hle : len ≤ 1048576 := by omega
  have CM := Lib.hid (makeField_any a len cap g w hrow hsm hle)
  clear hrow hsm hl
  go_enter Try.func3, Try.ntmps3
  go_wp2_with fail
  refine CM.out.mono ?_
  rintro e w1 ⟨n, G, hgood, v, rfl, r1, b1⟩
  clear g0 CM
  have hn := hgood.1
  have hp := hgood.field
  have hsz : ∀ i, (G i).nm.size ≤ maxLen := fun i => (hgood.fit i).1
  have hfs : ∀ i, i < n → 1 ≤ (G i).seed ∧ (G i).seed ≤ (8 : Nat) := fun i hi => by have := (hp.2 i hi).1.2.2; omega
  have hinj : ∀ i j, i < n → j < n → (G i).seed = (G j).seed → i = j := fun i j hi hj e => by
    by_cases hij : i < j
    · exact absurd e ((hp.2 j hj).2 i hij).2
    · by_cases hji : j < i
      · exact absurd e.symm ((hp.2 i hi).2 j hji).2
      · omega
  obtain ⟨L, OF, CSO⟩ : ∃ L, OrderFacts n (fun i => (G i).seed) L ∧ Hid (∀ w', TeamRow w' v n G → Calls Try.prog 13 #[v] w' (NumsMade w' L)) :=
    ⟨_, orderFacts hfs hinj, fun w' h => seedOrderI_yes v n G w' h hsz hp⟩
  have CFO := Lib.hid (fun w' (h : TeamRow w' v n G) => fieldOkI_yes v n G w' h hsz hp)
  have CIO := Lib.hid (fun vo w' (h : IntRow w' vo n (getI L)) => isOrder_impl (n : Int) n (getI L) true vo w' (by simp [OF.order (by omega)]) h)
  have COC := Lib.hid (fun c w' (h : TeamRow w' v n G) => ofClubI_yes v n G c w' h hsz hp)
  have CPO := Lib.hid (fun vo x w' (h : IntRow w' vo n (getI L)) => placeOf_impl vo n (getI L) x w' h)
  have CTN := Lib.hid (fun x w' (h : TeamRow w' v n G) => teamNamed_impl v n G x w' h hgood.fit (by omega))
  have CCL := Lib.hid (fun w' (h : TeamRow w' v n G) => clubsOfI_yes v n G w' h hsz hp)
  have HCP := Lib.hid hgood.clubs
  have HNS : Hid (∀ t, t < n → namedI G (G t).nm n 0 = t) := fun t ht => named_self hp ht
  have HCR : Hid (∀ i, i < n → 0 ≤ (G i).club ∧ (G i).club < (6 : Nat)) := fun i hi => by have := (hp.2 i hi).1.2.1; omega
  have HOF := Lib.hid OF
  have hLn := OF.len
  have HR1 := Lib.hid r1
  have B1 := Lib.hid b1
  clear hgood hp hsz hfs hinj OF
  obtain ⟨av, cv, rfl, _, hv⟩ := r1.form'
  have HV := Lib.hid hv
  clear hv r1 b1
  go_wp2_with fail
  refine (CSO.out _ HR1.out).mono ?_
  rintro e w2 ⟨vo, rfl, o2, b2⟩
  have q2 : IntRow w2 vo n (getI L) := by have := IntRow.of_list o2 (by omega); rwa [hLn] at this
  have HQ2 := Lib.hid q2
  have B2 := Lib.hid b2
  have hLN := Lib.hid hLn
  clear b2 o2 hLn
  obtain ⟨ao, co, rfl, _, hvo⟩ := q2.form
  have HVO := Lib.hid hvo
  clear hvo q2
  have R2 := Lib.hid (HR1.out.below B2.out (Nat.le_refl _))
  go_wp2_with fail
  refine (CFO.out _ R2.out).mono ?_
  rintro e w3 ⟨rfl, b3⟩
  have Q3 := Lib.hid (HQ2.out.below b3 (Nat.le_refl _))
  have B3 := Lib.hid b3
  clear b3
  go_wp2_with fail
  refine (CIO.out _ _ Q3.out).mono ?_
  rintro e w4 ⟨rfl, b4⟩
  have B4 := Lib.hid (B3.out.trans (b4.mono B3.out.size))
  clear b4 Q3 B3 CIO CFO CSO
  go_wp2
  go_loopw [5, 6] (fun nv cv wr => ∃ c S : Nat, c ≤ 6 ∧ cv = .int .i64 c ∧ nv = .int .i64 S ∧ S ≤ 6 * c ∧ Hid (sumSel (fun i => (G i).club) n c = S) ∧ Hid (Below w2.heap.size w2 wr)) (fun _ c _ => 6 - (intOf c).toNat)
  case atStart => exact ⟨0, 0, Nat.zero_le _, rfl, rfl, Nat.le_refl _, rfl, B4.out⟩
  case round =>
    obtain ⟨c, S, hc, rfl, rfl, hS, hsum, hb⟩ := hrel
    clear B4
    have R3 := Lib.hid (R2.out.below hb.out (Nat.le_refl _))
    by_cases hc6 : c < 6
    · have g6 : decide ((c : Int) < 6) = true := decide_eq_true (by omega)
      go_wp2_with fail
      refine (COC.out _ _ R3.out).mono ?_
      rintro e w5 ⟨vl, rfl, o5, b5⟩
      have hPl := selL_len (fun i => (G i).club) (c : Int) n
      have HP : Hid (∀ k, k < (selL (fun i => (G i).club) (c : Int) n).length → ∃ t : Nat, t < n ∧ getI (selL (fun i => (G i).club) (c : Int) n) k = t ∧ (G t).club = c) := fun k hk => by
        rw [getI_at hk]
        obtain ⟨t, ht, e, e2⟩ := (ofSelL n).1 (List.getElem_mem hk)
        exact ⟨t, ht, e, e2⟩
      have q5 := IntRow.of_list o5 (by omega)
      have HSU : Hid (sumSel (fun i => (G i).club) n (c + 1) = S + (selL (fun i => (G i).club) (c : Int) n).length) := by
        show sumSel (fun i => (G i).club) n c + _ = _
        rw [hsum.out]
      have B5 := Lib.hid (hb.out.trans (b5.mono hb.out.size))
      clear o5 b5 hb hsum R3
      generalize selL (fun i => (G i).club) (c : Int) n = P at *
      generalize hm : P.length = m at *
      have HM := Lib.hid hm
      clear hm
      obtain ⟨al, cl, rfl, _, hvl⟩ := q5.form
      have HVL := Lib.hid hvl
      clear hvl q5 g6
      go_wp2
      go_loop [42] (fun i => ∃ k : Nat, k ≤ m ∧ i = .int .i64 k) (fun i => m - (intOf i).toNat)
      case atStart => exact ⟨0, Nat.zero_le _, rfl⟩
      case round =>
        obtain ⟨k, hk, rfl⟩ := hrel
        by_cases hlt : k < m
        · obtain ⟨bl, ol, rfl, hcl⟩ := HVL.out (by omega)
          obtain ⟨t, ht, et, ec⟩ := HP.out k hlt
          obtain ⟨b, off, rfl, hcap, hcv⟩ := HV.out (by omega)
          obtain ⟨_, c1, _⟩ := cells_below (B2.out.trans (B5.out.mono B2.out.size)) (hcv t ht)
          have c0 := hcl k hlt
          rw [et] at c0
          rw [ec] at c1
          have g1 : decide ((t : Int) < 0) = false := decide_eq_false (by omega)
          have g2 : decide ((n : Int) ≤ t) = false := decide_eq_false (by omega)
          have g3 : decide (n ≤ t) = false := decide_eq_false (by omega)
          have g4 : (t : Int) < n := by omega
          clear hcl hcv HV HVL HP et ec HCR HNS
          go_wp2
          go_round
          case rel => exact ⟨k + 1, by omega, by go_num⟩
          case measure => simp [intOf]; omega
        · go_wp2
          go_roundw
          case rel => exact ⟨c + 1, S + m, by omega, by go_num, by go_num, by omega, HSU.out, B5.out⟩
          case measure => simp [intOf]; omega
    · have hc6' : c = 6 := by omega
      have hSn : S = n := by rw [← hsum.out, hc6']; exact sumSel_all n HCR.out
      have g6 : decide ((c : Int) < 6) = false := decide_eq_false (by omega)
      clear hc6'
      subst hSn
      have CPO2 : Hid (∀ x w', Hid (Below w2.heap.size w2 w') → Calls Try.prog 17 #[.slice ao S co, .int .i64 x] w' fun e w'' => e = .returned (.int .i64 (placeI (getI L) x S 0)) ∧ w' = w'') :=
        fun x w' h => CPO.out _ x w' (HQ2.out.below h.out (Nat.le_refl _))
      have CTN2 : Hid (∀ x w', Hid (Below w2.heap.size w2 w') → Calls Try.prog 18 #[.slice av S cv, .string x] w' fun e w'' => e = .returned (.int .i64 (namedI G x S 0)) ∧ Below w'.heap.size w' w'') :=
        fun x w' h => CTN.out x w' (R2.out.below h.out (Nat.le_refl _))
      clear hsum HCR COC R3 CPO CTN
      go_wp2
      go_loopw [66] (fun i wr => ∃ k : Nat, k ≤ S ∧ i = .int .i64 k ∧ Hid (Below w2.heap.size w2 wr)) (fun i _ => S - (intOf i).toNat)
      case atStart => exact ⟨0, Nat.zero_le _, rfl, hb.out⟩
      case round =>
        clear hb
        obtain ⟨k, hk, rfl, hb⟩ := hrel
        by_cases hlt : k < S
        · obtain ⟨bo, oo, rfl, hco⟩ := HVO.out (by omega)
          obtain ⟨b, off, rfl, hcap, hcv⟩ := HV.out (by omega)
          have hcv2 := tcells B2.out hcv
          obtain ⟨t, ht, et⟩ := HOF.out.mem k hlt
          have hPL : Hid (placeI (getI L) (t : Int) S 0 = k) := by rw [← et]; exact HOF.out.place hlt
          have hNM := Lib.hid (HNS.out t ht)
          obtain ⟨n0, n1, n2⟩ := hcv2 t ht
          have c0 := (hb.out.cell (p := ⟨bo, oo + k, none⟩) (World.block_lt_of_cell? w2 _ (hco k hlt))).trans (hco k hlt)
          rw [et] at c0
          have g1 : decide ((t : Int) < 0) = false := decide_eq_false (by omega)
          have g2 : decide ((S : Int) ≤ t) = false := decide_eq_false (by omega)
          have g3 : decide (S ≤ t) = false := decide_eq_false (by omega)
          have g4 : (0 : Int) ≤ t := by omega
          have g5 : (t : Int) < S := by omega
          have hbD := Lib.hid hb.out.drew
          have hbw : b < w2.heap.size := World.block_lt_of_cell? w2 _ n0
          have P1 : Hid (∀ w', Hid (Below w2.heap.size w2 w') → Calls Try.prog 17 #[.slice (some ⟨bo, oo, none⟩) S co, .int .i64 (t : Int)] w' fun e w'' => e = .returned (.int .i64 (k : Int)) ∧ w' = w'') := fun w' h => by
            have := CPO2.out (t : Int) w' h
            rw [hPL.out] at this
            exact this
          have N1 : Hid (∀ w', Hid (Below w2.heap.size w2 w') → Calls Try.prog 18 #[.slice (some ⟨b, off, none⟩) S cv, .string (G t).nm] w' fun e w'' => e = .returned (.int .i64 (t : Int)) ∧ Below w'.heap.size w' w'') := fun w' h => by
            have := CTN2.out (G t).nm w' h
            rw [hNM.out] at this
            exact this
          clear CPO2 CTN2 hPL hNM
          by_cases hk0 : k = 0
          · have k1 : decide ((0 : Int) < k) = false := decide_eq_false (by omega)
            have k2 : decide (0 < k) = false := decide_eq_false (by omega)
            have KS : Hid (∀ w', Hid (Below w2.heap.size w2 w') → w'.cell? ⟨b, off + t * 3, none⟩ = some (.string (G t).nm) ∧ Hid (Below w2.heap.size w2 w')) := fun w' h => ⟨(h.out.cell (p := ⟨b, off + t * 3, none⟩) hbw).trans n0, h⟩
            clear hco hcv hcv2 HV HVO et n0 n1 n2 hk0 HCP
            generalize (G t).nm = nm at *
            go_wp2_with fail
            refine wp_region_held_drew (S := (fun w' => w'.cell? ⟨b, off + t * 3, none⟩ = some (.string nm) ∧ Hid (Below w2.heap.size w2 w'))) (by kernel_rfl) ?_ (fun hHeld => ?_)
            · exact KS.out _ (by assumption)
            refine wpAnyH_take (i := 0) (v := ?_) rfl (by kernel_rfl) (by kernel_rfl) (by kernel_rfl) (fun _ _ _ h => h) (Or.inl ⟨by rfl, ?_⟩) (by assumption) ?_
            rotate_left
            · (intro w hSw; (try dsimp only at hSw); go_simp; try with_reducible rfl)
            simp only [Act.put, List.getElem_toArray, List.getElem_cons_zero, List.setIfInBounds_toArray, List.set_cons_zero, List.set_cons_succ]
            refine wpAnyH_take (i := 1) (v := ?_) rfl (by kernel_rfl) (by kernel_rfl) (by kernel_rfl) (fun _ _ _ h => h) (Or.inl ⟨by rfl, ?_⟩) (by assumption) ?_
            rotate_left
            · (intro w hSw; (try dsimp only at hSw); go_simp; try with_reducible rfl)
            simp only [Act.put, List.getElem_toArray, List.getElem_cons_zero, List.getElem_cons_succ, List.setIfInBounds_toArray, List.set_cons_zero, List.set_cons_succ]
            refine wpAnyH_take (i := 3) (v := ?_) rfl (by kernel_rfl) (by kernel_rfl) (by kernel_rfl) (fun _ _ _ h => h) (Or.inl ⟨by rfl, ?_⟩) (by assumption) ?_
            rotate_left
            · (intro w hSw; (try dsimp only at hSw); go_simp; try with_reducible rfl)
            simp only [Act.put, List.getElem_toArray, List.getElem_cons_zero, List.getElem_cons_succ, List.setIfInBounds_toArray, List.set_cons_zero, List.set_cons_succ]
            refine wpAnyH_ready (rs := [2]) (by kernel_rfl) (by simp) ?_
            refine AllReadyH.cons (o := _) rfl (fun K hK => ?_) AllReadyH.nil
            go_simp
            refine (P1.out _ (by assumption)).mono ?_
            rintro e w' ⟨rfl, rfl⟩
            (try go_wp2_with fail)
            refine hK.out _ _ ?_ (fun hHeld => ?_)
            · exact KS.out _ (by assumption)
            clear hK K
            refine wpAnyH_take (i := 4) (v := ?_) rfl (by kernel_rfl) (by kernel_rfl) (by kernel_rfl) (fun _ _ _ h => h) (Or.inl ⟨by rfl, ?_⟩) (by assumption) ?_
            rotate_left
            · (intro w hSw; (try dsimp only at hSw); go_simp; try with_reducible rfl)
            simp only [Act.put, List.getElem_toArray, List.getElem_cons_zero, List.getElem_cons_succ, List.setIfInBounds_toArray, List.set_cons_zero, List.set_cons_succ]
            refine wpAnyH_take (i := 5) (v := ?_) rfl (by kernel_rfl) (by kernel_rfl) (by kernel_rfl) (fun _ _ _ h => h) (Or.inl ⟨by rfl, ?_⟩) (by assumption) ?_
            rotate_left
            · (intro w hSw; (try dsimp only at hSw); go_simp; try with_reducible rfl)
            simp only [Act.put, List.getElem_toArray, List.getElem_cons_zero, List.getElem_cons_succ, List.setIfInBounds_toArray, List.set_cons_zero, List.set_cons_succ]
            refine wpAnyH_take (i := 6) (v := ?_) rfl (by kernel_rfl) (by kernel_rfl) (by kernel_rfl) (fun _ _ _ h => h) (Or.inl ⟨by rfl, ?_⟩) (by assumption) ?_
            rotate_left
            · (intro w hSw; (try dsimp only at hSw); go_simp; try with_reducible rfl)
            simp only [Act.put, List.getElem_toArray, List.getElem_cons_zero, List.getElem_cons_succ, List.setIfInBounds_toArray, List.set_cons_zero, List.set_cons_succ]
            refine wpAnyH_take (i := 7) (v := ?_) rfl (by kernel_rfl) (by kernel_rfl) (by kernel_rfl) (fun _ _ _ h => h) (Or.inl ⟨by rfl, ?_⟩) (by assumption) ?_
            rotate_left
            · (intro w hSw; (try dsimp only at hSw); go_simp; try with_reducible rfl)
            simp only [Act.put, List.getElem_toArray, List.getElem_cons_zero, List.getElem_cons_succ, List.setIfInBounds_toArray, List.set_cons_zero, List.set_cons_succ]
            refine wpAnyH_take (i := 8) (v := ?_) rfl (by kernel_rfl) (by kernel_rfl) (by kernel_rfl) (fun _ _ _ h => h) (Or.inl ⟨by rfl, ?_⟩) (by assumption) ?_
            rotate_left
            · (intro w hSw; (try dsimp only at hSw); go_simp; try with_reducible rfl)
            simp only [Act.put, List.getElem_toArray, List.getElem_cons_zero, List.getElem_cons_succ, List.setIfInBounds_toArray, List.set_cons_zero, List.set_cons_succ]
            refine wpAnyH_take (i := 9) (v := ?_) rfl (by kernel_rfl) (by kernel_rfl) (by kernel_rfl) (fun _ _ _ h => h) (Or.inl ⟨by rfl, ?_⟩) (by assumption) ?_
            rotate_left
            · (intro w hSw; (try dsimp only at hSw); go_simp; try with_reducible rfl)
            simp only [Act.put, List.getElem_toArray, List.getElem_cons_zero, List.getElem_cons_succ, List.setIfInBounds_toArray, List.set_cons_zero, List.set_cons_succ]
            refine wpAnyH_take (i := 10) (v := ?_) rfl (by kernel_rfl) (by kernel_rfl) (by kernel_rfl) (fun _ _ _ h => h) (Or.inl ⟨by rfl, ?_⟩) (by assumption) ?_
            rotate_left
            · (intro w hSw; (try dsimp only at hSw); go_simp; try with_reducible rfl)
            simp only [Act.put, List.getElem_toArray, List.getElem_cons_zero, List.getElem_cons_succ, List.setIfInBounds_toArray, List.set_cons_zero, List.set_cons_succ]
            refine wpAnyH_take (i := 11) (v := ?_) rfl (by kernel_rfl) (by kernel_rfl) (by kernel_rfl) (fun _ _ _ h => h) (Or.inl ⟨by rfl, ?_⟩) (by assumption) ?_
            rotate_left
            · (intro w hSw; (try dsimp only at hSw); go_simp; try with_reducible rfl)
            simp only [Act.put, List.getElem_toArray, List.getElem_cons_zero, List.getElem_cons_succ, List.setIfInBounds_toArray, List.set_cons_zero, List.set_cons_succ]
            refine wpAnyH_take (i := 13) (v := ?_) rfl (by kernel_rfl) (by kernel_rfl) (by kernel_rfl) (fun _ _ _ h => h) (Or.inl ⟨by rfl, ?_⟩) (by assumption) ?_
            rotate_left
            · (intro w hSw; (try dsimp only at hSw); go_simp; try with_reducible rfl)
            simp only [Act.put, List.getElem_toArray, List.getElem_cons_zero, List.getElem_cons_succ, List.setIfInBounds_toArray, List.set_cons_zero, List.set_cons_succ]
            refine wpAnyH_ready (rs := [12]) (by kernel_rfl) (by simp) ?_
            refine AllReadyH.cons (o := _) rfl (fun K hK => ?_) AllReadyH.nil
            go_simp
            refine (N1.out _ (by assumption)).mono ?_
            rintro e w6 ⟨rfl, b6⟩
            have HB6 := below_step (by assumption) (Nat.le_refl _) b6
            (try go_wp2_with fail)
            refine hK.out _ _ ?_ (fun hHeld => ?_)
            · exact KS.out _ (by assumption)
            clear hK K
            refine wpAnyH_take (i := 14) (v := ?_) rfl (by kernel_rfl) (by kernel_rfl) (by kernel_rfl) (fun _ _ _ h => h) (Or.inl ⟨by rfl, ?_⟩) (by assumption) ?_
            rotate_left
            · (intro w hSw; (try dsimp only at hSw); go_simp; try with_reducible rfl)
            simp only [Act.put, List.getElem_toArray, List.getElem_cons_zero, List.getElem_cons_succ, List.setIfInBounds_toArray, List.set_cons_zero, List.set_cons_succ]
            refine wpAnyH_take (i := 15) (v := ?_) rfl (by kernel_rfl) (by kernel_rfl) (by kernel_rfl) (fun _ _ _ h => h) (Or.inl ⟨by rfl, ?_⟩) (by assumption) ?_
            rotate_left
            · (intro w hSw; (try dsimp only at hSw); go_simp; try with_reducible rfl)
            simp only [Act.put, List.getElem_toArray, List.getElem_cons_zero, List.getElem_cons_succ, List.setIfInBounds_toArray, List.set_cons_zero, List.set_cons_succ]
            refine wpAnyH_take (i := 16) (v := ?_) rfl (by kernel_rfl) (by kernel_rfl) (by kernel_rfl) (fun _ _ _ h => h) (Or.inl ⟨by rfl, ?_⟩) (by assumption) ?_
            rotate_left
            · (intro w hSw; (try dsimp only at hSw); go_simp; try with_reducible rfl)
            simp only [Act.put, List.getElem_toArray, List.getElem_cons_zero, List.getElem_cons_succ, List.setIfInBounds_toArray, List.set_cons_zero, List.set_cons_succ]
            refine wpAnyH_take (i := 17) (v := ?_) rfl (by kernel_rfl) (by kernel_rfl) (by kernel_rfl) (fun _ _ _ h => h) (Or.inl ⟨by rfl, ?_⟩) (by assumption) ?_
            rotate_left
            · (intro w hSw; (try dsimp only at hSw); go_simp; try with_reducible rfl)
            simp only [Act.put, List.getElem_toArray, List.getElem_cons_zero, List.getElem_cons_succ, List.setIfInBounds_toArray, List.set_cons_zero, List.set_cons_succ]
            refine wpAnyH_take (i := 18) (v := ?_) rfl (by kernel_rfl) (by kernel_rfl) (by kernel_rfl) (fun _ _ _ h => h) (Or.inl ⟨by rfl, ?_⟩) (by assumption) ?_
            rotate_left
            · (intro w hSw; (try dsimp only at hSw); go_simp; try with_reducible rfl)
            simp only [Act.put, List.getElem_toArray, List.getElem_cons_zero, List.getElem_cons_succ, List.setIfInBounds_toArray, List.set_cons_zero, List.set_cons_succ]
            refine wpAnyH_take (i := 19) (v := ?_) rfl (by kernel_rfl) (by kernel_rfl) (by kernel_rfl) (fun _ _ _ h => h) (Or.inl ⟨by rfl, ?_⟩) (by assumption) ?_
            rotate_left
            · (intro w hSw; (try dsimp only at hSw); go_simp; try with_reducible rfl)
            simp only [Act.put, List.getElem_toArray, List.getElem_cons_zero, List.getElem_cons_succ, List.setIfInBounds_toArray, List.set_cons_zero, List.set_cons_succ]
            refine wpAnyH_take (i := 20) (v := undef) rfl (by kernel_rfl) (by kernel_rfl) (by kernel_rfl) (fun _ _ _ h => h) (Or.inr ⟨by rfl, rfl⟩) (by assumption) ?_
            simp only [Act.put, List.getElem_toArray, List.getElem_cons_zero, List.getElem_cons_succ, List.setIfInBounds_toArray, List.set_cons_zero, List.set_cons_succ]
            refine wpAnyH_take (i := 21) (v := undef) rfl (by kernel_rfl) (by kernel_rfl) (by kernel_rfl) (fun _ _ _ h => h) (Or.inr ⟨by rfl, rfl⟩) (by assumption) ?_
            simp only [Act.put, List.getElem_toArray, List.getElem_cons_zero, List.getElem_cons_succ, List.setIfInBounds_toArray, List.set_cons_zero, List.set_cons_succ]
            refine wpAnyH_take (i := 22) (v := undef) rfl (by kernel_rfl) (by kernel_rfl) (by kernel_rfl) (fun _ _ _ h => h) (Or.inr ⟨by rfl, rfl⟩) (by assumption) ?_
            simp only [Act.put, List.getElem_toArray, List.getElem_cons_zero, List.getElem_cons_succ, List.setIfInBounds_toArray, List.set_cons_zero, List.set_cons_succ]
            refine wpAnyH_take (i := 23) (v := undef) rfl (by kernel_rfl) (by kernel_rfl) (by kernel_rfl) (fun _ _ _ h => h) (Or.inr ⟨by rfl, rfl⟩) (by assumption) ?_
            simp only [Act.put, List.getElem_toArray, List.getElem_cons_zero, List.getElem_cons_succ, List.setIfInBounds_toArray, List.set_cons_zero, List.set_cons_succ]
            refine wpAnyH_take (i := 24) (v := undef) rfl (by kernel_rfl) (by kernel_rfl) (by kernel_rfl) (fun _ _ _ h => h) (Or.inr ⟨by rfl, rfl⟩) (by assumption) ?_
            simp only [Act.put, List.getElem_toArray, List.getElem_cons_zero, List.getElem_cons_succ, List.setIfInBounds_toArray, List.set_cons_zero, List.set_cons_succ]
            refine wpAnyH_take (i := 25) (v := undef) rfl (by kernel_rfl) (by kernel_rfl) (by kernel_rfl) (fun _ _ _ h => h) (Or.inr ⟨by rfl, rfl⟩) (by assumption) ?_
            simp only [Act.put, List.getElem_toArray, List.getElem_cons_zero, List.getElem_cons_succ, List.setIfInBounds_toArray, List.set_cons_zero, List.set_cons_succ]
            refine wpAnyH_take (i := 26) (v := undef) rfl (by kernel_rfl) (by kernel_rfl) (by kernel_rfl) (fun _ _ _ h => h) (Or.inr ⟨by rfl, rfl⟩) (by assumption) ?_
            simp only [Act.put, List.getElem_toArray, List.getElem_cons_zero, List.getElem_cons_succ, List.setIfInBounds_toArray, List.set_cons_zero, List.set_cons_succ]
            refine wpAnyH_take (i := 27) (v := undef) rfl (by kernel_rfl) (by kernel_rfl) (by kernel_rfl) (fun _ _ _ h => h) (Or.inr ⟨by rfl, rfl⟩) (by assumption) ?_
            simp only [Act.put, List.getElem_toArray, List.getElem_cons_zero, List.getElem_cons_succ, List.setIfInBounds_toArray, List.set_cons_zero, List.set_cons_succ]
            refine wpAnyH_take (i := 28) (v := undef) rfl (by kernel_rfl) (by kernel_rfl) (by kernel_rfl) (fun _ _ _ h => h) (Or.inr ⟨by rfl, rfl⟩) (by assumption) ?_
            simp only [Act.put, List.getElem_toArray, List.getElem_cons_zero, List.getElem_cons_succ, List.setIfInBounds_toArray, List.set_cons_zero, List.set_cons_succ]
            refine wpAnyH_take (i := 29) (v := undef) rfl (by kernel_rfl) (by kernel_rfl) (by kernel_rfl) (fun _ _ _ h => h) (Or.inr ⟨by rfl, rfl⟩) (by assumption) ?_
            simp only [Act.put, List.getElem_toArray, List.getElem_cons_zero, List.getElem_cons_succ, List.setIfInBounds_toArray, List.set_cons_zero, List.set_cons_succ]
            refine wpAnyH_take (i := 30) (v := undef) rfl (by kernel_rfl) (by kernel_rfl) (by kernel_rfl) (fun _ _ _ h => h) (Or.inr ⟨by rfl, rfl⟩) (by assumption) ?_
            simp only [Act.put, List.getElem_toArray, List.getElem_cons_zero, List.getElem_cons_succ, List.setIfInBounds_toArray, List.set_cons_zero, List.set_cons_succ]
            refine wpAnyH_take (i := 31) (v := undef) rfl (by kernel_rfl) (by kernel_rfl) (by kernel_rfl) (fun _ _ _ h => h) (Or.inr ⟨by rfl, rfl⟩) (by assumption) ?_
            simp only [Act.put, List.getElem_toArray, List.getElem_cons_zero, List.getElem_cons_succ, List.setIfInBounds_toArray, List.set_cons_zero, List.set_cons_succ]
            refine wpAnyH_take (i := 32) (v := undef) rfl (by kernel_rfl) (by kernel_rfl) (by kernel_rfl) (fun _ _ _ h => h) (Or.inr ⟨by rfl, rfl⟩) (by assumption) ?_
            simp only [Act.put, List.getElem_toArray, List.getElem_cons_zero, List.getElem_cons_succ, List.setIfInBounds_toArray, List.set_cons_zero, List.set_cons_succ]
            refine wpAnyH_take (i := 33) (v := undef) rfl (by kernel_rfl) (by kernel_rfl) (by kernel_rfl) (fun _ _ _ h => h) (Or.inr ⟨by rfl, rfl⟩) (by assumption) ?_
            simp only [Act.put, List.getElem_toArray, List.getElem_cons_zero, List.getElem_cons_succ, List.setIfInBounds_toArray, List.set_cons_zero, List.set_cons_succ]
            refine wpAnyH_take (i := 34) (v := undef) rfl (by kernel_rfl) (by kernel_rfl) (by kernel_rfl) (fun _ _ _ h => h) (Or.inr ⟨by rfl, rfl⟩) (by assumption) ?_
            simp only [Act.put, List.getElem_toArray, List.getElem_cons_zero, List.getElem_cons_succ, List.setIfInBounds_toArray, List.set_cons_zero, List.set_cons_succ]
            refine wpAnyH_take (i := 35) (v := ?_) rfl (by kernel_rfl) (by kernel_rfl) (by kernel_rfl) (fun _ _ _ h => h) (Or.inl ⟨by rfl, ?_⟩) (by assumption) ?_
            rotate_left
            · (intro w hSw; (try dsimp only at hSw); go_simp; try with_reducible rfl)
            simp only [Act.put, List.getElem_toArray, List.getElem_cons_zero, List.getElem_cons_succ, List.setIfInBounds_toArray, List.set_cons_zero, List.set_cons_succ]
            refine wpAnyH_take (i := 36) (v := ?_) rfl (by kernel_rfl) (by kernel_rfl) (by kernel_rfl) (fun _ _ _ h => h) (Or.inl ⟨by rfl, ?_⟩) (by assumption) ?_
            rotate_left
            · (intro w hSw; (try dsimp only at hSw); go_simp; try with_reducible rfl)
            simp only [Act.put, List.getElem_toArray, List.getElem_cons_zero, List.getElem_cons_succ, List.setIfInBounds_toArray, List.set_cons_zero, List.set_cons_succ]
            refine wpAnyH_done (by kernel_rfl) ?_ _
            clear hb hbD b6
            go_wp2
            go_roundw
            case rel => exact ⟨k + 1, by omega, by go_num, HB6.out⟩
            case measure => simp [intOf]; omega
          · obtain ⟨j, hj⟩ : ∃ j, j + 1 = k := ⟨k - 1, by omega⟩
            have k1 : decide ((0 : Int) < k) = true := decide_eq_true (by omega)
            have k2 : decide (0 < k) = true := decide_eq_true (by omega)
            have k3 : IntKind.i64.wrap ((k : Int) - 1) = (j : Int) := by rw [IntKind.wrap_i64]; omega
            obtain ⟨u, hu, eu⟩ := HOF.out.mem j (by omega)
            have hlt2 := HOF.out.asc j u t (by omega) eu (by rw [hj]; exact et)
            have m0 := hco j (by omega)
            rw [eu] at m0
            obtain ⟨_, _, m2⟩ := hcv2 u hu
            have j1 : (0 : Int) ≤ j := by omega
            have j2 : (j : Int) < S := by omega
            have u1 : (0 : Int) ≤ u := by omega
            have u2 : (u : Int) < S := by omega
            have hbo : bo < w2.heap.size := World.block_lt_of_cell? w2 _ m0
            have k4 : decide ((G t).seed ≤ (G u).seed) = false := decide_eq_false (by omega)
            have KS : Hid (∀ w', Hid (Below w2.heap.size w2 w') → w'.cell? ⟨b, off + t * 3, none⟩ = some (.string (G t).nm) ∧ w'.cell? ⟨b, off + t * 3 + 2, none⟩ = some (.int .i64 (G t).seed) ∧
                w'.cell? ⟨b, off + u * 3 + 2, none⟩ = some (.int .i64 (G u).seed) ∧ w'.cell? ⟨bo, oo + j, none⟩ = some (.int .i64 (u : Int)) ∧ Hid (Below w2.heap.size w2 w')) :=
              fun w' h => ⟨(h.out.cell (p := ⟨b, off + t * 3, none⟩) hbw).trans n0, (h.out.cell (p := ⟨b, off + t * 3 + 2, none⟩) hbw).trans n2, (h.out.cell (p := ⟨b, off + u * 3 + 2, none⟩) hbw).trans m2, (h.out.cell (p := ⟨bo, oo + j, none⟩) hbo).trans m0, h⟩
            clear hco hcv hcv2 HV HVO et n0 n1 n2 m0 m2 eu hlt2 hk0 hj HCP
            generalize (G t).nm = nm at *
            generalize (G t).seed = st at *
            generalize (G u).seed = su at *
            go_wp2_with fail
            go_region_held3 (fun w' => w'.cell? ⟨b, off + t * 3, none⟩ = some (.string nm) ∧ w'.cell? ⟨b, off + t * 3 + 2, none⟩ = some (.int .i64 st) ∧ w'.cell? ⟨b, off + u * 3 + 2, none⟩ = some (.int .i64 su) ∧ w'.cell? ⟨bo, oo + j, none⟩ = some (.int .i64 (u : Int)) ∧ Hid (Below w2.heap.size w2 w')) (exact KS.out _ (by assumption))
              (first
                | (go_at_call 17; refine (P1.out _ (by assumption)).mono ?_; rintro e w' ⟨rfl, rfl⟩)
                | (go_at_call 18; refine (N1.out _ (by assumption)).mono ?_; rintro e w6 ⟨rfl, b6⟩; have HB6 := below_step (by assumption) (Nat.le_refl _) b6))
            clear hb hbD b6
            go_wp2
            go_roundw
            case rel => exact ⟨k + 1, by omega, by go_num, HB6.out⟩
            case measure => simp [intOf]; omega
        · obtain rfl : k = S := by omega
          generalize hcn : clubsN G k 6 = N at *
          have g9 : decide ((0 : Int) < N) = true := decide_eq_true (by have := HCP.out; omega)
          have g8 : decide (0 < N) = true := decide_eq_true (by have := HCP.out; omega)
          have HW := Lib.hid (B1.out.trans (B2.out.mono B1.out.size))
          have RK := Lib.hid (R2.out.below hb.out (Nat.le_refl _))
          clear hcn HCP CPO2 CTN2 HNS HVO HV
          go_wp2_with (go_at_call 19; refine (CCL.out _ RK.out).mono ?_; rintro e w7 ⟨rfl, b7⟩)
          go_ret
          exact ⟨rfl, (HW.out.trans (hb.out.mono HW.out.size)).trans (b7.mono (Nat.le_trans HW.out.size hb.out.size))⟩

set_option maxRecDepth 100000 in
theorem lifted (os : Os) (started : os.Started) (H : Type) (enc : TypeId × Value → H) :
    ReturnsInHanded {} Try.checked os 3 .any (Rows.fnFieldsSpec.pre6 enc Try.prog Try.f3 Rows.fnFieldsRow.domain false) (Rows.fnFieldsSpec.post enc Try.prog Try.f3 false true false false) := by
  refine returnsInHanded_of_change (C := Try.checked) own started (by kernel_rfl) Try.func3
    (ChangeSpec.witness6 (enc := enc) (C := Try.checked) false ⟨#[], #[.slice none 0 0], []⟩ 8 (by kernel_rfl) (by kernel_rfl) (by kernel_rfl) (by kernel_rfl)) ?_
  intro W base args ds gs before hval0 hW hcnd _
  have hval : ∀ (j : Nat) t v, Try.f3.params[j]? = some t → args[j]? = some v → Value.okWide Try.prog W .any base t v := hval0
  have hW' := hW
  obtain ⟨p, q, hA0, hV, rfl, hfz, hnd⟩ := hW
  have hA : DataW.TrodAll enc Try.prog W 0 (fun _ => true) true Try.f3.params.toList args.toList ds p := hA0
  rw [Try.params3] at hA hval
  obtain ⟨v0, vs0, d0, ds0, p0, q0, hargs, rfl, rfl, h0, r0⟩ := trodAll_cons hA
  obtain ⟨rfl, rfl, rfl⟩ := trodAll_nil r0
  obtain rfl : args = #[v0] := by cases args; simp_all
  obtain ⟨rfl, rfl⟩ := trodVars_none hV
  have k0 := h0
  have lt0 : ∀ x ∈ p0, x.block < W.heap.size := by obtain ⟨m, hm⟩ := k0; exact DataW.trod_lt m _ _ _ hm
  obtain ⟨a0, len0, cap0, rfl⟩ := okWide_slice Try.underlying22 (hval 0 22 v0 rfl rfl)
  obtain ⟨z0, w0⟩ : ∃ zs, IsRow .u8 W a0 len0 cap0 zs := by
    obtain ⟨fuel, hf⟩ := h0
    rcases open_ints Try.underlying22 Try.underlying5 (by kernel_rfl) hf with ⟨hcs, _⟩ | ⟨x, l, c, zs, hcs, _, hl, hm, hz, _, hcell, hwz⟩
    · simp [Value.cells] at hcs
      obtain ⟨rfl, rfl, rfl⟩ := hcs
      exact ⟨[], .inl ⟨rfl, rfl, rfl, rfl⟩⟩
    · simp [Value.cells] at hcs
      obtain ⟨rfl, rfl, rfl⟩ := hcs
      exact ⟨zs, .inr ⟨_, rfl, hl, hm, by simpa using hz, hcell, hwz⟩⟩
  clear hA0 hval0
  simp only [List.append_nil] at hW'
  refine (walk a0 len0 cap0 z0 W w0).mono fun e W' ⟨he, bel⟩ => ?_
  subst he
  exact ⟨_, rfl, _, _, _, [], _, [], hW', trodAll_mk1 (shut_bool Try.underlying4 _), (trodAll_cons_mk (Below.trod laidOut (by kernel_rfl) (of_decide_eq_true (by kernel_rfl)) k0 bel lt0) trodAll_mk0), rfl, bel.frame _, fun h => by cases h⟩

theorem over : Rows.fnFieldsRow.holds Try.pinned (OpenSpec.ofChange Rows.fnFieldsSpec) :=
  OpenClaim.holds_of_wide 3 Try.f3 rfl rfl rfl rfl rfl rfl rfl ⟨rfl, rfl, rfl, rfl, rfl⟩ rfl rfl rfl rfl rfl (by kernel_rfl) Try.func3 (by kernel_rfl)
    (of_decide_eq_true (by kernel_rfl)) (by unfold Func.isWrapper; first | (rw [if_pos (by decide +kernel)]; kernel_rfl) | (rw [if_neg (by decide +kernel)]; exact ⟨rfl, rfl⟩))
    (fun os started H enc _ => lifted os started H enc)

theorem proved : Rows.FnFieldsSaid := over
end Go.Proofs.Ytmghnhjfkecaaaa.fnFields
