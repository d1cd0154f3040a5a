/-
  Packed: Cal3.
-/
import Derived.Test.YtcbpgbiannpfpaaDoorQ8
set_option linter.unusedVariables false
namespace Go.Proofs.YtcbpgbiannpfpaaDoor
open Go.RowKit

def okD (rest : Int) (C : ClosL) (out : List Int) (r : PairL) (d : Int) : Bool := (decide (out.length = 0) || decide (getI out (out.length - 1) + rest ≤ d)) && playB r d C
def firstF (rest : Int) (C : ClosL) (L : List Int) : List PairL → List Int → Option (List Int)
  | [], out => some out
  | r :: D, out => match L.find? (okD rest C out r) with
    | none => none
    | some d => firstF rest C L D (out ++ [d])
theorem firstF_cons (rest : Int) (C : ClosL) (L : List Int) (r : PairL) (D : List PairL) (out : List Int) : firstF rest C L (r :: D) out = match L.find? (okD rest C out r) with | none => none | some d => firstF rest C L D (out ++ [d]) := rfl
theorem find_take {p : Int → Bool} {L : List Int} {j : Nat} (hj : j < L.length) : (L.take (j + 1)).find? p = ((L.take j).find? p).or (if p (getI L j) = true then some (getI L j) else none) := by
  have h1 : L[j]? = some (getI L j) := by rw [List.getElem?_eq_getElem hj]; simp [getI, hj]
  rw [List.take_add_one, h1, List.find?_append]
  congr 1
  show List.find? p [getI L j] = _
  rw [List.find?_singleton]
def DatesM (w : World) (o : Option (List Int)) (e : Ending) (w' : World) : Prop := ∃ v, e = .returned (.tuple #[v, .bool o.isSome]) ∧ w'.ownsRow w.heap.size 3 1 v (o.getD []).length ((o.getD []).map (Value.int .i64)) ∧ Below w.heap.size w w'
def calF (R : Bool) (D : List PairL) (L : List Int) (rest : Int) (C : ClosL) : Option (List Int) := if R = true then firstF rest C L D [] else none
set_option maxRecDepth 100000 in
set_option maxHeartbeats 4000000 in
theorem firstCalendar_spec (n : Int) (vr vd : Value) (rest : Int) (vc : Value) (D : List PairL) (L : List Int) (C : ClosL) (R : Bool) (w : World) (hR : R = true ↔ seaP n D L rest C)
    (hr : RdA tPairSS w [vr] D) (hd : IntRow w vd L.length (getI L)) (hc : RdA tClosedS w [vc] C) (hw : tPairSS.wt D ≤ 1048576) :
    Calls Tryd.prog 15 #[.int .i64 n, .agg #[vr, vd, .int .i64 rest, vc]] w (DatesM w (calF R D L rest C)) := by
  obtain ⟨i0, hi, hz0, hz1, hz2⟩ := info_parts Tryd.infoI
  obtain ⟨ra, rc, rfl, hrn⟩ := schedule_form hr
  obtain ⟨da, dc, rfl, hdn, _⟩ := hd.form
  obtain ⟨ca, cc, rfl, hcn⟩ := clos_form hc
  obtain ⟨nr, hnr⟩ : ∃ nr, List.length (α := PairL) D = nr := ⟨_, rfl⟩
  obtain ⟨nd, hnd⟩ : ∃ nd, L.length = nd := ⟨_, rfl⟩
  obtain ⟨nc, hnc⟩ : ∃ nc, List.length (α := tClosed.D) C = nc := ⟨_, rfl⟩
  obtain ⟨U, hU⟩ : ∃ U, w.alloc (.cells #[.slice ra nr rc, .slice da nd dc, .int .i64 rest, .slice ca nc cc] 27) = U := ⟨_, rfl⟩
  have bU : Below w.heap.size w U := by rw [← hU]; exact (Below.refl _ _).alloc (Nat.le_refl _) _
  have CS := Lib.hid (l10Season_spec n _ _ rest _ D L C R U hR (hr.below bU) (hd.below bU (Nat.le_refl _)) (hc.below bU) hw)
  have HNR := Lib.hid hnr
  have HND := Lib.hid hnd
  have HRD : Hid (R = true → (1 ≤ rest ∧ rest ≤ 60) ∧ daysP L ∧ nr ≤ 14 ∧ nd ≤ 30) := fun e => ⟨(hR.1 e).2.2.2.1, (hR.1 e).2.2.2.2, by rw [← hnr]; exact (hR.1 e).1.2.1, by rw [← hnd]; exact (hR.1 e).2.2.1⟩
  rw [hnr] at hr CS ⊢
  rw [hnd] at hd hdn CS ⊢
  rw [hnc] at hc hcn CS ⊢
  have HS : Hid (SeaAt U w.heap.size ra nr rc da nd dc rest ca nc cc D L C) := by rw [← hU]; exact SeaAt.made hr hd hc
  have HB := Lib.hid bU
  clear hr hd hc hR hw hnr hnd hnc hrn hcn bU
  obtain ⟨c0, c1, c2, c3⟩ := HS.out.cells
  go_enter Tryd.func15, Tryd.ntmps15
  go_wp2_with fail
  clear hU
  refine CS.out.mono ?_
  rintro e w1 ⟨rfl, b⟩
  have HS1 := Lib.hid (HS.out.below b)
  have HB1 := Lib.hid (HB.out.trans (b.mono HB.out.size))
  clear b c0 c1 c2 c3 HS HB CS
  cases R with
  | false =>
    have HN0 : Hid (w1.ownsRow w.heap.size 3 1 (.slice none 0 0) 0 []) := World.ownsRow_nil _ _ _ _
    go_wp2
    go_ret2
    exact ⟨_, rfl, HN0.out, HB1.out⟩
  | true =>
  obtain ⟨hrs, hdy, h14, h30⟩ := HRD.out (by first | rfl | trivial)
  have HDY := Lib.hid hdy
  have HF0 : Hid (firstF rest C L (D.drop 0) [] = calF true D L rest C) := rfl
  have ON : Hid ((w1.alloc (.cells #[] 3)).ownsRow w1.heap.size 3 1 (.slice (some ⟨w1.heap.size, 0, none⟩) 0 0) 0 []) := World.ownsRow_lit (e := 3) (size := 1) w1 #[] 0 (Nat.le_refl _) (by decide) rfl
  have HB0 : Hid (Below w1.heap.size w1 (w1.alloc (.cells #[] 3))) := (Below.refl _ _).alloc (Nat.le_refl _) _
  have HSA := Lib.hid (HS1.out.below HB0.out)
  obtain ⟨FR, hFR⟩ : ∃ FR, calF true D L rest C = FR := ⟨_, rfl⟩
  rw [hFR] at HF0
  have HFQ := Lib.hid hFR
  clear HRD hdy hFR
  obtain ⟨c0, c1, c2, c3⟩ := HSA.out.cells
  go_wp2
  clear c0 c1 c2 c3 HSA
  go_loopw [6, 20] (fun ov iv wr => ∃ (k : Nat) (out : List Int), k ≤ nr ∧ iv = .int .i64 k ∧ out.length = k ∧ Hid (∀ x ∈ out, 0 ≤ x ∧ x ≤ 60) ∧ Hid (firstF rest C L (D.drop k) out = FR) ∧ Hid (wr.ownsRow w1.heap.size 3 1 ov out.length (out.map (Value.int .i64))) ∧ Hid (Below w1.heap.size w1 wr)) (fun _ iv _ => nr - (RowKit.intOf iv).toNat)
  case atStart => exact ⟨0, [], Nat.zero_le _, rfl, rfl, fun x hx => (by cases hx), HF0, ON, HB0⟩
  case round =>
    clear HF0 ON HB0
    obtain ⟨k, out0, hk9, rfl, hok, HOR, HV, HO, HB⟩ := hrel
    have HOK := Lib.hid hok
    have hok14 : out0.length ≤ 14 := by omega
    clear hok
    by_cases hlt : k < nr
    · obtain ⟨rr, hrr⟩ : ∃ rr : PairL, D[k]? = some rr := ⟨_, List.getElem?_eq_getElem (by rw [HNR.out]; exact hlt)⟩
      have HSr := Lib.hid (HS1.out.below HB.out)
      obtain ⟨rb, ro, xa, xc, hra, hcap2, hq, hrd, hx63⟩ := round_cells (by rw [HNR.out]; exact HS1.out.2.1) hrr
      subst hra
      rw [HNR.out] at hcap2
      have hj1 : (k : Int) < (nr : Int) := by omega
      have HV2 : Hid ((match L.find? (okD rest C out0 rr) with | none => none | some d => firstF rest C L (D.drop (k + 1)) (out0 ++ [d])) = FR) := by show _ = _; rw [← HV.out, drop_at hrr, firstF_cons]
      have HRR1 : Hid (RdA tPairS w1 [.slice xa (List.length (α := tPair.D) rr) xc] rr) := hrd
      have CPx : Hid (∀ x wa, RdA tPairS wa [.slice xa (List.length (α := tPair.D) rr) xc] rr → RdA tClosedS wa [.slice ca nc cc] C → Calls Tryd.prog 44 #[.slice xa (List.length (α := tPair.D) rr) xc, .int .i64 x, .slice ca nc cc] wa fun e w' => e = .returned (.bool (playB rr x C)) ∧ Below wa.heap.size wa w') := fun x wa h1 h2 => canPlayOn_spec _ rr x _ C wa h1 h2
      obtain ⟨xn, hxn⟩ : ∃ xn, List.length (α := tPair.D) rr = xn := ⟨_, rfl⟩
      rw [hxn] at hq hx63 HRR1 CPx
      have hq2 := (HB.out.cell (p := ⟨rb, ro + k, none⟩) (World.block_lt_of_cell? w1 _ hq)).trans hq
      clear hrr hxn hrd HV
      obtain ⟨oa0, oc0, hof0⟩ := owns_form HO.out
      subst hof0
      obtain ⟨c0, c1, c2, c3⟩ := HSr.out.cells
      go_wp2
      clear c0 c1 c2 c3 hq hq2
      generalize wr = w2 at *
      go_loopw [6, 9, 28] (fun ov fv jv wr => ∃ (j : Nat) (o : Option Int) (out : List Int), j ≤ nd ∧ jv = .int .i64 j ∧ fv = .bool o.isSome ∧ out.length = k + o.toList.length ∧ Hid (out = out0 ++ o.toList) ∧ Hid ((L.take j).find? (okD rest C out0 rr) = o) ∧ Hid (wr.ownsRow w1.heap.size 3 1 ov out.length (out.map (Value.int .i64))) ∧ Hid (Below w1.heap.size w1 wr)) (fun _ _ jv _ => nd - (RowKit.intOf jv).toNat)
      case atStart => exact ⟨0, none, out0, Nat.zero_le _, rfl, rfl, HOK.out, (by show _ = _; simp), rfl, HO, HB⟩
      case round =>
        clear HO
        obtain ⟨j, o, out, hj9, rfl, rfl, hol, HOO, HFD, HO, HB3⟩ := hrel
        have HOLN := Lib.hid hol
        have hol8 : out.length ≤ 15 := by have : o.toList.length ≤ 1 := by cases o <;> simp
                                          omega
        clear hol
        have HB := HB3
        have HSx := Lib.hid (HS1.out.below HB.out)
        by_cases hlt2 : j < nd
        · obtain ⟨bo, oo, hda, hcap3, q0⟩ := int_at HSx.out.2.2.1 hlt2
          subst hda
          have hj2 : (j : Int) < (nd : Int) := by omega
          have hxr := (HDY.out j (by rw [HND.out]; exact hlt2)).1
          have HFS : Hid ((L.take (j + 1)).find? (okD rest C out0 rr) = o.or (if okD rest C out0 rr (getI L j) = true then some (getI L j) else none)) := by show _ = _; rw [find_take (by rw [HND.out]; exact hlt2), HFD.out]
          have HS := HSx
          have HRR := Lib.hid (HRR1.out.below HB3.out)
          obtain ⟨oa, oc, hof⟩ := owns_form HO.out
          subst hof
          have HIO : Hid (IntRow wr (.slice oa out.length oc) out.length (getI out)) := IntRow.of_list HO.out (by omega)
          have CP := Lib.hid (CPx.out (getI L j))
          cases o with
          | some y =>
            have HFN : Hid ((L.take (j + 1)).find? (okD rest C out0 rr) = some y) := by show _ = _; rw [HFS.out]; rfl
            have HBC := HB
            clear HFS HFD hxr CP
            generalize getI L j = x at *
            obtain ⟨S, HSd⟩ : ∃ S : World → Prop, S = fun w' => (SeaAt w' w.heap.size (some ⟨rb, ro, none⟩) nr rc (some ⟨bo, oo, none⟩) nd dc rest ca nc cc D L C ∧ IntRow w' (.slice oa out.length oc) out.length (getI out) ∧ w'.ownsRow w1.heap.size 3 1 (.slice oa out.length oc) out.length (out.map (Value.int .i64)) ∧ RdA tPairS w' [.slice xa xn xc] rr ∧ Below w1.heap.size w1 w') := ⟨_, rfl⟩
            have KS : Hid (∀ wa wb, S wa → Below wa.heap.size wa wb → S wb) := by subst HSd; exact fun wa wb h b => ⟨h.1.below b, h.2.1.below b (Nat.le_refl _), owns_below h.2.2.1 b (Nat.le_refl _), h.2.2.2.1.below b, h.2.2.2.2.trans (b.mono h.2.2.2.2.size)⟩
            have OS : Hid (∀ wa, S wa → (SeaAt wa w.heap.size (some ⟨rb, ro, none⟩) nr rc (some ⟨bo, oo, none⟩) nd dc rest ca nc cc D L C ∧ IntRow wa (.slice oa out.length oc) out.length (getI out) ∧ wa.ownsRow w1.heap.size 3 1 (.slice oa out.length oc) out.length (out.map (Value.int .i64)) ∧ RdA tPairS wa [.slice xa xn xc] rr ∧ Below w1.heap.size w1 wa)) := by subst HSd; exact fun wa h => h
            have IS : Hid (∀ wa, (SeaAt wa w.heap.size (some ⟨rb, ro, none⟩) nr rc (some ⟨bo, oo, none⟩) nd dc rest ca nc cc D L C ∧ IntRow wa (.slice oa out.length oc) out.length (getI out) ∧ wa.ownsRow w1.heap.size 3 1 (.slice oa out.length oc) out.length (out.map (Value.int .i64)) ∧ RdA tPairS wa [.slice xa xn xc] rr ∧ Below w1.heap.size w1 wa) → S wa) := by subst HSd; exact fun wa h => h
            clear HSd
            go_wp2_with fail
            refine wp_region_held_drew (S := S) (by kernel_rfl) ?_ (fun hHeld => ?_)
            · exact IS.out _ ((fun (b : Below wr.heap.size wr wr.drew) => ⟨HS.out.below b, HIO.out.below b (Nat.le_refl _), owns_below HO.out b (Nat.le_refl _), HRR.out.below b, HB.out.trans (b.mono HB.out.size)⟩) (Below.refl _ _).drew)
            refine wpAnyH_take (i := 0) (v := ?_) rfl (by kernel_rfl) (by kernel_rfl) (by kernel_rfl) (fun _ _ _ h => h) (Or.inl ⟨by rfl, ?_⟩) hHeld ?_
            rotate_left
            · (intro wa hSw; go_simp; try with_reducible rfl)
            simp only [Act.put, List.getElem_toArray, List.getElem_cons_zero, List.setIfInBounds_toArray, List.set_cons_zero, List.set_cons_succ]
            refine wpAnyH_take (i := 1) (v := ?_) rfl (by kernel_rfl) (by kernel_rfl) (by kernel_rfl) (fun _ _ _ h => h) (Or.inl ⟨by rfl, ?_⟩) hHeld ?_
            rotate_left
            · (intro wa hSw; go_simp; try with_reducible rfl)
            simp only [Act.put, List.getElem_toArray, List.getElem_cons_zero, List.getElem_cons_succ, List.setIfInBounds_toArray, List.set_cons_zero, List.set_cons_succ]
            refine wpAnyH_take (i := 2) (v := ?_) rfl (by kernel_rfl) (by kernel_rfl) (by kernel_rfl) (fun _ _ _ h => h) (Or.inl ⟨by rfl, ?_⟩) hHeld ?_
            rotate_left
            · (intro wa hSw; go_simp; try with_reducible rfl)
            simp only [Act.put, List.getElem_toArray, List.getElem_cons_zero, List.getElem_cons_succ, List.setIfInBounds_toArray, List.set_cons_zero, List.set_cons_succ]
            refine wpAnyH_take (i := 3) (v := undef) rfl (by kernel_rfl) (by kernel_rfl) (by kernel_rfl) (fun _ _ _ h => h) (Or.inr ⟨by rfl, rfl⟩) hHeld ?_
            simp only [Act.put, List.getElem_toArray, List.getElem_cons_zero, List.getElem_cons_succ, List.setIfInBounds_toArray, List.set_cons_zero, List.set_cons_succ]
            refine wpAnyH_take (i := 4) (v := undef) rfl (by kernel_rfl) (by kernel_rfl) (by kernel_rfl) (fun _ _ _ h => h) (Or.inr ⟨by rfl, rfl⟩) hHeld ?_
            simp only [Act.put, List.getElem_toArray, List.getElem_cons_zero, List.getElem_cons_succ, List.setIfInBounds_toArray, List.set_cons_zero, List.set_cons_succ]
            refine wpAnyH_take (i := 5) (v := undef) rfl (by kernel_rfl) (by kernel_rfl) (by kernel_rfl) (fun _ _ _ h => h) (Or.inr ⟨by rfl, rfl⟩) hHeld ?_
            simp only [Act.put, List.getElem_toArray, List.getElem_cons_zero, List.getElem_cons_succ, List.setIfInBounds_toArray, List.set_cons_zero, List.set_cons_succ]
            refine wpAnyH_take (i := 6) (v := undef) rfl (by kernel_rfl) (by kernel_rfl) (by kernel_rfl) (fun _ _ _ h => h) (Or.inr ⟨by rfl, rfl⟩) hHeld ?_
            simp only [Act.put, List.getElem_toArray, List.getElem_cons_zero, List.getElem_cons_succ, List.setIfInBounds_toArray, List.set_cons_zero, List.set_cons_succ]
            refine wpAnyH_take (i := 7) (v := undef) rfl (by kernel_rfl) (by kernel_rfl) (by kernel_rfl) (fun _ _ _ h => h) (Or.inr ⟨by rfl, rfl⟩) hHeld ?_
            simp only [Act.put, List.getElem_toArray, List.getElem_cons_zero, List.getElem_cons_succ, List.setIfInBounds_toArray, List.set_cons_zero, List.set_cons_succ]
            refine wpAnyH_take (i := 8) (v := undef) rfl (by kernel_rfl) (by kernel_rfl) (by kernel_rfl) (fun _ _ _ h => h) (Or.inr ⟨by rfl, rfl⟩) hHeld ?_
            simp only [Act.put, List.getElem_toArray, List.getElem_cons_zero, List.getElem_cons_succ, List.setIfInBounds_toArray, List.set_cons_zero, List.set_cons_succ]
            refine wpAnyH_take (i := 9) (v := undef) rfl (by kernel_rfl) (by kernel_rfl) (by kernel_rfl) (fun _ _ _ h => h) (Or.inr ⟨by rfl, rfl⟩) hHeld ?_
            simp only [Act.put, List.getElem_toArray, List.getElem_cons_zero, List.getElem_cons_succ, List.setIfInBounds_toArray, List.set_cons_zero, List.set_cons_succ]
            refine wpAnyH_take (i := 10) (v := undef) rfl (by kernel_rfl) (by kernel_rfl) (by kernel_rfl) (fun _ _ _ h => h) (Or.inr ⟨by rfl, rfl⟩) hHeld ?_
            simp only [Act.put, List.getElem_toArray, List.getElem_cons_zero, List.getElem_cons_succ, List.setIfInBounds_toArray, List.set_cons_zero, List.set_cons_succ]
            refine wpAnyH_take (i := 11) (v := undef) rfl (by kernel_rfl) (by kernel_rfl) (by kernel_rfl) (fun _ _ _ h => h) (Or.inr ⟨by rfl, rfl⟩) hHeld ?_
            simp only [Act.put, List.getElem_toArray, List.getElem_cons_zero, List.getElem_cons_succ, List.setIfInBounds_toArray, List.set_cons_zero, List.set_cons_succ]
            refine wpAnyH_take (i := 12) (v := undef) rfl (by kernel_rfl) (by kernel_rfl) (by kernel_rfl) (fun _ _ _ h => h) (Or.inr ⟨by rfl, rfl⟩) hHeld ?_
            simp only [Act.put, List.getElem_toArray, List.getElem_cons_zero, List.getElem_cons_succ, List.setIfInBounds_toArray, List.set_cons_zero, List.set_cons_succ]
            refine wpAnyH_take (i := 13) (v := undef) rfl (by kernel_rfl) (by kernel_rfl) (by kernel_rfl) (fun _ _ _ h => h) (Or.inr ⟨by rfl, rfl⟩) hHeld ?_
            simp only [Act.put, List.getElem_toArray, List.getElem_cons_zero, List.getElem_cons_succ, List.setIfInBounds_toArray, List.set_cons_zero, List.set_cons_succ]
            refine wpAnyH_take (i := 14) (v := undef) rfl (by kernel_rfl) (by kernel_rfl) (by kernel_rfl) (fun _ _ _ h => h) (Or.inr ⟨by rfl, rfl⟩) hHeld ?_
            simp only [Act.put, List.getElem_toArray, List.getElem_cons_zero, List.getElem_cons_succ, List.setIfInBounds_toArray, List.set_cons_zero, List.set_cons_succ]
            refine wpAnyH_take (i := 15) (v := undef) rfl (by kernel_rfl) (by kernel_rfl) (by kernel_rfl) (fun _ _ _ h => h) (Or.inr ⟨by rfl, rfl⟩) hHeld ?_
            simp only [Act.put, List.getElem_toArray, List.getElem_cons_zero, List.getElem_cons_succ, List.setIfInBounds_toArray, List.set_cons_zero, List.set_cons_succ]
            refine wpAnyH_take (i := 16) (v := undef) rfl (by kernel_rfl) (by kernel_rfl) (by kernel_rfl) (fun _ _ _ h => h) (Or.inr ⟨by rfl, rfl⟩) hHeld ?_
            simp only [Act.put, List.getElem_toArray, List.getElem_cons_zero, List.getElem_cons_succ, List.setIfInBounds_toArray, List.set_cons_zero, List.set_cons_succ]
            refine wpAnyH_take (i := 17) (v := ?_) rfl (by kernel_rfl) (by kernel_rfl) (by kernel_rfl) (fun _ _ _ h => h) (Or.inl ⟨by rfl, ?_⟩) hHeld ?_
            rotate_left
            · (intro wa hSw; go_simp; try with_reducible rfl)
            simp only [Act.put, List.getElem_toArray, List.getElem_cons_zero, List.getElem_cons_succ, List.setIfInBounds_toArray, List.set_cons_zero, List.set_cons_succ]
            refine wpAnyH_take (i := 18) (v := ?_) rfl (by kernel_rfl) (by kernel_rfl) (by kernel_rfl) (fun _ _ _ h => h) (Or.inl ⟨by rfl, ?_⟩) hHeld ?_
            rotate_left
            · (intro wa hSw; go_simp; try with_reducible rfl)
            simp only [Act.put, List.getElem_toArray, List.getElem_cons_zero, List.getElem_cons_succ, List.setIfInBounds_toArray, List.set_cons_zero, List.set_cons_succ]
            refine wpAnyH_take (i := 19) (v := undef) rfl (by kernel_rfl) (by kernel_rfl) (by kernel_rfl) (fun _ _ _ h => h) (Or.inr ⟨by rfl, rfl⟩) hHeld ?_
            simp only [Act.put, List.getElem_toArray, List.getElem_cons_zero, List.getElem_cons_succ, List.setIfInBounds_toArray, List.set_cons_zero, List.set_cons_succ]
            refine wpAnyH_take (i := 20) (v := undef) rfl (by kernel_rfl) (by kernel_rfl) (by kernel_rfl) (fun _ _ _ h => h) (Or.inr ⟨by rfl, rfl⟩) hHeld ?_
            simp only [Act.put, List.getElem_toArray, List.getElem_cons_zero, List.getElem_cons_succ, List.setIfInBounds_toArray, List.set_cons_zero, List.set_cons_succ]
            refine wpAnyH_take (i := 21) (v := undef) rfl (by kernel_rfl) (by kernel_rfl) (by kernel_rfl) (fun _ _ _ h => h) (Or.inr ⟨by rfl, rfl⟩) hHeld ?_
            simp only [Act.put, List.getElem_toArray, List.getElem_cons_zero, List.getElem_cons_succ, List.setIfInBounds_toArray, List.set_cons_zero, List.set_cons_succ]
            refine wpAnyH_take (i := 22) (v := undef) rfl (by kernel_rfl) (by kernel_rfl) (by kernel_rfl) (fun _ _ _ h => h) (Or.inr ⟨by rfl, rfl⟩) hHeld ?_
            simp only [Act.put, List.getElem_toArray, List.getElem_cons_zero, List.getElem_cons_succ, List.setIfInBounds_toArray, List.set_cons_zero, List.set_cons_succ]
            refine wpAnyH_take (i := 23) (v := undef) rfl (by kernel_rfl) (by kernel_rfl) (by kernel_rfl) (fun _ _ _ h => h) (Or.inr ⟨by rfl, rfl⟩) hHeld ?_
            simp only [Act.put, List.getElem_toArray, List.getElem_cons_zero, List.getElem_cons_succ, List.setIfInBounds_toArray, List.set_cons_zero, List.set_cons_succ]
            refine wpAnyH_take (i := 24) (v := ?_) rfl (by kernel_rfl) (by kernel_rfl) (by kernel_rfl) (fun _ _ _ h => h) (Or.inl ⟨by rfl, ?_⟩) hHeld ?_
            rotate_left
            · (intro wa hSw; go_simp; try with_reducible rfl)
            simp only [Act.put, List.getElem_toArray, List.getElem_cons_zero, List.getElem_cons_succ, List.setIfInBounds_toArray, List.set_cons_zero, List.set_cons_succ]
            refine wpAnyH_done (by kernel_rfl) ?_ _
            have KE := Lib.hid (OS.out _ hHeld)
            clear KS OS IS hHeld
            have HE := Lib.hid KE.out
            clear KE HS HIO HO HRR HB
            go_wp2
            go_roundw
            case rel => exact ⟨j + 1, some y, out, by omega, by go_num, rfl, HOLN.out, HOO, HFN, HE.out.2.2.1, HE.out.2.2.2.2⟩
            case measure => simp [RowKit.intOf]; omega
          | none =>
            have HOL0 : Hid (out.length = k) := by show _ = _; simpa using HOLN.out
            have hol1 : k ≤ out.length := Nat.le_of_eq HOL0.out.symm
            have HO0 : Hid (out = out0) := by show _ = _; rw [HOO.out]; simp
            have HOKD : Hid (okD rest C out0 rr (getI L j) = ((decide (k = 0) || decide (getI out (k - 1) + rest ≤ getI L j)) && playB rr (getI L j) C)) := by show _ = _; unfold okD; rw [HOK.out, HO0.out]
            have HYS : Hid (okD rest C out0 rr (getI L j) = true → (L.take (j + 1)).find? (okD rest C out0 rr) = some (getI L j)) := fun h => by rw [HFS.out, if_pos h]; rfl
            have HNS : Hid (okD rest C out0 rr (getI L j) = false → (L.take (j + 1)).find? (okD rest C out0 rr) = none) := fun h => by rw [HFS.out, if_neg (by rw [h]; simp)]; rfl
            have HOX : Hid (∀ i, i < k → 0 ≤ getI out i ∧ getI out i ≤ 60) := fun i hi => by
              have h1 : i < out.length := Nat.lt_of_lt_of_le hi hol1
              have e : getI out i = out[i] := by unfold getI; exact (List.getElem_eq_getD 0).symm
              rw [e]
              have key : ∀ l : List Int, l = out0 → ∀ h : i < l.length, l[i] ∈ out0 := by intro l hl h; subst hl; exact List.getElem_mem h
              exact HOR.out _ (key out HO0.out h1)
            clear HFS HFD
            obtain ⟨pl, hpl⟩ : ∃ pl, playB rr (getI L j) C = pl := ⟨_, rfl⟩
            rw [hpl] at CP HOKD
            clear hpl
            rcases Nat.eq_zero_or_pos k with hk0 | hk0
            · have g0 : ((k : Int) == 0) = true := beq_iff_eq.2 (by omega)
              have e1 : decide (k = 0) = true := decide_eq_true hk0
              rw [e1, Bool.true_or, Bool.true_and] at HOKD
              have HK0 := Lib.hid hk0
              clear hk0 e1
              cases pl with
              | true =>
                have HFN := Lib.hid (HYS.out HOKD.out)
                have HOOn : Hid (out ++ [getI L j] = out0 ++ (some (getI L j)).toList) := by show _ = _; rw [HO0.out]; rfl
                clear HYS HNS HOKD HOX HOO HO0
                have HOO := HOOn
                clear HOOn
                generalize hxe : getI L j = x at *
                clear hxe
                replace HOLN : Hid (out.length = k) := HOL0
                obtain ⟨S, HSd⟩ : ∃ S : World → Prop, S = fun w' => (SeaAt w' w.heap.size (some ⟨rb, ro, none⟩) nr rc (some ⟨bo, oo, none⟩) nd dc rest ca nc cc D L C ∧ IntRow w' (.slice oa out.length oc) out.length (getI out) ∧ w'.ownsRow w1.heap.size 3 1 (.slice oa out.length oc) out.length (out.map (Value.int .i64)) ∧ RdA tPairS w' [.slice xa xn xc] rr ∧ Below w1.heap.size w1 w') := ⟨_, rfl⟩
                have KS : Hid (∀ wa wb, S wa → Below wa.heap.size wa wb → S wb) := by subst HSd; exact fun wa wb h b => ⟨h.1.below b, h.2.1.below b (Nat.le_refl _), owns_below h.2.2.1 b (Nat.le_refl _), h.2.2.2.1.below b, h.2.2.2.2.trans (b.mono h.2.2.2.2.size)⟩
                have OS : Hid (∀ wa, S wa → (SeaAt wa w.heap.size (some ⟨rb, ro, none⟩) nr rc (some ⟨bo, oo, none⟩) nd dc rest ca nc cc D L C ∧ IntRow wa (.slice oa out.length oc) out.length (getI out) ∧ wa.ownsRow w1.heap.size 3 1 (.slice oa out.length oc) out.length (out.map (Value.int .i64)) ∧ RdA tPairS wa [.slice xa xn xc] rr ∧ Below w1.heap.size w1 wa)) := by subst HSd; exact fun wa h => h
                have IS : Hid (∀ wa, (SeaAt wa w.heap.size (some ⟨rb, ro, none⟩) nr rc (some ⟨bo, oo, none⟩) nd dc rest ca nc cc D L C ∧ IntRow wa (.slice oa out.length oc) out.length (getI out) ∧ wa.ownsRow w1.heap.size 3 1 (.slice oa out.length oc) out.length (out.map (Value.int .i64)) ∧ RdA tPairS wa [.slice xa xn xc] rr ∧ Below w1.heap.size w1 wa) → S wa) := by subst HSd; exact fun wa h => h
                clear HSd
                go_wp2_with fail
                refine wp_region_held_drew (S := S) (by kernel_rfl) ?_ (fun hHeld => ?_)
                · exact IS.out _ ((fun (b : Below wr.heap.size wr wr.drew) => ⟨HS.out.below b, HIO.out.below b (Nat.le_refl _), owns_below HO.out b (Nat.le_refl _), HRR.out.below b, HB.out.trans (b.mono HB.out.size)⟩) (Below.refl _ _).drew)
                refine wpAnyH_take (i := 0) (v := ?_) rfl (by kernel_rfl) (by kernel_rfl) (by kernel_rfl) (fun _ _ _ h => h) (Or.inl ⟨by rfl, ?_⟩) hHeld ?_
                rotate_left
                · (intro wa hSw; go_simp; try with_reducible rfl)
                simp only [Act.put, List.getElem_toArray, List.getElem_cons_zero, List.setIfInBounds_toArray, List.set_cons_zero, List.set_cons_succ]
                refine wpAnyH_take (i := 1) (v := ?_) rfl (by kernel_rfl) (by kernel_rfl) (by kernel_rfl) (fun _ _ _ h => h) (Or.inl ⟨by rfl, ?_⟩) hHeld ?_
                rotate_left
                · (intro wa hSw; go_simp; try with_reducible rfl)
                simp only [Act.put, List.getElem_toArray, List.getElem_cons_zero, List.getElem_cons_succ, List.setIfInBounds_toArray, List.set_cons_zero, List.set_cons_succ]
                refine wpAnyH_take (i := 2) (v := ?_) rfl (by kernel_rfl) (by kernel_rfl) (by kernel_rfl) (fun _ _ _ h => h) (Or.inl ⟨by rfl, ?_⟩) hHeld ?_
                rotate_left
                · (intro wa hSw; go_simp; try with_reducible rfl)
                simp only [Act.put, List.getElem_toArray, List.getElem_cons_zero, List.getElem_cons_succ, List.setIfInBounds_toArray, List.set_cons_zero, List.set_cons_succ]
                refine wpAnyH_take (i := 3) (v := ?_) rfl (by kernel_rfl) (by kernel_rfl) (by kernel_rfl) (fun _ _ _ h => h) (Or.inl ⟨by rfl, ?_⟩) hHeld ?_
                rotate_left
                · (intro wa hSw; go_simp; try with_reducible rfl)
                simp only [Act.put, List.getElem_toArray, List.getElem_cons_zero, List.getElem_cons_succ, List.setIfInBounds_toArray, List.set_cons_zero, List.set_cons_succ]
                refine wpAnyH_take (i := 4) (v := ?_) rfl (by kernel_rfl) (by kernel_rfl) (by kernel_rfl) (fun _ _ _ h => h) (Or.inl ⟨by rfl, ?_⟩) hHeld ?_
                rotate_left
                · (intro wa hSw; go_simp; try with_reducible rfl)
                simp only [Act.put, List.getElem_toArray, List.getElem_cons_zero, List.getElem_cons_succ, List.setIfInBounds_toArray, List.set_cons_zero, List.set_cons_succ]
                refine wpAnyH_take (i := 5) (v := ?_) rfl (by kernel_rfl) (by kernel_rfl) (by kernel_rfl) (fun _ _ _ h => h) (Or.inl ⟨by rfl, ?_⟩) hHeld ?_
                rotate_left
                · (intro wa hSw; go_simp; try with_reducible rfl)
                simp only [Act.put, List.getElem_toArray, List.getElem_cons_zero, List.getElem_cons_succ, List.setIfInBounds_toArray, List.set_cons_zero, List.set_cons_succ]
                refine wpAnyH_take (i := 6) (v := undef) rfl (by kernel_rfl) (by kernel_rfl) (by kernel_rfl) (fun _ _ _ h => h) (Or.inr ⟨by rfl, rfl⟩) hHeld ?_
                simp only [Act.put, List.getElem_toArray, List.getElem_cons_zero, List.getElem_cons_succ, List.setIfInBounds_toArray, List.set_cons_zero, List.set_cons_succ]
                refine wpAnyH_take (i := 7) (v := undef) rfl (by kernel_rfl) (by kernel_rfl) (by kernel_rfl) (fun _ _ _ h => h) (Or.inr ⟨by rfl, rfl⟩) hHeld ?_
                simp only [Act.put, List.getElem_toArray, List.getElem_cons_zero, List.getElem_cons_succ, List.setIfInBounds_toArray, List.set_cons_zero, List.set_cons_succ]
                refine wpAnyH_take (i := 8) (v := undef) rfl (by kernel_rfl) (by kernel_rfl) (by kernel_rfl) (fun _ _ _ h => h) (Or.inr ⟨by rfl, rfl⟩) hHeld ?_
                simp only [Act.put, List.getElem_toArray, List.getElem_cons_zero, List.getElem_cons_succ, List.setIfInBounds_toArray, List.set_cons_zero, List.set_cons_succ]
                refine wpAnyH_take (i := 9) (v := undef) rfl (by kernel_rfl) (by kernel_rfl) (by kernel_rfl) (fun _ _ _ h => h) (Or.inr ⟨by rfl, rfl⟩) hHeld ?_
                simp only [Act.put, List.getElem_toArray, List.getElem_cons_zero, List.getElem_cons_succ, List.setIfInBounds_toArray, List.set_cons_zero, List.set_cons_succ]
                refine wpAnyH_take (i := 10) (v := undef) rfl (by kernel_rfl) (by kernel_rfl) (by kernel_rfl) (fun _ _ _ h => h) (Or.inr ⟨by rfl, rfl⟩) hHeld ?_
                simp only [Act.put, List.getElem_toArray, List.getElem_cons_zero, List.getElem_cons_succ, List.setIfInBounds_toArray, List.set_cons_zero, List.set_cons_succ]
                refine wpAnyH_take (i := 11) (v := undef) rfl (by kernel_rfl) (by kernel_rfl) (by kernel_rfl) (fun _ _ _ h => h) (Or.inr ⟨by rfl, rfl⟩) hHeld ?_
                simp only [Act.put, List.getElem_toArray, List.getElem_cons_zero, List.getElem_cons_succ, List.setIfInBounds_toArray, List.set_cons_zero, List.set_cons_succ]
                refine wpAnyH_take (i := 12) (v := undef) rfl (by kernel_rfl) (by kernel_rfl) (by kernel_rfl) (fun _ _ _ h => h) (Or.inr ⟨by rfl, rfl⟩) hHeld ?_
                simp only [Act.put, List.getElem_toArray, List.getElem_cons_zero, List.getElem_cons_succ, List.setIfInBounds_toArray, List.set_cons_zero, List.set_cons_succ]
                refine wpAnyH_take (i := 13) (v := undef) rfl (by kernel_rfl) (by kernel_rfl) (by kernel_rfl) (fun _ _ _ h => h) (Or.inr ⟨by rfl, rfl⟩) hHeld ?_
                simp only [Act.put, List.getElem_toArray, List.getElem_cons_zero, List.getElem_cons_succ, List.setIfInBounds_toArray, List.set_cons_zero, List.set_cons_succ]
                refine wpAnyH_take (i := 14) (v := undef) rfl (by kernel_rfl) (by kernel_rfl) (by kernel_rfl) (fun _ _ _ h => h) (Or.inr ⟨by rfl, rfl⟩) hHeld ?_
                simp only [Act.put, List.getElem_toArray, List.getElem_cons_zero, List.getElem_cons_succ, List.setIfInBounds_toArray, List.set_cons_zero, List.set_cons_succ]
                refine wpAnyH_take (i := 15) (v := undef) rfl (by kernel_rfl) (by kernel_rfl) (by kernel_rfl) (fun _ _ _ h => h) (Or.inr ⟨by rfl, rfl⟩) hHeld ?_
                simp only [Act.put, List.getElem_toArray, List.getElem_cons_zero, List.getElem_cons_succ, List.setIfInBounds_toArray, List.set_cons_zero, List.set_cons_succ]
                refine wpAnyH_take (i := 16) (v := ?_) rfl (by kernel_rfl) (by kernel_rfl) (by kernel_rfl) (fun _ _ _ h => h) (Or.inl ⟨by rfl, ?_⟩) hHeld ?_
                rotate_left
                · (intro wa hSw; go_simp; try with_reducible rfl)
                simp only [Act.put, List.getElem_toArray, List.getElem_cons_zero, List.getElem_cons_succ, List.setIfInBounds_toArray, List.set_cons_zero, List.set_cons_succ]
                refine wpAnyH_take (i := 17) (v := ?_) rfl (by kernel_rfl) (by kernel_rfl) (by kernel_rfl) (fun _ _ _ h => h) (Or.inl ⟨by rfl, ?_⟩) hHeld ?_
                rotate_left
                · (intro wa hSw; go_simp; try with_reducible rfl)
                simp only [Act.put, List.getElem_toArray, List.getElem_cons_zero, List.getElem_cons_succ, List.setIfInBounds_toArray, List.set_cons_zero, List.set_cons_succ]
                refine wpAnyH_take (i := 18) (v := ?_) rfl (by kernel_rfl) (by kernel_rfl) (by kernel_rfl) (fun _ _ _ h => h) (Or.inl ⟨by rfl, ?_⟩) hHeld ?_
                rotate_left
                · (intro wa hSw; go_simp; try with_reducible rfl)
                simp only [Act.put, List.getElem_toArray, List.getElem_cons_zero, List.getElem_cons_succ, List.setIfInBounds_toArray, List.set_cons_zero, List.set_cons_succ]
                refine wpAnyH_take (i := 19) (v := ?_) rfl (by kernel_rfl) (by kernel_rfl) (by kernel_rfl) (fun _ _ _ h => h) (Or.inl ⟨by rfl, ?_⟩) hHeld ?_
                rotate_left
                · (intro wa hSw; go_simp; try with_reducible rfl)
                simp only [Act.put, List.getElem_toArray, List.getElem_cons_zero, List.getElem_cons_succ, List.setIfInBounds_toArray, List.set_cons_zero, List.set_cons_succ]
                refine wpAnyH_take (i := 20) (v := ?_) rfl (by kernel_rfl) (by kernel_rfl) (by kernel_rfl) (fun _ _ _ h => h) (Or.inl ⟨by rfl, ?_⟩) hHeld ?_
                rotate_left
                · (intro wa hSw; go_simp; try with_reducible rfl)
                simp only [Act.put, List.getElem_toArray, List.getElem_cons_zero, List.getElem_cons_succ, List.setIfInBounds_toArray, List.set_cons_zero, List.set_cons_succ]
                refine wpAnyH_take (i := 21) (v := ?_) rfl (by kernel_rfl) (by kernel_rfl) (by kernel_rfl) (fun _ _ _ h => h) (Or.inl ⟨by rfl, ?_⟩) hHeld ?_
                rotate_left
                · (intro wa hSw; go_simp; try with_reducible rfl)
                simp only [Act.put, List.getElem_toArray, List.getElem_cons_zero, List.getElem_cons_succ, List.setIfInBounds_toArray, List.set_cons_zero, List.set_cons_succ]
                refine wpAnyH_take (i := 22) (v := ?_) rfl (by kernel_rfl) (by kernel_rfl) (by kernel_rfl) (fun _ _ _ h => h) (Or.inl ⟨by rfl, ?_⟩) hHeld ?_
                rotate_left
                · (intro wa hSw; have K := OS.out _ hSw; obtain ⟨cb0, cb1, cb2, cb3⟩ := K.1.cells; go_simp; try with_reducible rfl)
                simp only [Act.put, List.getElem_toArray, List.getElem_cons_zero, List.getElem_cons_succ, List.setIfInBounds_toArray, List.set_cons_zero, List.set_cons_succ]
                refine wpAnyH_ready (rs := [23]) (by kernel_rfl) (by simp) ?_
                refine AllReadyH.cons (o := _) rfl (fun K hK => ?_) AllReadyH.nil
                go_simp
                have KK := OS.out _ hHeld
                refine (CP.out _ KK.2.2.2.1 KK.1.2.2.2).mono ?_
                rintro e w101 ⟨rfl, b101⟩
                clear KK
                (try go_wp2_with fail)
                refine hK.out _ _ ?_ (fun hHeld101 => ?_)
                · exact KS.out _ _ hHeld b101
                clear hK K
                refine wpAnyH_take (i := 24) (v := ?_) rfl (by kernel_rfl) (by kernel_rfl) (by kernel_rfl) (fun _ _ _ h => h) (Or.inl ⟨by rfl, ?_⟩) hHeld101 ?_
                rotate_left
                · (intro wa hSw; go_simp; try with_reducible rfl)
                simp only [Act.put, List.getElem_toArray, List.getElem_cons_zero, List.getElem_cons_succ, List.setIfInBounds_toArray, List.set_cons_zero, List.set_cons_succ]
                refine wpAnyH_done (by kernel_rfl) ?_ _
                have KE := Lib.hid (OS.out _ hHeld101)
                clear KS OS IS hHeld hHeld101
                have HE := Lib.hid KE.out
                clear KE HS HIO HO HRR HB
                go_wp2_with (at_builtin; refine wpList_pushL rfl (.tmp 57) (.tmp 59) 24 rfl w1.heap.size 3 Tryd.underlying24 hi hz0 hz1 hz2 rfl (by decide) [.int .i64 x] rfl (by intro u hu; simp at hu; subst hu; rfl) rfl (by show Value.slice (some ⟨_, 0, none⟩) 1 1 = _; simp) HE.out.2.2.1 (by unfold maxLen; omega) (by omega) HE.out.2.2.2.2.size ?_; intro gg5 cc5 w5 o5 g5 at5 lt5; have O5 := Lib.hid o5; have HB5 := Lib.hid (HE.out.2.2.2.2.grown g5 HE.out.2.2.2.2.size (fun q hq => (HE.out.2.2.1.lt q hq).1)); clear o5 g5 at5 lt5)
                go_roundw
                case rel => exact ⟨j + 1, some x, out ++ [x], by omega, by go_num, rfl, by rw [List.length_append, List.length_singleton, HOLN.out]; rfl, HOO, HFN, by rw [List.length_append, List.map_append]; exact O5, HB5⟩
                case measure => simp [RowKit.intOf]; omega
              | false =>
                have HFN := Lib.hid (HNS.out HOKD.out)
                clear HYS HNS HOKD HOX HO0
                generalize hxe : getI L j = x at *
                clear hxe
                obtain ⟨S, HSd⟩ : ∃ S : World → Prop, S = fun w' => (SeaAt w' w.heap.size (some ⟨rb, ro, none⟩) nr rc (some ⟨bo, oo, none⟩) nd dc rest ca nc cc D L C ∧ IntRow w' (.slice oa out.length oc) out.length (getI out) ∧ w'.ownsRow w1.heap.size 3 1 (.slice oa out.length oc) out.length (out.map (Value.int .i64)) ∧ RdA tPairS w' [.slice xa xn xc] rr ∧ Below w1.heap.size w1 w') := ⟨_, rfl⟩
                have KS : Hid (∀ wa wb, S wa → Below wa.heap.size wa wb → S wb) := by subst HSd; exact fun wa wb h b => ⟨h.1.below b, h.2.1.below b (Nat.le_refl _), owns_below h.2.2.1 b (Nat.le_refl _), h.2.2.2.1.below b, h.2.2.2.2.trans (b.mono h.2.2.2.2.size)⟩
                have OS : Hid (∀ wa, S wa → (SeaAt wa w.heap.size (some ⟨rb, ro, none⟩) nr rc (some ⟨bo, oo, none⟩) nd dc rest ca nc cc D L C ∧ IntRow wa (.slice oa out.length oc) out.length (getI out) ∧ wa.ownsRow w1.heap.size 3 1 (.slice oa out.length oc) out.length (out.map (Value.int .i64)) ∧ RdA tPairS wa [.slice xa xn xc] rr ∧ Below w1.heap.size w1 wa)) := by subst HSd; exact fun wa h => h
                have IS : Hid (∀ wa, (SeaAt wa w.heap.size (some ⟨rb, ro, none⟩) nr rc (some ⟨bo, oo, none⟩) nd dc rest ca nc cc D L C ∧ IntRow wa (.slice oa out.length oc) out.length (getI out) ∧ wa.ownsRow w1.heap.size 3 1 (.slice oa out.length oc) out.length (out.map (Value.int .i64)) ∧ RdA tPairS wa [.slice xa xn xc] rr ∧ Below w1.heap.size w1 wa) → S wa) := by subst HSd; exact fun wa h => h
                clear HSd
                go_wp2_with fail
                refine wp_region_held_drew (S := S) (by kernel_rfl) ?_ (fun hHeld => ?_)
                · exact IS.out _ ((fun (b : Below wr.heap.size wr wr.drew) => ⟨HS.out.below b, HIO.out.below b (Nat.le_refl _), owns_below HO.out b (Nat.le_refl _), HRR.out.below b, HB.out.trans (b.mono HB.out.size)⟩) (Below.refl _ _).drew)
                refine wpAnyH_take (i := 0) (v := ?_) rfl (by kernel_rfl) (by kernel_rfl) (by kernel_rfl) (fun _ _ _ h => h) (Or.inl ⟨by rfl, ?_⟩) hHeld ?_
                rotate_left
                · (intro wa hSw; go_simp; try with_reducible rfl)
                simp only [Act.put, List.getElem_toArray, List.getElem_cons_zero, List.setIfInBounds_toArray, List.set_cons_zero, List.set_cons_succ]
                refine wpAnyH_take (i := 1) (v := ?_) rfl (by kernel_rfl) (by kernel_rfl) (by kernel_rfl) (fun _ _ _ h => h) (Or.inl ⟨by rfl, ?_⟩) hHeld ?_
                rotate_left
                · (intro wa hSw; go_simp; try with_reducible rfl)
                simp only [Act.put, List.getElem_toArray, List.getElem_cons_zero, List.getElem_cons_succ, List.setIfInBounds_toArray, List.set_cons_zero, List.set_cons_succ]
                refine wpAnyH_take (i := 2) (v := ?_) rfl (by kernel_rfl) (by kernel_rfl) (by kernel_rfl) (fun _ _ _ h => h) (Or.inl ⟨by rfl, ?_⟩) hHeld ?_
                rotate_left
                · (intro wa hSw; go_simp; try with_reducible rfl)
                simp only [Act.put, List.getElem_toArray, List.getElem_cons_zero, List.getElem_cons_succ, List.setIfInBounds_toArray, List.set_cons_zero, List.set_cons_succ]
                refine wpAnyH_take (i := 3) (v := ?_) rfl (by kernel_rfl) (by kernel_rfl) (by kernel_rfl) (fun _ _ _ h => h) (Or.inl ⟨by rfl, ?_⟩) hHeld ?_
                rotate_left
                · (intro wa hSw; go_simp; try with_reducible rfl)
                simp only [Act.put, List.getElem_toArray, List.getElem_cons_zero, List.getElem_cons_succ, List.setIfInBounds_toArray, List.set_cons_zero, List.set_cons_succ]
                refine wpAnyH_take (i := 4) (v := ?_) rfl (by kernel_rfl) (by kernel_rfl) (by kernel_rfl) (fun _ _ _ h => h) (Or.inl ⟨by rfl, ?_⟩) hHeld ?_
                rotate_left
                · (intro wa hSw; go_simp; try with_reducible rfl)
                simp only [Act.put, List.getElem_toArray, List.getElem_cons_zero, List.getElem_cons_succ, List.setIfInBounds_toArray, List.set_cons_zero, List.set_cons_succ]
                refine wpAnyH_take (i := 5) (v := ?_) rfl (by kernel_rfl) (by kernel_rfl) (by kernel_rfl) (fun _ _ _ h => h) (Or.inl ⟨by rfl, ?_⟩) hHeld ?_
                rotate_left
                · (intro wa hSw; go_simp; try with_reducible rfl)
                simp only [Act.put, List.getElem_toArray, List.getElem_cons_zero, List.getElem_cons_succ, List.setIfInBounds_toArray, List.set_cons_zero, List.set_cons_succ]
                refine wpAnyH_take (i := 6) (v := undef) rfl (by kernel_rfl) (by kernel_rfl) (by kernel_rfl) (fun _ _ _ h => h) (Or.inr ⟨by rfl, rfl⟩) hHeld ?_
                simp only [Act.put, List.getElem_toArray, List.getElem_cons_zero, List.getElem_cons_succ, List.setIfInBounds_toArray, List.set_cons_zero, List.set_cons_succ]
                refine wpAnyH_take (i := 7) (v := undef) rfl (by kernel_rfl) (by kernel_rfl) (by kernel_rfl) (fun _ _ _ h => h) (Or.inr ⟨by rfl, rfl⟩) hHeld ?_
                simp only [Act.put, List.getElem_toArray, List.getElem_cons_zero, List.getElem_cons_succ, List.setIfInBounds_toArray, List.set_cons_zero, List.set_cons_succ]
                refine wpAnyH_take (i := 8) (v := undef) rfl (by kernel_rfl) (by kernel_rfl) (by kernel_rfl) (fun _ _ _ h => h) (Or.inr ⟨by rfl, rfl⟩) hHeld ?_
                simp only [Act.put, List.getElem_toArray, List.getElem_cons_zero, List.getElem_cons_succ, List.setIfInBounds_toArray, List.set_cons_zero, List.set_cons_succ]
                refine wpAnyH_take (i := 9) (v := undef) rfl (by kernel_rfl) (by kernel_rfl) (by kernel_rfl) (fun _ _ _ h => h) (Or.inr ⟨by rfl, rfl⟩) hHeld ?_
                simp only [Act.put, List.getElem_toArray, List.getElem_cons_zero, List.getElem_cons_succ, List.setIfInBounds_toArray, List.set_cons_zero, List.set_cons_succ]
                refine wpAnyH_take (i := 10) (v := undef) rfl (by kernel_rfl) (by kernel_rfl) (by kernel_rfl) (fun _ _ _ h => h) (Or.inr ⟨by rfl, rfl⟩) hHeld ?_
                simp only [Act.put, List.getElem_toArray, List.getElem_cons_zero, List.getElem_cons_succ, List.setIfInBounds_toArray, List.set_cons_zero, List.set_cons_succ]
                refine wpAnyH_take (i := 11) (v := undef) rfl (by kernel_rfl) (by kernel_rfl) (by kernel_rfl) (fun _ _ _ h => h) (Or.inr ⟨by rfl, rfl⟩) hHeld ?_
                simp only [Act.put, List.getElem_toArray, List.getElem_cons_zero, List.getElem_cons_succ, List.setIfInBounds_toArray, List.set_cons_zero, List.set_cons_succ]
                refine wpAnyH_take (i := 12) (v := undef) rfl (by kernel_rfl) (by kernel_rfl) (by kernel_rfl) (fun _ _ _ h => h) (Or.inr ⟨by rfl, rfl⟩) hHeld ?_
                simp only [Act.put, List.getElem_toArray, List.getElem_cons_zero, List.getElem_cons_succ, List.setIfInBounds_toArray, List.set_cons_zero, List.set_cons_succ]
                refine wpAnyH_take (i := 13) (v := undef) rfl (by kernel_rfl) (by kernel_rfl) (by kernel_rfl) (fun _ _ _ h => h) (Or.inr ⟨by rfl, rfl⟩) hHeld ?_
                simp only [Act.put, List.getElem_toArray, List.getElem_cons_zero, List.getElem_cons_succ, List.setIfInBounds_toArray, List.set_cons_zero, List.set_cons_succ]
                refine wpAnyH_take (i := 14) (v := undef) rfl (by kernel_rfl) (by kernel_rfl) (by kernel_rfl) (fun _ _ _ h => h) (Or.inr ⟨by rfl, rfl⟩) hHeld ?_
                simp only [Act.put, List.getElem_toArray, List.getElem_cons_zero, List.getElem_cons_succ, List.setIfInBounds_toArray, List.set_cons_zero, List.set_cons_succ]
                refine wpAnyH_take (i := 15) (v := undef) rfl (by kernel_rfl) (by kernel_rfl) (by kernel_rfl) (fun _ _ _ h => h) (Or.inr ⟨by rfl, rfl⟩) hHeld ?_
                simp only [Act.put, List.getElem_toArray, List.getElem_cons_zero, List.getElem_cons_succ, List.setIfInBounds_toArray, List.set_cons_zero, List.set_cons_succ]
                refine wpAnyH_take (i := 16) (v := ?_) rfl (by kernel_rfl) (by kernel_rfl) (by kernel_rfl) (fun _ _ _ h => h) (Or.inl ⟨by rfl, ?_⟩) hHeld ?_
                rotate_left
                · (intro wa hSw; go_simp; try with_reducible rfl)
                simp only [Act.put, List.getElem_toArray, List.getElem_cons_zero, List.getElem_cons_succ, List.setIfInBounds_toArray, List.set_cons_zero, List.set_cons_succ]
                refine wpAnyH_take (i := 17) (v := ?_) rfl (by kernel_rfl) (by kernel_rfl) (by kernel_rfl) (fun _ _ _ h => h) (Or.inl ⟨by rfl, ?_⟩) hHeld ?_
                rotate_left
                · (intro wa hSw; go_simp; try with_reducible rfl)
                simp only [Act.put, List.getElem_toArray, List.getElem_cons_zero, List.getElem_cons_succ, List.setIfInBounds_toArray, List.set_cons_zero, List.set_cons_succ]
                refine wpAnyH_take (i := 18) (v := ?_) rfl (by kernel_rfl) (by kernel_rfl) (by kernel_rfl) (fun _ _ _ h => h) (Or.inl ⟨by rfl, ?_⟩) hHeld ?_
                rotate_left
                · (intro wa hSw; go_simp; try with_reducible rfl)
                simp only [Act.put, List.getElem_toArray, List.getElem_cons_zero, List.getElem_cons_succ, List.setIfInBounds_toArray, List.set_cons_zero, List.set_cons_succ]
                refine wpAnyH_take (i := 19) (v := ?_) rfl (by kernel_rfl) (by kernel_rfl) (by kernel_rfl) (fun _ _ _ h => h) (Or.inl ⟨by rfl, ?_⟩) hHeld ?_
                rotate_left
                · (intro wa hSw; go_simp; try with_reducible rfl)
                simp only [Act.put, List.getElem_toArray, List.getElem_cons_zero, List.getElem_cons_succ, List.setIfInBounds_toArray, List.set_cons_zero, List.set_cons_succ]
                refine wpAnyH_take (i := 20) (v := ?_) rfl (by kernel_rfl) (by kernel_rfl) (by kernel_rfl) (fun _ _ _ h => h) (Or.inl ⟨by rfl, ?_⟩) hHeld ?_
                rotate_left
                · (intro wa hSw; go_simp; try with_reducible rfl)
                simp only [Act.put, List.getElem_toArray, List.getElem_cons_zero, List.getElem_cons_succ, List.setIfInBounds_toArray, List.set_cons_zero, List.set_cons_succ]
                refine wpAnyH_take (i := 21) (v := ?_) rfl (by kernel_rfl) (by kernel_rfl) (by kernel_rfl) (fun _ _ _ h => h) (Or.inl ⟨by rfl, ?_⟩) hHeld ?_
                rotate_left
                · (intro wa hSw; go_simp; try with_reducible rfl)
                simp only [Act.put, List.getElem_toArray, List.getElem_cons_zero, List.getElem_cons_succ, List.setIfInBounds_toArray, List.set_cons_zero, List.set_cons_succ]
                refine wpAnyH_take (i := 22) (v := ?_) rfl (by kernel_rfl) (by kernel_rfl) (by kernel_rfl) (fun _ _ _ h => h) (Or.inl ⟨by rfl, ?_⟩) hHeld ?_
                rotate_left
                · (intro wa hSw; have K := OS.out _ hSw; obtain ⟨cb0, cb1, cb2, cb3⟩ := K.1.cells; go_simp; try with_reducible rfl)
                simp only [Act.put, List.getElem_toArray, List.getElem_cons_zero, List.getElem_cons_succ, List.setIfInBounds_toArray, List.set_cons_zero, List.set_cons_succ]
                refine wpAnyH_ready (rs := [23]) (by kernel_rfl) (by simp) ?_
                refine AllReadyH.cons (o := _) rfl (fun K hK => ?_) AllReadyH.nil
                go_simp
                have KK := OS.out _ hHeld
                refine (CP.out _ KK.2.2.2.1 KK.1.2.2.2).mono ?_
                rintro e w101 ⟨rfl, b101⟩
                clear KK
                (try go_wp2_with fail)
                refine hK.out _ _ ?_ (fun hHeld101 => ?_)
                · exact KS.out _ _ hHeld b101
                clear hK K
                refine wpAnyH_take (i := 24) (v := ?_) rfl (by kernel_rfl) (by kernel_rfl) (by kernel_rfl) (fun _ _ _ h => h) (Or.inl ⟨by rfl, ?_⟩) hHeld101 ?_
                rotate_left
                · (intro wa hSw; go_simp; try with_reducible rfl)
                simp only [Act.put, List.getElem_toArray, List.getElem_cons_zero, List.getElem_cons_succ, List.setIfInBounds_toArray, List.set_cons_zero, List.set_cons_succ]
                refine wpAnyH_done (by kernel_rfl) ?_ _
                have KE := Lib.hid (OS.out _ hHeld101)
                clear KS OS IS hHeld hHeld101
                have HE := Lib.hid KE.out
                clear KE HS HIO HO HRR HB
                go_wp2
                go_roundw
                case rel => exact ⟨j + 1, none, out, by omega, by go_num, rfl, HOLN.out, HOO, HFN, HE.out.2.2.1, HE.out.2.2.2.2⟩
                case measure => simp [RowKit.intOf]; omega
            · have g0 : ((k : Int) == 0) = false := beq_eq_false_iff_ne.2 (by omega)
              have g0' : ¬ (k : Int) = 0 := by omega
              have e1 : decide (k = 0) = false := decide_eq_false (by omega)
              rw [e1, Bool.false_or] at HOKD
              have hpr := HOX.out (k - 1) (by omega)
              have hj : k - 1 < out.length := by omega
              obtain ⟨ob, oof, hoe, hoc, _⟩ := int_at HIO.out hj
              subst hoe
              have tk : ((k : Int) - 1).toNat = k - 1 := by omega
              have hk1 : (0 : Int) ≤ (k : Int) - 1 := by omega
              have hk3 : (1 : Int) ≤ (k : Int) := by omega
              have hk4 : (k : Int) - 1 < (out.length : Int) := by omega
              have s1 : IntKind.i64.wrap (getI out (k - 1) + rest) = getI out (k - 1) + rest := IntWalk.i64_in _ (by omega)
              have s2 : IntKind.i64.wrap ((k : Int) - 1) = (k : Int) - 1 := IntWalk.i64_in _ (by omega)
              by_cases hd : getI out (k - 1) + rest ≤ getI L j
              case neg =>
                have g2 : decide (getI out (k - 1) + rest ≤ getI L j) = false := decide_eq_false hd
                rw [g2, Bool.false_and] at HOKD
                have HFN := Lib.hid (HNS.out HOKD.out)
                clear HYS HNS HOKD HOX HO0 hd e1
                generalize hxe : getI L j = x at *
                clear hxe
                obtain ⟨S, HSd⟩ : ∃ S : World → Prop, S = fun w' => (SeaAt w' w.heap.size (some ⟨rb, ro, none⟩) nr rc (some ⟨bo, oo, none⟩) nd dc rest ca nc cc D L C ∧ IntRow w' (.slice (some ⟨ob, oof, none⟩) out.length oc) out.length (getI out) ∧ w'.ownsRow w1.heap.size 3 1 (.slice (some ⟨ob, oof, none⟩) out.length oc) out.length (out.map (Value.int .i64)) ∧ RdA tPairS w' [.slice xa xn xc] rr ∧ Below w1.heap.size w1 w') := ⟨_, rfl⟩
                have KS : Hid (∀ wa wb, S wa → Below wa.heap.size wa wb → S wb) := by subst HSd; exact fun wa wb h b => ⟨h.1.below b, h.2.1.below b (Nat.le_refl _), owns_below h.2.2.1 b (Nat.le_refl _), h.2.2.2.1.below b, h.2.2.2.2.trans (b.mono h.2.2.2.2.size)⟩
                have OS : Hid (∀ wa, S wa → (SeaAt wa w.heap.size (some ⟨rb, ro, none⟩) nr rc (some ⟨bo, oo, none⟩) nd dc rest ca nc cc D L C ∧ IntRow wa (.slice (some ⟨ob, oof, none⟩) out.length oc) out.length (getI out) ∧ wa.ownsRow w1.heap.size 3 1 (.slice (some ⟨ob, oof, none⟩) out.length oc) out.length (out.map (Value.int .i64)) ∧ RdA tPairS wa [.slice xa xn xc] rr ∧ Below w1.heap.size w1 wa)) := by subst HSd; exact fun wa h => h
                have IS : Hid (∀ wa, (SeaAt wa w.heap.size (some ⟨rb, ro, none⟩) nr rc (some ⟨bo, oo, none⟩) nd dc rest ca nc cc D L C ∧ IntRow wa (.slice (some ⟨ob, oof, none⟩) out.length oc) out.length (getI out) ∧ wa.ownsRow w1.heap.size 3 1 (.slice (some ⟨ob, oof, none⟩) out.length oc) out.length (out.map (Value.int .i64)) ∧ RdA tPairS wa [.slice xa xn xc] rr ∧ Below w1.heap.size w1 wa) → S wa) := by subst HSd; exact fun wa h => h
                clear HSd
                go_wp2_with fail
                refine wp_region_held_drew (S := S) (by kernel_rfl) ?_ (fun hHeld => ?_)
                · exact IS.out _ ((fun (b : Below wr.heap.size wr wr.drew) => ⟨HS.out.below b, HIO.out.below b (Nat.le_refl _), owns_below HO.out b (Nat.le_refl _), HRR.out.below b, HB.out.trans (b.mono HB.out.size)⟩) (Below.refl _ _).drew)
                refine wpAnyH_take (i := 0) (v := ?_) rfl (by kernel_rfl) (by kernel_rfl) (by kernel_rfl) (fun _ _ _ h => h) (Or.inl ⟨by rfl, ?_⟩) hHeld ?_
                rotate_left
                · (intro wa hSw; go_simp; try with_reducible rfl)
                simp only [Act.put, List.getElem_toArray, List.getElem_cons_zero, List.setIfInBounds_toArray, List.set_cons_zero, List.set_cons_succ]
                refine wpAnyH_take (i := 1) (v := ?_) rfl (by kernel_rfl) (by kernel_rfl) (by kernel_rfl) (fun _ _ _ h => h) (Or.inl ⟨by rfl, ?_⟩) hHeld ?_
                rotate_left
                · (intro wa hSw; go_simp; try with_reducible rfl)
                simp only [Act.put, List.getElem_toArray, List.getElem_cons_zero, List.getElem_cons_succ, List.setIfInBounds_toArray, List.set_cons_zero, List.set_cons_succ]
                refine wpAnyH_take (i := 2) (v := ?_) rfl (by kernel_rfl) (by kernel_rfl) (by kernel_rfl) (fun _ _ _ h => h) (Or.inl ⟨by rfl, ?_⟩) hHeld ?_
                rotate_left
                · (intro wa hSw; go_simp; try with_reducible rfl)
                simp only [Act.put, List.getElem_toArray, List.getElem_cons_zero, List.getElem_cons_succ, List.setIfInBounds_toArray, List.set_cons_zero, List.set_cons_succ]
                refine wpAnyH_take (i := 3) (v := ?_) rfl (by kernel_rfl) (by kernel_rfl) (by kernel_rfl) (fun _ _ _ h => h) (Or.inl ⟨by rfl, ?_⟩) hHeld ?_
                rotate_left
                · (intro wa hSw; go_simp; try with_reducible rfl)
                simp only [Act.put, List.getElem_toArray, List.getElem_cons_zero, List.getElem_cons_succ, List.setIfInBounds_toArray, List.set_cons_zero, List.set_cons_succ]
                refine wpAnyH_take (i := 4) (v := ?_) rfl (by kernel_rfl) (by kernel_rfl) (by kernel_rfl) (fun _ _ _ h => h) (Or.inl ⟨by rfl, ?_⟩) hHeld ?_
                rotate_left
                · (intro wa hSw; go_simp; try with_reducible rfl)
                simp only [Act.put, List.getElem_toArray, List.getElem_cons_zero, List.getElem_cons_succ, List.setIfInBounds_toArray, List.set_cons_zero, List.set_cons_succ]
                refine wpAnyH_take (i := 5) (v := ?_) rfl (by kernel_rfl) (by kernel_rfl) (by kernel_rfl) (fun _ _ _ h => h) (Or.inl ⟨by rfl, ?_⟩) hHeld ?_
                rotate_left
                · (intro wa hSw; go_simp; try with_reducible rfl)
                simp only [Act.put, List.getElem_toArray, List.getElem_cons_zero, List.getElem_cons_succ, List.setIfInBounds_toArray, List.set_cons_zero, List.set_cons_succ]
                refine wpAnyH_take (i := 6) (v := ?_) rfl (by kernel_rfl) (by kernel_rfl) (by kernel_rfl) (fun _ _ _ h => h) (Or.inl ⟨by rfl, ?_⟩) hHeld ?_
                rotate_left
                · (intro wa hSw; go_simp; try with_reducible rfl)
                simp only [Act.put, List.getElem_toArray, List.getElem_cons_zero, List.getElem_cons_succ, List.setIfInBounds_toArray, List.set_cons_zero, List.set_cons_succ]
                refine wpAnyH_take (i := 7) (v := ?_) rfl (by kernel_rfl) (by kernel_rfl) (by kernel_rfl) (fun _ _ _ h => h) (Or.inl ⟨by rfl, ?_⟩) hHeld ?_
                rotate_left
                · (intro wa hSw; go_simp; try with_reducible rfl)
                simp only [Act.put, List.getElem_toArray, List.getElem_cons_zero, List.getElem_cons_succ, List.setIfInBounds_toArray, List.set_cons_zero, List.set_cons_succ]
                refine wpAnyH_take (i := 8) (v := ?_) rfl (by kernel_rfl) (by kernel_rfl) (by kernel_rfl) (fun _ _ _ h => h) (Or.inl ⟨by rfl, ?_⟩) hHeld ?_
                rotate_left
                · (intro wa hSw; go_simp; try with_reducible rfl)
                simp only [Act.put, List.getElem_toArray, List.getElem_cons_zero, List.getElem_cons_succ, List.setIfInBounds_toArray, List.set_cons_zero, List.set_cons_succ]
                refine wpAnyH_take (i := 9) (v := ?_) rfl (by kernel_rfl) (by kernel_rfl) (by kernel_rfl) (fun _ _ _ h => h) (Or.inl ⟨by rfl, ?_⟩) hHeld ?_
                rotate_left
                · (intro wa hSw; go_simp; try with_reducible rfl)
                simp only [Act.put, List.getElem_toArray, List.getElem_cons_zero, List.getElem_cons_succ, List.setIfInBounds_toArray, List.set_cons_zero, List.set_cons_succ]
                refine wpAnyH_take (i := 10) (v := ?_) rfl (by kernel_rfl) (by kernel_rfl) (by kernel_rfl) (fun _ _ _ h => h) (Or.inl ⟨by rfl, ?_⟩) hHeld ?_
                rotate_left
                · (intro wa hSw; go_simp; try with_reducible rfl)
                simp only [Act.put, List.getElem_toArray, List.getElem_cons_zero, List.getElem_cons_succ, List.setIfInBounds_toArray, List.set_cons_zero, List.set_cons_succ]
                refine wpAnyH_take (i := 11) (v := ?_) rfl (by kernel_rfl) (by kernel_rfl) (by kernel_rfl) (fun _ _ _ h => h) (Or.inl ⟨by rfl, ?_⟩) hHeld ?_
                rotate_left
                · (intro wa hSw; have K := OS.out _ hSw; obtain ⟨cb0, cb1, cb2, cb3⟩ := K.1.cells; obtain ⟨_, _, hee, _, cq⟩ := int_at K.2.1 hj; simp only [Option.some.injEq, Addr.mk.injEq, and_true] at hee; obtain ⟨rfl, rfl⟩ := hee; go_simp; try with_reducible rfl)
                simp only [Act.put, List.getElem_toArray, List.getElem_cons_zero, List.getElem_cons_succ, List.setIfInBounds_toArray, List.set_cons_zero, List.set_cons_succ]
                refine wpAnyH_take (i := 12) (v := ?_) rfl (by kernel_rfl) (by kernel_rfl) (by kernel_rfl) (fun _ _ _ h => h) (Or.inl ⟨by rfl, ?_⟩) hHeld ?_
                rotate_left
                · (intro wa hSw; go_simp; try with_reducible rfl)
                simp only [Act.put, List.getElem_toArray, List.getElem_cons_zero, List.getElem_cons_succ, List.setIfInBounds_toArray, List.set_cons_zero, List.set_cons_succ]
                refine wpAnyH_take (i := 13) (v := ?_) rfl (by kernel_rfl) (by kernel_rfl) (by kernel_rfl) (fun _ _ _ h => h) (Or.inl ⟨by rfl, ?_⟩) hHeld ?_
                rotate_left
                · (intro wa hSw; have K := OS.out _ hSw; obtain ⟨cb0, cb1, cb2, cb3⟩ := K.1.cells; go_simp; try with_reducible rfl)
                simp only [Act.put, List.getElem_toArray, List.getElem_cons_zero, List.getElem_cons_succ, List.setIfInBounds_toArray, List.set_cons_zero, List.set_cons_succ]
                refine wpAnyH_take (i := 14) (v := ?_) rfl (by kernel_rfl) (by kernel_rfl) (by kernel_rfl) (fun _ _ _ h => h) (Or.inl ⟨by rfl, ?_⟩) hHeld ?_
                rotate_left
                · (intro wa hSw; go_simp; try with_reducible rfl)
                simp only [Act.put, List.getElem_toArray, List.getElem_cons_zero, List.getElem_cons_succ, List.setIfInBounds_toArray, List.set_cons_zero, List.set_cons_succ]
                refine wpAnyH_take (i := 15) (v := ?_) rfl (by kernel_rfl) (by kernel_rfl) (by kernel_rfl) (fun _ _ _ h => h) (Or.inl ⟨by rfl, ?_⟩) hHeld ?_
                rotate_left
                · (intro wa hSw; go_simp; try with_reducible rfl)
                simp only [Act.put, List.getElem_toArray, List.getElem_cons_zero, List.getElem_cons_succ, List.setIfInBounds_toArray, List.set_cons_zero, List.set_cons_succ]
                refine wpAnyH_take (i := 16) (v := ?_) rfl (by kernel_rfl) (by kernel_rfl) (by kernel_rfl) (fun _ _ _ h => h) (Or.inl ⟨by rfl, ?_⟩) hHeld ?_
                rotate_left
                · (intro wa hSw; go_simp; try with_reducible rfl)
                simp only [Act.put, List.getElem_toArray, List.getElem_cons_zero, List.getElem_cons_succ, List.setIfInBounds_toArray, List.set_cons_zero, List.set_cons_succ]
                refine wpAnyH_take (i := 17) (v := ?_) rfl (by kernel_rfl) (by kernel_rfl) (by kernel_rfl) (fun _ _ _ h => h) (Or.inl ⟨by rfl, ?_⟩) hHeld ?_
                rotate_left
                · (intro wa hSw; go_simp; try with_reducible rfl)
                simp only [Act.put, List.getElem_toArray, List.getElem_cons_zero, List.getElem_cons_succ, List.setIfInBounds_toArray, List.set_cons_zero, List.set_cons_succ]
                refine wpAnyH_take (i := 18) (v := ?_) rfl (by kernel_rfl) (by kernel_rfl) (by kernel_rfl) (fun _ _ _ h => h) (Or.inl ⟨by rfl, ?_⟩) hHeld ?_
                rotate_left
                · (intro wa hSw; go_simp; try with_reducible rfl)
                simp only [Act.put, List.getElem_toArray, List.getElem_cons_zero, List.getElem_cons_succ, List.setIfInBounds_toArray, List.set_cons_zero, List.set_cons_succ]
                refine wpAnyH_take (i := 19) (v := undef) rfl (by kernel_rfl) (by kernel_rfl) (by kernel_rfl) (fun _ _ _ h => h) (Or.inr ⟨by rfl, rfl⟩) hHeld ?_
                simp only [Act.put, List.getElem_toArray, List.getElem_cons_zero, List.getElem_cons_succ, List.setIfInBounds_toArray, List.set_cons_zero, List.set_cons_succ]
                refine wpAnyH_take (i := 20) (v := undef) rfl (by kernel_rfl) (by kernel_rfl) (by kernel_rfl) (fun _ _ _ h => h) (Or.inr ⟨by rfl, rfl⟩) hHeld ?_
                simp only [Act.put, List.getElem_toArray, List.getElem_cons_zero, List.getElem_cons_succ, List.setIfInBounds_toArray, List.set_cons_zero, List.set_cons_succ]
                refine wpAnyH_take (i := 21) (v := undef) rfl (by kernel_rfl) (by kernel_rfl) (by kernel_rfl) (fun _ _ _ h => h) (Or.inr ⟨by rfl, rfl⟩) hHeld ?_
                simp only [Act.put, List.getElem_toArray, List.getElem_cons_zero, List.getElem_cons_succ, List.setIfInBounds_toArray, List.set_cons_zero, List.set_cons_succ]
                refine wpAnyH_take (i := 22) (v := undef) rfl (by kernel_rfl) (by kernel_rfl) (by kernel_rfl) (fun _ _ _ h => h) (Or.inr ⟨by rfl, rfl⟩) hHeld ?_
                simp only [Act.put, List.getElem_toArray, List.getElem_cons_zero, List.getElem_cons_succ, List.setIfInBounds_toArray, List.set_cons_zero, List.set_cons_succ]
                refine wpAnyH_take (i := 23) (v := undef) rfl (by kernel_rfl) (by kernel_rfl) (by kernel_rfl) (fun _ _ _ h => h) (Or.inr ⟨by rfl, rfl⟩) hHeld ?_
                simp only [Act.put, List.getElem_toArray, List.getElem_cons_zero, List.getElem_cons_succ, List.setIfInBounds_toArray, List.set_cons_zero, List.set_cons_succ]
                refine wpAnyH_take (i := 24) (v := ?_) rfl (by kernel_rfl) (by kernel_rfl) (by kernel_rfl) (fun _ _ _ h => h) (Or.inl ⟨by rfl, ?_⟩) hHeld ?_
                rotate_left
                · (intro wa hSw; go_simp; try with_reducible rfl)
                simp only [Act.put, List.getElem_toArray, List.getElem_cons_zero, List.getElem_cons_succ, List.setIfInBounds_toArray, List.set_cons_zero, List.set_cons_succ]
                refine wpAnyH_done (by kernel_rfl) ?_ _
                have KE := Lib.hid (OS.out _ hHeld)
                clear KS OS IS hHeld
                have HE := Lib.hid KE.out
                clear KE HS HIO HO HRR HB
                go_wp2
                go_roundw
                case rel => exact ⟨j + 1, none, out, by omega, by go_num, rfl, HOLN.out, HOO, HFN, HE.out.2.2.1, HE.out.2.2.2.2⟩
                case measure => simp [RowKit.intOf]; omega
              have g2 : decide (getI out (k - 1) + rest ≤ getI L j) = true := decide_eq_true hd
              rw [g2, Bool.true_and] at HOKD
              clear hd e1
              cases pl with
              | true =>
                have HFN := Lib.hid (HYS.out HOKD.out)
                have HOOn : Hid (out ++ [getI L j] = out0 ++ (some (getI L j)).toList) := by show _ = _; rw [HO0.out]; rfl
                clear HYS HNS HOKD HOX HOO HO0
                have HOO := HOOn
                clear HOOn
                generalize hxe : getI L j = x at *
                clear hxe
                replace HOLN : Hid (out.length = k) := HOL0
                obtain ⟨S, HSd⟩ : ∃ S : World → Prop, S = fun w' => (SeaAt w' w.heap.size (some ⟨rb, ro, none⟩) nr rc (some ⟨bo, oo, none⟩) nd dc rest ca nc cc D L C ∧ IntRow w' (.slice (some ⟨ob, oof, none⟩) out.length oc) out.length (getI out) ∧ w'.ownsRow w1.heap.size 3 1 (.slice (some ⟨ob, oof, none⟩) out.length oc) out.length (out.map (Value.int .i64)) ∧ RdA tPairS w' [.slice xa xn xc] rr ∧ Below w1.heap.size w1 w') := ⟨_, rfl⟩
                have KS : Hid (∀ wa wb, S wa → Below wa.heap.size wa wb → S wb) := by subst HSd; exact fun wa wb h b => ⟨h.1.below b, h.2.1.below b (Nat.le_refl _), owns_below h.2.2.1 b (Nat.le_refl _), h.2.2.2.1.below b, h.2.2.2.2.trans (b.mono h.2.2.2.2.size)⟩
                have OS : Hid (∀ wa, S wa → (SeaAt wa w.heap.size (some ⟨rb, ro, none⟩) nr rc (some ⟨bo, oo, none⟩) nd dc rest ca nc cc D L C ∧ IntRow wa (.slice (some ⟨ob, oof, none⟩) out.length oc) out.length (getI out) ∧ wa.ownsRow w1.heap.size 3 1 (.slice (some ⟨ob, oof, none⟩) out.length oc) out.length (out.map (Value.int .i64)) ∧ RdA tPairS wa [.slice xa xn xc] rr ∧ Below w1.heap.size w1 wa)) := by subst HSd; exact fun wa h => h
                have IS : Hid (∀ wa, (SeaAt wa w.heap.size (some ⟨rb, ro, none⟩) nr rc (some ⟨bo, oo, none⟩) nd dc rest ca nc cc D L C ∧ IntRow wa (.slice (some ⟨ob, oof, none⟩) out.length oc) out.length (getI out) ∧ wa.ownsRow w1.heap.size 3 1 (.slice (some ⟨ob, oof, none⟩) out.length oc) out.length (out.map (Value.int .i64)) ∧ RdA tPairS wa [.slice xa xn xc] rr ∧ Below w1.heap.size w1 wa) → S wa) := by subst HSd; exact fun wa h => h
                clear HSd
                go_wp2_with fail
                refine wp_region_held_drew (S := S) (by kernel_rfl) ?_ (fun hHeld => ?_)
                · exact IS.out _ ((fun (b : Below wr.heap.size wr wr.drew) => ⟨HS.out.below b, HIO.out.below b (Nat.le_refl _), owns_below HO.out b (Nat.le_refl _), HRR.out.below b, HB.out.trans (b.mono HB.out.size)⟩) (Below.refl _ _).drew)
                refine wpAnyH_take (i := 0) (v := ?_) rfl (by kernel_rfl) (by kernel_rfl) (by kernel_rfl) (fun _ _ _ h => h) (Or.inl ⟨by rfl, ?_⟩) hHeld ?_
                rotate_left
                · (intro wa hSw; go_simp; try with_reducible rfl)
                simp only [Act.put, List.getElem_toArray, List.getElem_cons_zero, List.setIfInBounds_toArray, List.set_cons_zero, List.set_cons_succ]
                refine wpAnyH_take (i := 1) (v := ?_) rfl (by kernel_rfl) (by kernel_rfl) (by kernel_rfl) (fun _ _ _ h => h) (Or.inl ⟨by rfl, ?_⟩) hHeld ?_
                rotate_left
                · (intro wa hSw; go_simp; try with_reducible rfl)
                simp only [Act.put, List.getElem_toArray, List.getElem_cons_zero, List.getElem_cons_succ, List.setIfInBounds_toArray, List.set_cons_zero, List.set_cons_succ]
                refine wpAnyH_take (i := 2) (v := ?_) rfl (by kernel_rfl) (by kernel_rfl) (by kernel_rfl) (fun _ _ _ h => h) (Or.inl ⟨by rfl, ?_⟩) hHeld ?_
                rotate_left
                · (intro wa hSw; go_simp; try with_reducible rfl)
                simp only [Act.put, List.getElem_toArray, List.getElem_cons_zero, List.getElem_cons_succ, List.setIfInBounds_toArray, List.set_cons_zero, List.set_cons_succ]
                refine wpAnyH_take (i := 3) (v := ?_) rfl (by kernel_rfl) (by kernel_rfl) (by kernel_rfl) (fun _ _ _ h => h) (Or.inl ⟨by rfl, ?_⟩) hHeld ?_
                rotate_left
                · (intro wa hSw; go_simp; try with_reducible rfl)
                simp only [Act.put, List.getElem_toArray, List.getElem_cons_zero, List.getElem_cons_succ, List.setIfInBounds_toArray, List.set_cons_zero, List.set_cons_succ]
                refine wpAnyH_take (i := 4) (v := ?_) rfl (by kernel_rfl) (by kernel_rfl) (by kernel_rfl) (fun _ _ _ h => h) (Or.inl ⟨by rfl, ?_⟩) hHeld ?_
                rotate_left
                · (intro wa hSw; go_simp; try with_reducible rfl)
                simp only [Act.put, List.getElem_toArray, List.getElem_cons_zero, List.getElem_cons_succ, List.setIfInBounds_toArray, List.set_cons_zero, List.set_cons_succ]
                refine wpAnyH_take (i := 5) (v := ?_) rfl (by kernel_rfl) (by kernel_rfl) (by kernel_rfl) (fun _ _ _ h => h) (Or.inl ⟨by rfl, ?_⟩) hHeld ?_
                rotate_left
                · (intro wa hSw; go_simp; try with_reducible rfl)
                simp only [Act.put, List.getElem_toArray, List.getElem_cons_zero, List.getElem_cons_succ, List.setIfInBounds_toArray, List.set_cons_zero, List.set_cons_succ]
                refine wpAnyH_take (i := 6) (v := ?_) rfl (by kernel_rfl) (by kernel_rfl) (by kernel_rfl) (fun _ _ _ h => h) (Or.inl ⟨by rfl, ?_⟩) hHeld ?_
                rotate_left
                · (intro wa hSw; go_simp; try with_reducible rfl)
                simp only [Act.put, List.getElem_toArray, List.getElem_cons_zero, List.getElem_cons_succ, List.setIfInBounds_toArray, List.set_cons_zero, List.set_cons_succ]
                refine wpAnyH_take (i := 7) (v := ?_) rfl (by kernel_rfl) (by kernel_rfl) (by kernel_rfl) (fun _ _ _ h => h) (Or.inl ⟨by rfl, ?_⟩) hHeld ?_
                rotate_left
                · (intro wa hSw; go_simp; try with_reducible rfl)
                simp only [Act.put, List.getElem_toArray, List.getElem_cons_zero, List.getElem_cons_succ, List.setIfInBounds_toArray, List.set_cons_zero, List.set_cons_succ]
                refine wpAnyH_take (i := 8) (v := ?_) rfl (by kernel_rfl) (by kernel_rfl) (by kernel_rfl) (fun _ _ _ h => h) (Or.inl ⟨by rfl, ?_⟩) hHeld ?_
                rotate_left
                · (intro wa hSw; go_simp; try with_reducible rfl)
                simp only [Act.put, List.getElem_toArray, List.getElem_cons_zero, List.getElem_cons_succ, List.setIfInBounds_toArray, List.set_cons_zero, List.set_cons_succ]
                refine wpAnyH_take (i := 9) (v := ?_) rfl (by kernel_rfl) (by kernel_rfl) (by kernel_rfl) (fun _ _ _ h => h) (Or.inl ⟨by rfl, ?_⟩) hHeld ?_
                rotate_left
                · (intro wa hSw; go_simp; try with_reducible rfl)
                simp only [Act.put, List.getElem_toArray, List.getElem_cons_zero, List.getElem_cons_succ, List.setIfInBounds_toArray, List.set_cons_zero, List.set_cons_succ]
                refine wpAnyH_take (i := 10) (v := ?_) rfl (by kernel_rfl) (by kernel_rfl) (by kernel_rfl) (fun _ _ _ h => h) (Or.inl ⟨by rfl, ?_⟩) hHeld ?_
                rotate_left
                · (intro wa hSw; go_simp; try with_reducible rfl)
                simp only [Act.put, List.getElem_toArray, List.getElem_cons_zero, List.getElem_cons_succ, List.setIfInBounds_toArray, List.set_cons_zero, List.set_cons_succ]
                refine wpAnyH_take (i := 11) (v := ?_) rfl (by kernel_rfl) (by kernel_rfl) (by kernel_rfl) (fun _ _ _ h => h) (Or.inl ⟨by rfl, ?_⟩) hHeld ?_
                rotate_left
                · (intro wa hSw; have K := OS.out _ hSw; obtain ⟨cb0, cb1, cb2, cb3⟩ := K.1.cells; obtain ⟨_, _, hee, _, cq⟩ := int_at K.2.1 hj; simp only [Option.some.injEq, Addr.mk.injEq, and_true] at hee; obtain ⟨rfl, rfl⟩ := hee; go_simp; try with_reducible rfl)
                simp only [Act.put, List.getElem_toArray, List.getElem_cons_zero, List.getElem_cons_succ, List.setIfInBounds_toArray, List.set_cons_zero, List.set_cons_succ]
                refine wpAnyH_take (i := 12) (v := ?_) rfl (by kernel_rfl) (by kernel_rfl) (by kernel_rfl) (fun _ _ _ h => h) (Or.inl ⟨by rfl, ?_⟩) hHeld ?_
                rotate_left
                · (intro wa hSw; go_simp; try with_reducible rfl)
                simp only [Act.put, List.getElem_toArray, List.getElem_cons_zero, List.getElem_cons_succ, List.setIfInBounds_toArray, List.set_cons_zero, List.set_cons_succ]
                refine wpAnyH_take (i := 13) (v := ?_) rfl (by kernel_rfl) (by kernel_rfl) (by kernel_rfl) (fun _ _ _ h => h) (Or.inl ⟨by rfl, ?_⟩) hHeld ?_
                rotate_left
                · (intro wa hSw; have K := OS.out _ hSw; obtain ⟨cb0, cb1, cb2, cb3⟩ := K.1.cells; go_simp; try with_reducible rfl)
                simp only [Act.put, List.getElem_toArray, List.getElem_cons_zero, List.getElem_cons_succ, List.setIfInBounds_toArray, List.set_cons_zero, List.set_cons_succ]
                refine wpAnyH_take (i := 14) (v := ?_) rfl (by kernel_rfl) (by kernel_rfl) (by kernel_rfl) (fun _ _ _ h => h) (Or.inl ⟨by rfl, ?_⟩) hHeld ?_
                rotate_left
                · (intro wa hSw; go_simp; try with_reducible rfl)
                simp only [Act.put, List.getElem_toArray, List.getElem_cons_zero, List.getElem_cons_succ, List.setIfInBounds_toArray, List.set_cons_zero, List.set_cons_succ]
                refine wpAnyH_take (i := 15) (v := ?_) rfl (by kernel_rfl) (by kernel_rfl) (by kernel_rfl) (fun _ _ _ h => h) (Or.inl ⟨by rfl, ?_⟩) hHeld ?_
                rotate_left
                · (intro wa hSw; go_simp; try with_reducible rfl)
                simp only [Act.put, List.getElem_toArray, List.getElem_cons_zero, List.getElem_cons_succ, List.setIfInBounds_toArray, List.set_cons_zero, List.set_cons_succ]
                refine wpAnyH_take (i := 16) (v := ?_) rfl (by kernel_rfl) (by kernel_rfl) (by kernel_rfl) (fun _ _ _ h => h) (Or.inl ⟨by rfl, ?_⟩) hHeld ?_
                rotate_left
                · (intro wa hSw; go_simp; try with_reducible rfl)
                simp only [Act.put, List.getElem_toArray, List.getElem_cons_zero, List.getElem_cons_succ, List.setIfInBounds_toArray, List.set_cons_zero, List.set_cons_succ]
                refine wpAnyH_take (i := 17) (v := ?_) rfl (by kernel_rfl) (by kernel_rfl) (by kernel_rfl) (fun _ _ _ h => h) (Or.inl ⟨by rfl, ?_⟩) hHeld ?_
                rotate_left
                · (intro wa hSw; go_simp; try with_reducible rfl)
                simp only [Act.put, List.getElem_toArray, List.getElem_cons_zero, List.getElem_cons_succ, List.setIfInBounds_toArray, List.set_cons_zero, List.set_cons_succ]
                refine wpAnyH_take (i := 18) (v := ?_) rfl (by kernel_rfl) (by kernel_rfl) (by kernel_rfl) (fun _ _ _ h => h) (Or.inl ⟨by rfl, ?_⟩) hHeld ?_
                rotate_left
                · (intro wa hSw; go_simp; try with_reducible rfl)
                simp only [Act.put, List.getElem_toArray, List.getElem_cons_zero, List.getElem_cons_succ, List.setIfInBounds_toArray, List.set_cons_zero, List.set_cons_succ]
                refine wpAnyH_take (i := 19) (v := ?_) rfl (by kernel_rfl) (by kernel_rfl) (by kernel_rfl) (fun _ _ _ h => h) (Or.inl ⟨by rfl, ?_⟩) hHeld ?_
                rotate_left
                · (intro wa hSw; go_simp; try with_reducible rfl)
                simp only [Act.put, List.getElem_toArray, List.getElem_cons_zero, List.getElem_cons_succ, List.setIfInBounds_toArray, List.set_cons_zero, List.set_cons_succ]
                refine wpAnyH_take (i := 20) (v := ?_) rfl (by kernel_rfl) (by kernel_rfl) (by kernel_rfl) (fun _ _ _ h => h) (Or.inl ⟨by rfl, ?_⟩) hHeld ?_
                rotate_left
                · (intro wa hSw; go_simp; try with_reducible rfl)
                simp only [Act.put, List.getElem_toArray, List.getElem_cons_zero, List.getElem_cons_succ, List.setIfInBounds_toArray, List.set_cons_zero, List.set_cons_succ]
                refine wpAnyH_take (i := 21) (v := ?_) rfl (by kernel_rfl) (by kernel_rfl) (by kernel_rfl) (fun _ _ _ h => h) (Or.inl ⟨by rfl, ?_⟩) hHeld ?_
                rotate_left
                · (intro wa hSw; go_simp; try with_reducible rfl)
                simp only [Act.put, List.getElem_toArray, List.getElem_cons_zero, List.getElem_cons_succ, List.setIfInBounds_toArray, List.set_cons_zero, List.set_cons_succ]
                refine wpAnyH_take (i := 22) (v := ?_) rfl (by kernel_rfl) (by kernel_rfl) (by kernel_rfl) (fun _ _ _ h => h) (Or.inl ⟨by rfl, ?_⟩) hHeld ?_
                rotate_left
                · (intro wa hSw; have K := OS.out _ hSw; obtain ⟨cb0, cb1, cb2, cb3⟩ := K.1.cells; go_simp; try with_reducible rfl)
                simp only [Act.put, List.getElem_toArray, List.getElem_cons_zero, List.getElem_cons_succ, List.setIfInBounds_toArray, List.set_cons_zero, List.set_cons_succ]
                refine wpAnyH_ready (rs := [23]) (by kernel_rfl) (by simp) ?_
                refine AllReadyH.cons (o := _) rfl (fun K hK => ?_) AllReadyH.nil
                go_simp
                have KK := OS.out _ hHeld
                refine (CP.out _ KK.2.2.2.1 KK.1.2.2.2).mono ?_
                rintro e w101 ⟨rfl, b101⟩
                clear KK
                (try go_wp2_with fail)
                refine hK.out _ _ ?_ (fun hHeld101 => ?_)
                · exact KS.out _ _ hHeld b101
                clear hK K
                refine wpAnyH_take (i := 24) (v := ?_) rfl (by kernel_rfl) (by kernel_rfl) (by kernel_rfl) (fun _ _ _ h => h) (Or.inl ⟨by rfl, ?_⟩) hHeld101 ?_
                rotate_left
                · (intro wa hSw; go_simp; try with_reducible rfl)
                simp only [Act.put, List.getElem_toArray, List.getElem_cons_zero, List.getElem_cons_succ, List.setIfInBounds_toArray, List.set_cons_zero, List.set_cons_succ]
                refine wpAnyH_done (by kernel_rfl) ?_ _
                have KE := Lib.hid (OS.out _ hHeld101)
                clear KS OS IS hHeld hHeld101
                have HE := Lib.hid KE.out
                clear KE HS HIO HO HRR HB
                go_wp2_with (at_builtin; refine wpList_pushL rfl (.tmp 57) (.tmp 59) 24 rfl w1.heap.size 3 Tryd.underlying24 hi hz0 hz1 hz2 rfl (by decide) [.int .i64 x] rfl (by intro u hu; simp at hu; subst hu; rfl) rfl (by show Value.slice (some ⟨_, 0, none⟩) 1 1 = _; simp) HE.out.2.2.1 (by unfold maxLen; omega) (by omega) HE.out.2.2.2.2.size ?_; intro gg5 cc5 w5 o5 g5 at5 lt5; have O5 := Lib.hid o5; have HB5 := Lib.hid (HE.out.2.2.2.2.grown g5 HE.out.2.2.2.2.size (fun q hq => (HE.out.2.2.1.lt q hq).1)); clear o5 g5 at5 lt5)
                go_roundw
                case rel => exact ⟨j + 1, some x, out ++ [x], by omega, by go_num, rfl, by rw [List.length_append, List.length_singleton, HOLN.out]; rfl, HOO, HFN, by rw [List.length_append, List.map_append]; exact O5, HB5⟩
                case measure => simp [RowKit.intOf]; omega
              | false =>
                have HFN := Lib.hid (HNS.out HOKD.out)
                clear HYS HNS HOKD HOX HO0
                generalize hxe : getI L j = x at *
                clear hxe
                obtain ⟨S, HSd⟩ : ∃ S : World → Prop, S = fun w' => (SeaAt w' w.heap.size (some ⟨rb, ro, none⟩) nr rc (some ⟨bo, oo, none⟩) nd dc rest ca nc cc D L C ∧ IntRow w' (.slice (some ⟨ob, oof, none⟩) out.length oc) out.length (getI out) ∧ w'.ownsRow w1.heap.size 3 1 (.slice (some ⟨ob, oof, none⟩) out.length oc) out.length (out.map (Value.int .i64)) ∧ RdA tPairS w' [.slice xa xn xc] rr ∧ Below w1.heap.size w1 w') := ⟨_, rfl⟩
                have KS : Hid (∀ wa wb, S wa → Below wa.heap.size wa wb → S wb) := by subst HSd; exact fun wa wb h b => ⟨h.1.below b, h.2.1.below b (Nat.le_refl _), owns_below h.2.2.1 b (Nat.le_refl _), h.2.2.2.1.below b, h.2.2.2.2.trans (b.mono h.2.2.2.2.size)⟩
                have OS : Hid (∀ wa, S wa → (SeaAt wa w.heap.size (some ⟨rb, ro, none⟩) nr rc (some ⟨bo, oo, none⟩) nd dc rest ca nc cc D L C ∧ IntRow wa (.slice (some ⟨ob, oof, none⟩) out.length oc) out.length (getI out) ∧ wa.ownsRow w1.heap.size 3 1 (.slice (some ⟨ob, oof, none⟩) out.length oc) out.length (out.map (Value.int .i64)) ∧ RdA tPairS wa [.slice xa xn xc] rr ∧ Below w1.heap.size w1 wa)) := by subst HSd; exact fun wa h => h
                have IS : Hid (∀ wa, (SeaAt wa w.heap.size (some ⟨rb, ro, none⟩) nr rc (some ⟨bo, oo, none⟩) nd dc rest ca nc cc D L C ∧ IntRow wa (.slice (some ⟨ob, oof, none⟩) out.length oc) out.length (getI out) ∧ wa.ownsRow w1.heap.size 3 1 (.slice (some ⟨ob, oof, none⟩) out.length oc) out.length (out.map (Value.int .i64)) ∧ RdA tPairS wa [.slice xa xn xc] rr ∧ Below w1.heap.size w1 wa) → S wa) := by subst HSd; exact fun wa h => h
                clear HSd
                go_wp2_with fail
                refine wp_region_held_drew (S := S) (by kernel_rfl) ?_ (fun hHeld => ?_)
                · exact IS.out _ ((fun (b : Below wr.heap.size wr wr.drew) => ⟨HS.out.below b, HIO.out.below b (Nat.le_refl _), owns_below HO.out b (Nat.le_refl _), HRR.out.below b, HB.out.trans (b.mono HB.out.size)⟩) (Below.refl _ _).drew)
                refine wpAnyH_take (i := 0) (v := ?_) rfl (by kernel_rfl) (by kernel_rfl) (by kernel_rfl) (fun _ _ _ h => h) (Or.inl ⟨by rfl, ?_⟩) hHeld ?_
                rotate_left
                · (intro wa hSw; go_simp; try with_reducible rfl)
                simp only [Act.put, List.getElem_toArray, List.getElem_cons_zero, List.setIfInBounds_toArray, List.set_cons_zero, List.set_cons_succ]
                refine wpAnyH_take (i := 1) (v := ?_) rfl (by kernel_rfl) (by kernel_rfl) (by kernel_rfl) (fun _ _ _ h => h) (Or.inl ⟨by rfl, ?_⟩) hHeld ?_
                rotate_left
                · (intro wa hSw; go_simp; try with_reducible rfl)
                simp only [Act.put, List.getElem_toArray, List.getElem_cons_zero, List.getElem_cons_succ, List.setIfInBounds_toArray, List.set_cons_zero, List.set_cons_succ]
                refine wpAnyH_take (i := 2) (v := ?_) rfl (by kernel_rfl) (by kernel_rfl) (by kernel_rfl) (fun _ _ _ h => h) (Or.inl ⟨by rfl, ?_⟩) hHeld ?_
                rotate_left
                · (intro wa hSw; go_simp; try with_reducible rfl)
                simp only [Act.put, List.getElem_toArray, List.getElem_cons_zero, List.getElem_cons_succ, List.setIfInBounds_toArray, List.set_cons_zero, List.set_cons_succ]
                refine wpAnyH_take (i := 3) (v := ?_) rfl (by kernel_rfl) (by kernel_rfl) (by kernel_rfl) (fun _ _ _ h => h) (Or.inl ⟨by rfl, ?_⟩) hHeld ?_
                rotate_left
                · (intro wa hSw; go_simp; try with_reducible rfl)
                simp only [Act.put, List.getElem_toArray, List.getElem_cons_zero, List.getElem_cons_succ, List.setIfInBounds_toArray, List.set_cons_zero, List.set_cons_succ]
                refine wpAnyH_take (i := 4) (v := ?_) rfl (by kernel_rfl) (by kernel_rfl) (by kernel_rfl) (fun _ _ _ h => h) (Or.inl ⟨by rfl, ?_⟩) hHeld ?_
                rotate_left
                · (intro wa hSw; go_simp; try with_reducible rfl)
                simp only [Act.put, List.getElem_toArray, List.getElem_cons_zero, List.getElem_cons_succ, List.setIfInBounds_toArray, List.set_cons_zero, List.set_cons_succ]
                refine wpAnyH_take (i := 5) (v := ?_) rfl (by kernel_rfl) (by kernel_rfl) (by kernel_rfl) (fun _ _ _ h => h) (Or.inl ⟨by rfl, ?_⟩) hHeld ?_
                rotate_left
                · (intro wa hSw; go_simp; try with_reducible rfl)
                simp only [Act.put, List.getElem_toArray, List.getElem_cons_zero, List.getElem_cons_succ, List.setIfInBounds_toArray, List.set_cons_zero, List.set_cons_succ]
                refine wpAnyH_take (i := 6) (v := ?_) rfl (by kernel_rfl) (by kernel_rfl) (by kernel_rfl) (fun _ _ _ h => h) (Or.inl ⟨by rfl, ?_⟩) hHeld ?_
                rotate_left
                · (intro wa hSw; go_simp; try with_reducible rfl)
                simp only [Act.put, List.getElem_toArray, List.getElem_cons_zero, List.getElem_cons_succ, List.setIfInBounds_toArray, List.set_cons_zero, List.set_cons_succ]
                refine wpAnyH_take (i := 7) (v := ?_) rfl (by kernel_rfl) (by kernel_rfl) (by kernel_rfl) (fun _ _ _ h => h) (Or.inl ⟨by rfl, ?_⟩) hHeld ?_
                rotate_left
                · (intro wa hSw; go_simp; try with_reducible rfl)
                simp only [Act.put, List.getElem_toArray, List.getElem_cons_zero, List.getElem_cons_succ, List.setIfInBounds_toArray, List.set_cons_zero, List.set_cons_succ]
                refine wpAnyH_take (i := 8) (v := ?_) rfl (by kernel_rfl) (by kernel_rfl) (by kernel_rfl) (fun _ _ _ h => h) (Or.inl ⟨by rfl, ?_⟩) hHeld ?_
                rotate_left
                · (intro wa hSw; go_simp; try with_reducible rfl)
                simp only [Act.put, List.getElem_toArray, List.getElem_cons_zero, List.getElem_cons_succ, List.setIfInBounds_toArray, List.set_cons_zero, List.set_cons_succ]
                refine wpAnyH_take (i := 9) (v := ?_) rfl (by kernel_rfl) (by kernel_rfl) (by kernel_rfl) (fun _ _ _ h => h) (Or.inl ⟨by rfl, ?_⟩) hHeld ?_
                rotate_left
                · (intro wa hSw; go_simp; try with_reducible rfl)
                simp only [Act.put, List.getElem_toArray, List.getElem_cons_zero, List.getElem_cons_succ, List.setIfInBounds_toArray, List.set_cons_zero, List.set_cons_succ]
                refine wpAnyH_take (i := 10) (v := ?_) rfl (by kernel_rfl) (by kernel_rfl) (by kernel_rfl) (fun _ _ _ h => h) (Or.inl ⟨by rfl, ?_⟩) hHeld ?_
                rotate_left
                · (intro wa hSw; go_simp; try with_reducible rfl)
                simp only [Act.put, List.getElem_toArray, List.getElem_cons_zero, List.getElem_cons_succ, List.setIfInBounds_toArray, List.set_cons_zero, List.set_cons_succ]
                refine wpAnyH_take (i := 11) (v := ?_) rfl (by kernel_rfl) (by kernel_rfl) (by kernel_rfl) (fun _ _ _ h => h) (Or.inl ⟨by rfl, ?_⟩) hHeld ?_
                rotate_left
                · (intro wa hSw; have K := OS.out _ hSw; obtain ⟨cb0, cb1, cb2, cb3⟩ := K.1.cells; obtain ⟨_, _, hee, _, cq⟩ := int_at K.2.1 hj; simp only [Option.some.injEq, Addr.mk.injEq, and_true] at hee; obtain ⟨rfl, rfl⟩ := hee; go_simp; try with_reducible rfl)
                simp only [Act.put, List.getElem_toArray, List.getElem_cons_zero, List.getElem_cons_succ, List.setIfInBounds_toArray, List.set_cons_zero, List.set_cons_succ]
                refine wpAnyH_take (i := 12) (v := ?_) rfl (by kernel_rfl) (by kernel_rfl) (by kernel_rfl) (fun _ _ _ h => h) (Or.inl ⟨by rfl, ?_⟩) hHeld ?_
                rotate_left
                · (intro wa hSw; go_simp; try with_reducible rfl)
                simp only [Act.put, List.getElem_toArray, List.getElem_cons_zero, List.getElem_cons_succ, List.setIfInBounds_toArray, List.set_cons_zero, List.set_cons_succ]
                refine wpAnyH_take (i := 13) (v := ?_) rfl (by kernel_rfl) (by kernel_rfl) (by kernel_rfl) (fun _ _ _ h => h) (Or.inl ⟨by rfl, ?_⟩) hHeld ?_
                rotate_left
                · (intro wa hSw; have K := OS.out _ hSw; obtain ⟨cb0, cb1, cb2, cb3⟩ := K.1.cells; go_simp; try with_reducible rfl)
                simp only [Act.put, List.getElem_toArray, List.getElem_cons_zero, List.getElem_cons_succ, List.setIfInBounds_toArray, List.set_cons_zero, List.set_cons_succ]
                refine wpAnyH_take (i := 14) (v := ?_) rfl (by kernel_rfl) (by kernel_rfl) (by kernel_rfl) (fun _ _ _ h => h) (Or.inl ⟨by rfl, ?_⟩) hHeld ?_
                rotate_left
                · (intro wa hSw; go_simp; try with_reducible rfl)
                simp only [Act.put, List.getElem_toArray, List.getElem_cons_zero, List.getElem_cons_succ, List.setIfInBounds_toArray, List.set_cons_zero, List.set_cons_succ]
                refine wpAnyH_take (i := 15) (v := ?_) rfl (by kernel_rfl) (by kernel_rfl) (by kernel_rfl) (fun _ _ _ h => h) (Or.inl ⟨by rfl, ?_⟩) hHeld ?_
                rotate_left
                · (intro wa hSw; go_simp; try with_reducible rfl)
                simp only [Act.put, List.getElem_toArray, List.getElem_cons_zero, List.getElem_cons_succ, List.setIfInBounds_toArray, List.set_cons_zero, List.set_cons_succ]
                refine wpAnyH_take (i := 16) (v := ?_) rfl (by kernel_rfl) (by kernel_rfl) (by kernel_rfl) (fun _ _ _ h => h) (Or.inl ⟨by rfl, ?_⟩) hHeld ?_
                rotate_left
                · (intro wa hSw; go_simp; try with_reducible rfl)
                simp only [Act.put, List.getElem_toArray, List.getElem_cons_zero, List.getElem_cons_succ, List.setIfInBounds_toArray, List.set_cons_zero, List.set_cons_succ]
                refine wpAnyH_take (i := 17) (v := ?_) rfl (by kernel_rfl) (by kernel_rfl) (by kernel_rfl) (fun _ _ _ h => h) (Or.inl ⟨by rfl, ?_⟩) hHeld ?_
                rotate_left
                · (intro wa hSw; go_simp; try with_reducible rfl)
                simp only [Act.put, List.getElem_toArray, List.getElem_cons_zero, List.getElem_cons_succ, List.setIfInBounds_toArray, List.set_cons_zero, List.set_cons_succ]
                refine wpAnyH_take (i := 18) (v := ?_) rfl (by kernel_rfl) (by kernel_rfl) (by kernel_rfl) (fun _ _ _ h => h) (Or.inl ⟨by rfl, ?_⟩) hHeld ?_
                rotate_left
                · (intro wa hSw; go_simp; try with_reducible rfl)
                simp only [Act.put, List.getElem_toArray, List.getElem_cons_zero, List.getElem_cons_succ, List.setIfInBounds_toArray, List.set_cons_zero, List.set_cons_succ]
                refine wpAnyH_take (i := 19) (v := ?_) rfl (by kernel_rfl) (by kernel_rfl) (by kernel_rfl) (fun _ _ _ h => h) (Or.inl ⟨by rfl, ?_⟩) hHeld ?_
                rotate_left
                · (intro wa hSw; go_simp; try with_reducible rfl)
                simp only [Act.put, List.getElem_toArray, List.getElem_cons_zero, List.getElem_cons_succ, List.setIfInBounds_toArray, List.set_cons_zero, List.set_cons_succ]
                refine wpAnyH_take (i := 20) (v := ?_) rfl (by kernel_rfl) (by kernel_rfl) (by kernel_rfl) (fun _ _ _ h => h) (Or.inl ⟨by rfl, ?_⟩) hHeld ?_
                rotate_left
                · (intro wa hSw; go_simp; try with_reducible rfl)
                simp only [Act.put, List.getElem_toArray, List.getElem_cons_zero, List.getElem_cons_succ, List.setIfInBounds_toArray, List.set_cons_zero, List.set_cons_succ]
                refine wpAnyH_take (i := 21) (v := ?_) rfl (by kernel_rfl) (by kernel_rfl) (by kernel_rfl) (fun _ _ _ h => h) (Or.inl ⟨by rfl, ?_⟩) hHeld ?_
                rotate_left
                · (intro wa hSw; go_simp; try with_reducible rfl)
                simp only [Act.put, List.getElem_toArray, List.getElem_cons_zero, List.getElem_cons_succ, List.setIfInBounds_toArray, List.set_cons_zero, List.set_cons_succ]
                refine wpAnyH_take (i := 22) (v := ?_) rfl (by kernel_rfl) (by kernel_rfl) (by kernel_rfl) (fun _ _ _ h => h) (Or.inl ⟨by rfl, ?_⟩) hHeld ?_
                rotate_left
                · (intro wa hSw; have K := OS.out _ hSw; obtain ⟨cb0, cb1, cb2, cb3⟩ := K.1.cells; go_simp; try with_reducible rfl)
                simp only [Act.put, List.getElem_toArray, List.getElem_cons_zero, List.getElem_cons_succ, List.setIfInBounds_toArray, List.set_cons_zero, List.set_cons_succ]
                refine wpAnyH_ready (rs := [23]) (by kernel_rfl) (by simp) ?_
                refine AllReadyH.cons (o := _) rfl (fun K hK => ?_) AllReadyH.nil
                go_simp
                have KK := OS.out _ hHeld
                refine (CP.out _ KK.2.2.2.1 KK.1.2.2.2).mono ?_
                rintro e w101 ⟨rfl, b101⟩
                clear KK
                (try go_wp2_with fail)
                refine hK.out _ _ ?_ (fun hHeld101 => ?_)
                · exact KS.out _ _ hHeld b101
                clear hK K
                refine wpAnyH_take (i := 24) (v := ?_) rfl (by kernel_rfl) (by kernel_rfl) (by kernel_rfl) (fun _ _ _ h => h) (Or.inl ⟨by rfl, ?_⟩) hHeld101 ?_
                rotate_left
                · (intro wa hSw; go_simp; try with_reducible rfl)
                simp only [Act.put, List.getElem_toArray, List.getElem_cons_zero, List.getElem_cons_succ, List.setIfInBounds_toArray, List.set_cons_zero, List.set_cons_succ]
                refine wpAnyH_done (by kernel_rfl) ?_ _
                have KE := Lib.hid (OS.out _ hHeld101)
                clear KS OS IS hHeld hHeld101
                have HE := Lib.hid KE.out
                clear KE HS HIO HO HRR HB
                go_wp2
                go_roundw
                case rel => exact ⟨j + 1, none, out, by omega, by go_num, rfl, HOLN.out, HOO, HFN, HE.out.2.2.1, HE.out.2.2.2.2⟩
                case measure => simp [RowKit.intOf]; omega
        obtain rfl : j = nd := by omega
        have HFA : Hid (L.find? (okD rest C out0 rr) = o) := by show _ = _; rw [← HFD.out, List.take_of_length_le (by have := HND.out; omega)]
        obtain ⟨oa, oc, hof⟩ := owns_form HO.out
        subst hof
        cases o with
        | none =>
          have HFRN : Hid (FR = none) := by show _ = _; rw [← HV2.out, HFA.out]
          have HBW : Hid (Below w.heap.size w wr) := HB1.out.trans (HB3.out.mono HB1.out.size)
          have HN0 : Hid (wr.ownsRow w.heap.size 3 1 (.slice none 0 0) 0 []) := World.ownsRow_nil _ _ _ _
          go_wp2
          go_ret2
          rw [HFQ.out, HFRN.out]
          exact ⟨_, rfl, HN0.out, HBW.out⟩
        | some y =>
          have HVN : Hid (firstF rest C L (D.drop (k + 1)) out = FR) := by show _ = _; rw [← HV2.out, HFA.out, HOO.out]; rfl
          have HORN : Hid (∀ x ∈ out, 0 ≤ x ∧ x ≤ 60) := fun x hx => by
            rw [HOO.out] at hx
            rcases List.mem_append.1 hx with hx | hx
            · exact HOR.out x hx
            · have hxy : x = y := by simpa using hx
              subst hxy
              have hm := List.mem_of_find?_eq_some HFA.out
              obtain ⟨i, hi⟩ := List.mem_iff_getElem?.1 hm
              have hil := (List.getElem?_eq_some_iff.1 hi).1
              have h9 := (HDY.out i hil).1
              have e : getI L i = x := by unfold getI; rw [List.getD_eq_getElem?_getD, hi]; rfl
              rw [e] at h9
              exact h9
          have hol1 : out.length = k + 1 := by simpa using HOLN.out
          have HOLN1 := Lib.hid hol1
          clear hol1
          go_wp2
          go_roundw
          case rel => exact ⟨k + 1, out, by omega, by go_num, HOLN1.out, HORN, HVN, HO, HB3⟩
          case measure => simp [RowKit.intOf]; omega
    obtain rfl : k = nr := by omega
    obtain ⟨oa, oc, hof⟩ := owns_form HO.out
    subst hof
    have HFR : Hid (FR = some out0) := by show _ = _; rw [← HV.out, List.drop_of_length_le (by have := HNR.out; omega)]; rfl
    have HON : Hid (wr.ownsRow w.heap.size 3 1 (.slice oa out0.length oc) out0.length (out0.map (Value.int .i64))) := owns_mono HO.out HB1.out.size
    have HBW : Hid (Below w.heap.size w wr) := HB1.out.trans (HB.out.mono HB1.out.size)
    go_wp2
    go_ret2
    rw [HFQ.out, HFR.out]
    exact ⟨_, rfl, HON.out, HBW.out⟩
end Go.Proofs.YtcbpgbiannpfpaaDoor
