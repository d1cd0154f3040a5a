/-
  Packed: TripImplF, Trip5, TripPlain, TyIntS, TyMap, Circle.
-/
import Derived.Test.YtfkfolglfmmkoaaQ1
import Derived.Test.YtfkfolglfmmkoaaQ2
import Derived.Test.YtfkfolglfmmkoaaQ3
import Derived.Test.YtfkfolglfmmkoaaQ5
import Derived.Test.YtfkfolglfmmkoaaQ9
import Derived.Test.YtfkfolglfmmkoaaQ11
set_option linter.unusedVariables false
namespace Go.Proofs.Ytfkfolglfmmkoaa
open Go.RowKit

theorem own_nilP (w : World) : OwN tPairS w w.heap.size w.heap.size [.slice none 0 0] [] :=
  ⟨[], ⟨.slice none 0 0, [], fun _ => [], rfl, World.ownsRow_nil _ _ _ _, fun i x hx => (by cases hx), rfl⟩, List.nodup_nil, fun q hq => (by cases hq), Nat.le_refl _⟩
set_option maxRecDepth 100000 in
set_option maxHeartbeats 2000000 in
theorem cloneRound_impl (x : Option Addr) (c : Nat) (T : PairL) (w : World) (h : RdA tPairS w [.slice x (List.length (α := tPair.D) T) c] T) (hn6 : List.length (α := tPair.D) T ≤ 1048576) :
    Calls Try.prog 46 #[.slice x (List.length (α := tPair.D) T) c] w (MadeT tPairS T w) := by
  cases x with
  | some ad => exact clonePairs_impl ad c T w h hn6
  | none =>
    have hT : T = [] := by
      cases T with
      | nil => rfl
      | cons p r =>
        obtain ⟨b, off, he, _⟩ := pair_cells (i := 0) (p := p) h rfl
        cases he
    subst hT
    have hq1 : (binOp .eql 66 (.slice none 0 c) (.slice none 0 0)).run Try.prog w = .ok (.bool true) w := Lib.run_eql_slice_nil w 66 63 none 0 c 0 0 Try.underlying66
    have HO : Hid (OwN tPairS w w.heap.size w.heap.size [.slice none 0 0] []) := own_nilP w
    clear h hn6
    show Calls Try.prog _ #[.slice none 0 c] w _
    go_enter Try.func46, Try.ntmps46
    go_wp2
    go_ret
    exact ⟨_, rfl, HO.out, Below.refl _ _⟩
set_option maxRecDepth 100000 in
set_option maxHeartbeats 4000000 in
theorem reorderRounds_impl (v : Value) (d : List PairL) (vo : Value) (O : List Int) (R : Bool) (w : World) (hR : R = true ↔ ordP (List.length (α := PairL) d) O) (h : RdA tPairSS w [v] d) (hw : tPairSS.wt d ≤ 1048576) (ho : IntRow w vo O.length (getI O)) :
    Calls Try.prog 16 #[v, vo] w (ReoM w R (reoV R d O)) := by
  have hdl : List.length (α := PairL) d ≤ 1048576 := by have e : tPairSS.wt d = List.length (α := PairL) d + (d.map tPairS.wt).sum := rfl; omega
  obtain ⟨a, c, rfl, hn⟩ := schedule_form h
  obtain ⟨oa9, oc9, rfl, hon, _⟩ := ho.form
  obtain ⟨Y, hY⟩ := round_vals h
  have HWT : Hid (∀ k r, d[k]? = some r → List.length (α := tPair.D) r ≤ 1048576) := fun k r hr => by
    have h1 := take_sum (f := tPairS.wt) hr
    have h2 := take_sum_le (f := tPairS.wt) (L := d) (k + 1)
    have h3 : tPairSS.wt d = List.length (α := PairL) d + (d.map tPairS.wt).sum := rfl
    have h4 := wt_PairS r
    omega
  obtain ⟨n, hd⟩ : ∃ n, List.length (α := PairL) d = n := ⟨_, rfl⟩
  rw [hd] at hR hdl hY hn ⊢
  have CO := Lib.hid (areAllIndices_impl n _ O R w hdl hR ho)
  have HOR := Lib.hid ho
  have HD := Lib.hid hd
  have HRR : Hid (R = true → ordP n O) := hR.1
  have HYY := Lib.hid hY
  clear h hd hw ho hR hY
  obtain ⟨m, hm⟩ : ∃ m, O.length = m := ⟨_, rfl⟩
  have HM := Lib.hid hm
  rw [hm] at CO hon ⊢
  clear hm
  go_enter Try.func16, Try.ntmps16
  go_wp2_with fail
  refine CO.out.mono ?_
  rintro e w1 ⟨rfl, b⟩
  have HB1 := Lib.hid b
  clear b CO
  cases R with
  | false =>
    have HN0 : Hid (OwN tPairSS w1 w.heap.size w1.heap.size [.slice none 0 0] []) := owN_mono (nil_rows w1) HB1.out.size
    go_wp2
    go_ret2
    exact ⟨_, rfl, HN0.out, HB1.out⟩
  | true =>
  have HORD : Hid (ordP n O) := HRR.out (by first | rfl | trivial)
  have hmn : m = n := by rw [← HM.out]; exact HORD.out.1
  subst hmn
  have HY1 : Hid (∀ j, j < m → (∃ b off, a = some ⟨b, off, none⟩ ∧ m ≤ c ∧ w1.cell? ⟨b, off + j, none⟩ = some (Y j)) ∧ ∃ x l k, Y j = .slice x l k) := fun j hj => by
    obtain ⟨⟨b, off, h1, h2, h3⟩, ⟨x, k, h4⟩, _⟩ := HYY.out j hj
    exact ⟨⟨b, off, h1, h2, (HB1.out.cell (p := ⟨b, off + j, none⟩) (World.block_lt_of_cell? w _ h3)).trans h3⟩, x, _, k, h4⟩
  have HOB : Hid (∀ i, i < m → 0 ≤ getI O i ∧ getI O i ≤ (m : Int) - 1) := fun i hi => (HORD.out.2 i hi).1
  have CI := inOrder_impl a m c Y (.slice oa9 O.length oc9) O w1 (by rw [HM.out]; exact hdl) HY1.out (by rw [HM.out]; exact HOB.out) (HOR.out.below HB1.out (Nat.le_refl _))
  unfold InOrd at CI
  rw [HM.out] at CI
  have CII := Lib.hid CI
  clear CI HY1
  go_wp2_with fail
  refine CII.out.mono ?_
  rintro e w2 ⟨ys0, rfl, how, hys, b⟩
  obtain ⟨B, hB⟩ : ∃ B, w1.heap.size = B := ⟨_, rfl⟩
  rw [hB] at how ⊢
  have HOW := Lib.hid how
  have HYS := Lib.hid hys
  have HB2 := Lib.hid (HB1.out.trans (b.mono HB1.out.size))
  have hBw : w.heap.size ≤ B := by rw [← hB]; exact HB1.out.size
  clear b hB how hys CII
  have HRL : Hid (∀ k, k < m → (reoL d O)[k]? = some (rdR d (getI O k).toNat)) := fun k hk => by
    unfold reoL
    rw [List.getElem?_map]
    have e : O[k]? = some (getI O k) := by unfold getI; rw [List.getD_eq_getElem?_getD, List.getElem?_eq_getElem (by rw [HM.out]; exact hk)]; rfl
    rw [e]
    rfl
  have HRN : Hid (List.length (α := PairL) (reoL d O) = m) := by show _ = _; rw [← HM.out]; exact List.length_map ..
  have HVX : Hid (reoV true d O = reoL d O) := if_pos rfl
  go_wp2
  go_loopw [19] (fun iv wr => ∃ (k : Nat) (ys : List Value), k ≤ m ∧ iv = .int .i64 k ∧ Hid (wr.ownsRow B 66 1 (.slice (some ⟨B, 0, none⟩) m m) m ys) ∧ Hid (RowsMk tPairS wr B (reoL d O) k ys) ∧ Hid (∀ j, k ≤ j → j < m → ys[j]? = some (Y (getI O j).toNat)) ∧ Hid (Below w.heap.size w wr)) (fun iv _ => m - (RowKit.intOf iv).toNat)
  case atStart => exact ⟨0, ys0, Nat.zero_le _, rfl, HOW, RowsMk.nil, fun j _ hj => HYS.out j hj, HB2⟩
  case round =>
    clear HOW HYS HB2
    obtain ⟨k, ys, hk9, rfl, HOW, HMK, HYS, HB⟩ := hrel
    by_cases hlt : k < m
    · have hj1 : (k : Int) < (m : Int) := by omega
      obtain ⟨h0, h1⟩ := HOB.out k hlt
      obtain ⟨q, hq⟩ : ∃ q : Nat, getI O k = q := ⟨(getI O k).toNat, by omega⟩
      rw [hq] at h0 h1
      have hqm : q < m := by omega
      obtain ⟨_, ⟨x, kc, hyf⟩, hrd⟩ := HYY.out q hqm
      have HYK := HYS.out k (Nat.le_refl _) hlt
      rw [hq, Int.toNat_natCast, hyf] at HYK
      rw [hyf] at hrd
      have HXK : Hid ((reoL d O)[k]? = some (rdR d q)) := by have h9 := HRL.out k hlt; rw [hq, Int.toNat_natCast] at h9; exact h9
      have hqd : q < List.length (α := PairL) d := by rw [HD.out]; exact hqm
      have hl6 : List.length (α := tPair.D) (rdR d q) ≤ 1048576 := HWT.out q (rdR d q) (by unfold rdR; rw [List.getElem?_eq_getElem hqd]; rfl)
      have c0 := owns_cell HOW.out k hlt (Lib.hid HYK)
      have CC := Lib.hid (cloneRound_impl x kc (rdR d q) wr (hrd.below HB.out) hl6)
      have hB0 : B < wr.heap.size := (HOW.out.lt B rfl).2
      have HB0 := Lib.hid hB0
      clear hyf hrd HYK hq h0 h1 hqd
      generalize rdR d q = T at *
      generalize hlT : List.length (α := tPair.D) T = lT at *
      clear hlT
      go_wp2_with fail
      refine CC.out.mono ?_
      rintro e w3 ⟨rv, rfl, how3, b3⟩
      have how4 : OwN tPairS w3 wr.heap.size w3.heap.size [rv] T := how3
      clear how3
      obtain ⟨rva, rvc, rfl, _⟩ := pairs_form (how4.rd.all (Nat.le_refl _))
      have HW3 := Lib.hid how4
      have HB3 := Lib.hid b3
      have HO3 := Lib.hid (owns_below HOW.out b3 (Nat.le_refl _))
      clear how4 b3 c0 CC
      obtain ⟨u0, c1⟩ := owns_cellR HO3.out k (by omega)
      have f1 := HO3.out.frozenAt k
      generalize List.length (α := tPair.D) T = lT2 at *
      have HON := Lib.hid (HO3.out.stored k (.slice rva lT2 rvc)).1
      have HMN : Hid (RowsMk tPairS (w3.setCell ⟨B, k, none⟩ (.slice rva lT2 rvc)) B (reoL d O) (k + 1) (ys.set k (.slice rva lT2 rvc))) :=
        RowsMk.next HMK.out HB0.out HB3.out HW3.out HXK.out (by have h9 := HOW.out.1; rw [Nat.mul_one] at h9; rw [h9]; exact hlt) (by simp [World.setCell]) (fun q hq _ => Below.heap_setCell _ _ _ _ hq)
      have HYN : Hid (∀ j, k + 1 ≤ j → j < m → (ys.set k (.slice rva lT2 rvc))[j]? = some (Y (getI O j).toNat)) := fun j h1 h2 => by
        rw [List.getElem?_set_ne (by omega)]
        exact HYS.out j (by omega) h2
      have HBN : Hid (Below w.heap.size w (w3.setCell ⟨B, k, none⟩ (.slice rva lT2 rvc))) := (HB.out.trans (HB3.out.mono HB.out.size)).setCell (p := ⟨B, k, none⟩) hBw _
      clear HW3 HXK HYS HMK
      go_wp2
      go_roundw
      case rel => exact ⟨k + 1, _, by omega, by go_num, HON, HMN, HYN, HBN⟩
      case measure => simp [RowKit.intOf]; omega
    obtain rfl : k = m := by omega
    have HOE : Hid (OwN tPairSS wr w.heap.size wr.heap.size [.slice (some ⟨B, 0, none⟩) k k] (reoL d O)) := owN_mono (RowsMk.own rfl HRN.out HMK.out HOW.out (HOW.out.lt B rfl).2) hBw
    go_wp2
    go_ret2
    rw [HVX.out]
    exact ⟨_, rfl, HOE.out, HB.out⟩
end Go.Proofs.Ytfkfolglfmmkoaa
set_option linter.unusedVariables false
namespace Go.Proofs.Ytfkfolglfmmkoaa
open Go.RowKit

def pordP (n : Nat) (o : List Int) : Prop := ∀ i, i < o.length → (0 ≤ getI o i ∧ getI o i ≤ (n : Int) - 1) ∧ ¬ getI o i ∈ o.take i
theorem pordP.full {n : Nat} {o : List Int} (h : pordP n o) (hl : o.length = n) : ordP n o := ⟨hl, fun i hi => h i (by omega)⟩
theorem pordP.push {n : Nat} {o : List Int} (h : pordP n o) {i : Nat} (hi : i < n) (hm : ¬ (i : Int) ∈ o) : pordP n (o ++ [(i : Int)]) := fun j hj => by
  rw [List.length_append, List.length_singleton] at hj
  by_cases e : j = o.length
  · subst e
    have e1 : getI (o ++ [(i : Int)]) o.length = i := by unfold getI; simp
    rw [e1, List.take_left]
    exact ⟨by omega, hm⟩
  · have e1 : getI (o ++ [(i : Int)]) j = getI o j := by unfold getI; rw [List.getD_eq_getElem?_getD, List.getD_eq_getElem?_getD, List.getElem?_append_left (by omega)]
    rw [e1, List.take_append_of_le_length (by omega)]
    exact h j (by omega)
theorem hosts_reo {n : Nat} {D : List PairL} (h : hostsP n D) {o : List Int} (ho : ordP (List.length (α := PairL) D) o) : hostsP n (reoL D o) := by
  refine ⟨?_, fun r hr tm => ?_⟩
  · have := h.1
    show ((o.map fun i => rdR D i.toNat).length) ≤ 14
    rw [List.length_map, ho.1]
    exact this
  · obtain ⟨x, hx, rfl⟩ := List.mem_map.1 hr
    obtain ⟨i, hi, rfl⟩ := List.mem_iff_getElem.1 hx
    have h9 := (ho.2 i (by rw [← ho.1]; exact hi)).1
    have e : getI o i = o[i] := by unfold getI; rw [List.getD_eq_getElem?_getD, List.getElem?_eq_getElem hi]; rfl
    rw [e] at h9
    have hlt : (o[i]).toNat < List.length (α := PairL) D := by omega
    have e2 : rdR D (o[i]).toNat = (D : List PairL)[(o[i]).toNat] := by unfold rdR; rw [List.getElem?_eq_getElem hlt]; rfl
    rw [e2]
    exact h.2 _ (List.getElem_mem hlt) tm
theorem flat_ints (L : List Int) : flatR (fun i => [Value.int .i64 (getI L i)]) L.length = L.map (Value.int .i64) := by
  have key : ∀ m, flatR (fun i => [Value.int .i64 (getI L i)]) m = (List.range m).map fun i => Value.int .i64 (getI L i) := fun m => by
    unfold flatR
    induction List.range m with
    | nil => rfl
    | cons a r ih => rw [List.flatMap_cons, ih]; rfl
  rw [key]
  apply List.ext_getElem?
  intro i
  rw [List.getElem?_map, List.getElem?_map]
  by_cases h : i < L.length
  · rw [List.getElem?_range h, List.getElem?_eq_getElem h]
    simp [getI, h]
  · rw [List.getElem?_eq_none (by simpa using h), List.getElem?_eq_none (by omega)]
    rfl
def SeekSt (w : World) (X : Nat) (bv : Value) (l : Int) (f : Bool) : Option (List Int × Int) → Prop
  | none => bv = .slice none 0 0 ∧ l = 0 ∧ f = false
  | some (O, L) => l = L ∧ f = true ∧ w.ownsRow (X + 1) 3 1 bv O.length (O.map (Value.int .i64))
theorem SeekSt.below {w w' : World} {X : Nat} {bv : Value} {l : Int} {f : Bool} {st : Option (List Int × Int)} (h : SeekSt w X bv l f st) (b : Below w.heap.size w w') : SeekSt w' X bv l f st := by
  cases st with
  | none => exact h
  | some p => exact ⟨h.1, h.2.1, owns_below h.2.2 b (Nat.le_refl _)⟩
def SeekAt (w0 w : World) (X n : Nat) (ka : Option Addr) (nk kc : Nat) (ra : Option Addr) (nr rc : Nat) (st : Option (List Int × Int)) : Prop :=
  w0.heap.size ≤ X ∧ Below w0.heap.size w0 w ∧ ∃ bv l f, BoxF w X [.int .i64 n, .slice ka nk kc, .slice ra nr rc, bv, .int .i64 l, .bool f] ∧ SeekSt w X bv l f st
theorem SeekAt.below {w0 w w' : World} {X n : Nat} {ka : Option Addr} {nk kc : Nat} {ra : Option Addr} {nr rc : Nat} {st : Option (List Int × Int)} (h : SeekAt w0 w X n ka nk kc ra nr rc st) (b : Below w.heap.size w w') : SeekAt w0 w' X n ka nk kc ra nr rc st := by
  obtain ⟨h0, h1, bv, l, f, h2, h3⟩ := h
  exact ⟨h0, h1.trans (b.mono h1.size), bv, l, f, h2.below b, h3.below b⟩
theorem SeekAt.put {w0 w : World} {X n : Nat} {ka : Option Addr} {nk kc : Nat} {ra : Option Addr} {nr rc : Nat} {bv : Value} {l : Int} {f : Bool} {O : List Int} {L : Int} {nv : Value} (h0 : w0.heap.size ≤ X) (h1 : Below w0.heap.size w0 w)
    (hb : BoxF w X [.int .i64 n, .slice ka nk kc, .slice ra nr rc, bv, .int .i64 l, .bool f]) (ho : w.ownsRow (X + 1) 3 1 nv O.length (O.map (Value.int .i64))) :
    SeekAt w0 (((w.setCell ⟨X, 3, none⟩ nv).setCell ⟨X, 4, none⟩ (.int .i64 L)).setCell ⟨X, 5, none⟩ (.bool true)) X n ka nk kc ra nr rc (some (O, L)) := by
  have t : Touch X (X + 1) w (((w.setCell ⟨X, 3, none⟩ nv).setCell ⟨X, 4, none⟩ (.int .i64 L)).setCell ⟨X, 5, none⟩ (.bool true)) := (((Touch.refl X (X + 1) w).setCell ⟨X, 3, none⟩ nv (Nat.le_refl _) (Nat.lt_succ_self _)).setCell ⟨X, 4, none⟩ _ (Nat.le_refl _) (Nat.lt_succ_self _)).setCell ⟨X, 5, none⟩ _ (Nat.le_refl _) (Nat.lt_succ_self _)
  refine ⟨h0, h1.trans (t.below h0 (Nat.le_trans h0 (Nat.le_of_lt hb.1))), nv, L, true, ?_, rfl, rfl, owns_touch ho t (InW.of_owns ho) (.inr (Nat.le_refl _))⟩
  exact ((hb.set 3 nv (by simp)).set 4 (.int .i64 L) (by simp)).set 5 (.bool true) (by simp)
theorem touch_seek (w : World) (X : Nat) (nv : Value) (L : Int) : Touch X (X + 1) w (((w.setCell ⟨X, 3, none⟩ nv).setCell ⟨X, 4, none⟩ (.int .i64 L)).setCell ⟨X, 5, none⟩ (.bool true)) :=
  (((Touch.refl X (X + 1) w).setCell ⟨X, 3, none⟩ nv (Nat.le_refl _) (Nat.lt_succ_self _)).setCell ⟨X, 4, none⟩ _ (Nat.le_refl _) (Nat.lt_succ_self _)).setCell ⟨X, 5, none⟩ _ (Nat.le_refl _) (Nat.lt_succ_self _)
def seekO (N : Nat) (T : List Int → Int) (f : Nat) (o : List Int) (st : Option (List Int × Int)) : Option (List Int × Int) := (allO N f o).foldl (betS T) st
def seekI (N : Nat) (T : List Int → Int) (f : Nat) (o : List Int) (i : Nat) (st : Option (List Int × Int)) : Option (List Int × Int) := ((List.range i).flatMap fun (i : Nat) => if (i : Int) ∈ o then [] else allO N f (o ++ [(i : Int)])).foldl (betS T) st
theorem seekO_full {N : Nat} {T : List Int → Int} {f : Nat} {o : List Int} (h : o.length = N) (st : Option (List Int × Int)) : seekO N T f o st = betS T st o := by
  unfold seekO
  cases f with
  | zero => unfold allO; rw [if_pos h]; rfl
  | succ f => unfold allO; rw [if_pos h]; rfl
theorem seekO_part {N : Nat} {T : List Int → Int} {f : Nat} {o : List Int} (h : ¬ o.length = N) (st : Option (List Int × Int)) : seekO N T (f + 1) o st = seekI N T f o N st := by
  unfold seekO seekI
  rw [allO, if_neg h]
theorem seekI_zero (N : Nat) (T : List Int → Int) (f : Nat) (o : List Int) (st : Option (List Int × Int)) : seekI N T f o 0 st = st := rfl
theorem seekI_yes {N : Nat} {T : List Int → Int} {f : Nat} {o : List Int} {i : Nat} (h : (i : Int) ∈ o) (st : Option (List Int × Int)) : seekI N T f o (i + 1) st = seekI N T f o i st := by
  unfold seekI
  rw [List.range_succ, List.flatMap_append, List.flatMap_singleton, if_pos h, List.append_nil]
theorem seekI_no {N : Nat} {T : List Int → Int} {f : Nat} {o : List Int} {i : Nat} (h : ¬ (i : Int) ∈ o) (st : Option (List Int × Int)) : seekI N T f o (i + 1) st = seekO N T f (o ++ [(i : Int)]) (seekI N T f o i st) := by
  unfold seekI seekO
  rw [List.range_succ, List.flatMap_append, List.flatMap_singleton, if_neg h, List.foldl_append]
set_option maxRecDepth 100000 in
set_option maxHeartbeats 8000000 in
theorem l11Search_full (w0 : World) (X n : Nat) (K : List Int) (D : List PairL) (ka : Option Addr) (nk kc : Nat) (ra : Option Addr) (nr rc : Nat) (T : List Int → Int) (h14 : nr ≤ 14)
    (CR : Hid (∀ o ov wa, ordP nr o → RdA tPairSS wa [.slice ra nr rc] D → IntRow wa ov o.length (getI o) → Calls Try.prog 33 #[.slice ra nr rc, ov] wa (ReoM wa true (reoL D o))))
    (CT : Hid (∀ o v wa, ordP nr o → IntRow wa (.slice ka nk kc) nk (getI K) → RdA tPairSS wa [v] (reoL D o) → Calls Try.prog 73 #[.agg #[.int .i64 n, .slice ka nk kc], v] wa fun e w' => e = .returned (.int .i64 (T o)) ∧ Below wa.heap.size wa w'))
    (HK : Hid (IntRow w0 (.slice ka nk kc) nk (getI K))) (HD : Hid (RdA tPairSS w0 [.slice ra nr rc] D)) (f : Nat) (o : List Int) (ov : Value) (st : Option (List Int × Int)) (w : World) (hlen : o.length + 0 = nr) (hpo : pordP nr o) (hS : SeekAt w0 w X n ka nk kc ra nr rc st) (hov : IntRow w ov o.length (getI o)) (hin : InW (X + 1) w.heap.size ov) :
      Calls Try.prog 78 #[.pointer (some ⟨X, 0, none⟩), ov] w fun e w' => e = .returned (.tuple #[]) ∧ SeekAt w0 w' X n ka nk kc ra nr rc (seekO nr T f o st) ∧ Touch X (X + 1) w w' := by
  obtain ⟨i0, hi, hz0, hz1, hz2⟩ := info_parts Try.infoI
  have hq : o.length = nr := by omega
  have HORD : Hid (ordP nr o) := hpo.full hq
  have HQ := Lib.hid hq
  rw [seekO_full hq]
  obtain ⟨oa, oc, rfl, ho9, _⟩ := hov.form
  have HOV : Hid (IntRow w (.slice oa nr oc) nr (getI o)) := by rw [← hq]; exact hov
  rw [hq] at ho9 ⊢
  obtain ⟨h0, h1, bv, l, fl, hb, hst⟩ := hS
  have H0 := Lib.hid h0
  have H1 := Lib.hid h1
  have HBX := Lib.hid hb
  have HST := Lib.hid hst
  have HIN := Lib.hid hin
  have CRo := Lib.hid (CR.out o _ w HORD.out (HD.out.below h1) (by rw [hq]; exact HOV.out))
  have c2 := (hb.2 2 _ rfl).1
  have g1 : ((nr : Int) == (nr : Int)) = true := by simp
  clear hpo hlen hov hin h0 h1 hb hst hq CR
  go_enter Try.func78, Try.ntmps78
  go_wp2_with fail
  refine CRo.out.mono ?_
  rintro e w1 ⟨rv, rfl, how, b1⟩
  have HRD := Lib.hid (how.rd.all how.hi_le)
  have HB1 := Lib.hid b1
  have HX1 := Lib.hid (HBX.out.below b1)
  have CTo := Lib.hid (CT.out o rv w1 HORD.out (HK.out.below (H1.out.trans (b1.mono H1.out.size)) (Nat.le_refl _)) HRD.out)
  clear how b1 c2 CRo CT
  have d0 := (HX1.out.2 0 _ rfl).1
  have d1 := (HX1.out.2 1 _ rfl).1
  go_wp2_with fail
  refine CTo.out.mono ?_
  rintro e w2 ⟨rfl, b2⟩
  have HB2 := Lib.hid (HB1.out.trans (b2.mono HB1.out.size))
  have HX2 := Lib.hid (HX1.out.below b2)
  have HST2 := Lib.hid (HST.out.below HB2.out)
  have H12 := Lib.hid (H1.out.trans (HB2.out.mono H1.out.size))
  have HO2 := Lib.hid (HOV.out.below HB2.out (Nat.le_refl _))
  clear b2 d0 d1 CTo HX1 HB1 HRD
  have e3 := (HX2.out.2 3 _ rfl).1
  have e4 := (HX2.out.2 4 _ rfl).1
  have e5 := (HX2.out.2 5 _ rfl).1
  obtain ⟨tt, htt⟩ : ∃ t, T o = t := ⟨_, rfl⟩
  have HTT := Lib.hid htt
  rw [htt]
  clear htt
  have HRC := Lib.hid HO2.out.rec
  have hX2 : X + 1 ≤ w2.heap.size := HX2.out.1
  have hX2' : X < w2.heap.size := HX2.out.1
  cases st with
  | none =>
    obtain ⟨hbv, hl, hfl⟩ := HST2.out
    subst hbv hl hfl
    have HNX : Hid (betS T none o = some (o, tt)) := by show some (o, T o) = _; rw [HTT.out]
    go_wp2_with (at_builtin; refine wpList_cloneR rfl (.tmp 45) (.tmp 46) 24 rfl 3 Try.underlying24 hi hz0 hz1 hz2 rfl (by decide) (by simp [go_sem]) rfl HRC.out (fun i hi => rfl) (fun i hi u hu => by simp at hu; subst hu; rfl) (by omega) (by omega) ?_; intro vv w3 o3 b3; obtain ⟨ya, yc, hvf⟩ := owns_form o3; subst hvf; have OR3 := Lib.hid o3; have B3 := Lib.hid b3; have HX3 := Lib.hid (HX2.out.below b3); have k3 := (HX3.out.2 3 _ rfl).1; have k4 := (HX3.out.2 4 _ rfl).1; have k5 := (HX3.out.2 5 _ rfl).1; have f3 := (HX3.out.2 3 _ rfl).2; have f4 := (HX3.out.2 4 _ rfl).2; have f5 := (HX3.out.2 5 _ rfl).2; clear o3 b3 e3 e4 e5)
    refine bodyPost_ret (results_none rfl _ _ _) rfl ?_
    have HOW : Hid (w3.ownsRow (X + 1) 3 1 (.slice ya nr yc) o.length (o.map (Value.int .i64))) := by
      have h9 := OR3.out
      have e2 : flatR (fun i => [Value.int .i64 (getI o i)]) nr = o.map (Value.int .i64) := by rw [← HQ.out]; exact flat_ints o
      rw [e2] at h9
      rw [HQ.out]
      exact owns_mono h9 hX2
    rw [HNX.out]
    exact ⟨rfl, SeekAt.put H0.out (H12.out.trans (B3.out.mono H12.out.size)) HX3.out HOW.out, (Touch.of_below (HB2.out.trans (B3.out.mono HB2.out.size))).trans (touch_seek _ _ _ _)⟩
  | some p =>
    obtain ⟨O, L⟩ := p
    obtain ⟨hl, hfl, hown⟩ := HST2.out
    subst hl hfl
    have HOWN := Lib.hid hown
    clear hown
    by_cases hlt : tt < l
    · have HNX : Hid (betS T (some (O, l)) o = some (o, tt)) := by show (if T o < l then _ else _) = _; rw [HTT.out, if_pos hlt]
      have g3 : decide (tt < l) = true := decide_eq_true hlt
      go_wp2_with (at_builtin; refine wpList_cloneR rfl (.tmp 45) (.tmp 46) 24 rfl 3 Try.underlying24 hi hz0 hz1 hz2 rfl (by decide) (by simp [go_sem]) rfl HRC.out (fun i hi => rfl) (fun i hi u hu => by simp at hu; subst hu; rfl) (by omega) (by omega) ?_; intro vv w3 o3 b3; obtain ⟨ya, yc, hvf⟩ := owns_form o3; subst hvf; have OR3 := Lib.hid o3; have B3 := Lib.hid b3; have HX3 := Lib.hid (HX2.out.below b3); have k3 := (HX3.out.2 3 _ rfl).1; have k4 := (HX3.out.2 4 _ rfl).1; have k5 := (HX3.out.2 5 _ rfl).1; have f3 := (HX3.out.2 3 _ rfl).2; have f4 := (HX3.out.2 4 _ rfl).2; have f5 := (HX3.out.2 5 _ rfl).2; clear o3 b3 e3 e4 e5)
      refine bodyPost_ret (results_none rfl _ _ _) rfl ?_
      have HOW : Hid (w3.ownsRow (X + 1) 3 1 (.slice ya nr yc) o.length (o.map (Value.int .i64))) := by
        have h9 := OR3.out
        have e2 : flatR (fun i => [Value.int .i64 (getI o i)]) nr = o.map (Value.int .i64) := by rw [← HQ.out]; exact flat_ints o
        rw [e2] at h9
        rw [HQ.out]
        exact owns_mono h9 hX2
      rw [HNX.out]
      exact ⟨rfl, SeekAt.put H0.out (H12.out.trans (B3.out.mono H12.out.size)) HX3.out HOW.out, (Touch.of_below (HB2.out.trans (B3.out.mono HB2.out.size))).trans (touch_seek _ _ _ _)⟩
    · have HNX : Hid (betS T (some (O, l)) o = some (O, l)) := by show (if T o < l then _ else _) = _; rw [HTT.out, if_neg hlt]
      have g3 : decide (tt < l) = false := decide_eq_false hlt
      go_wp2
      refine bodyPost_ret (results_none rfl _ _ _) rfl ?_
      rw [HNX.out]
      exact ⟨rfl, ⟨H0.out, H12.out, bv, l, true, HX2.out, rfl, rfl, HOWN.out⟩, Touch.of_below HB2.out⟩
set_option maxRecDepth 100000 in
set_option maxHeartbeats 8000000 in
theorem l11Search_spec (w0 : World) (X n : Nat) (K : List Int) (D : List PairL) (ka : Option Addr) (nk kc : Nat) (ra : Option Addr) (nr rc : Nat) (M : Metric n K) (HH : hostsP n D) (hK : IntRow w0 (.slice ka nk kc) nk (getI K)) (hD : RdA tPairSS w0 [.slice ra nr rc] D) (hw : tPairSS.wt D ≤ 1048576) (hnk : K.length = nk) (hnr : List.length (α := PairL) D = nr) :
    ∀ (f : Nat) (o : List Int) (ov : Value) (st : Option (List Int × Int)) (w : World), o.length + f = nr → pordP nr o → SeekAt w0 w X n ka nk kc ra nr rc st → IntRow w ov o.length (getI o) → InW (X + 1) w.heap.size ov →
      Calls Try.prog 78 #[.pointer (some ⟨X, 0, none⟩), ov] w fun e w' => e = .returned (.tuple #[]) ∧ SeekAt w0 w' X n ka nk kc ra nr rc (seekO nr (fun o => travT n K (reoL D o)) f o st) ∧ Touch X (X + 1) w w' := by
  have h14 : nr ≤ 14 := by rw [← hnr]; exact HH.1
  have CR : Hid (∀ o ov wa, ordP nr o → RdA tPairSS wa [.slice ra nr rc] D → IntRow wa ov o.length (getI o) → Calls Try.prog 33 #[.slice ra nr rc, ov] wa (ReoM wa true (reoL D o))) := fun o ov wa h1 h2 h3 => by
    have h9 := reorderRounds_spec (.slice ra nr rc) D ov o true wa ⟨fun _ => by rw [hnr]; exact h1, fun _ => rfl⟩ h2 hw h3
    exact h9
  have CT : Hid (∀ o v wa, ordP nr o → IntRow wa (.slice ka nk kc) nk (getI K) → RdA tPairSS wa [v] (reoL D o) → Calls Try.prog 73 #[.agg #[.int .i64 n, .slice ka nk kc], v] wa fun e w' => e = .returned (.int .i64 (travT n K (reoL D o))) ∧ Below wa.heap.size wa w') := fun o v wa h1 h2 h3 =>
    l11Total_spec n _ K v (reoL D o) wa M (hosts_reo HH (by rw [hnr]; exact h1)) (by rw [hnk]; exact h2) h3
  have HK := Lib.hid hK
  have HD := Lib.hid hD
  obtain ⟨T, hT⟩ : ∃ T : List Int → Int, T = fun o => travT n K (reoL D o) := ⟨_, rfl⟩
  have HT : Hid (∀ o, travT n K (reoL D o) = T o) := fun o => by rw [hT]
  rw [← hT]
  have CT2 : Hid (∀ o v wa, ordP nr o → IntRow wa (.slice ka nk kc) nk (getI K) → RdA tPairSS wa [v] (reoL D o) → Calls Try.prog 73 #[.agg #[.int .i64 n, .slice ka nk kc], v] wa fun e w' => e = .returned (.int .i64 (T o)) ∧ Below wa.heap.size wa w') := fun o v wa h1 h2 h3 => by rw [← HT.out]; exact CT.out o v wa h1 h2 h3
  clear hK hD M HH hw hnk hnr hT HT CT
  obtain ⟨i0, hi, hz0, hz1, hz2⟩ := info_parts Try.infoI
  intro f
  induction f with
  | zero => exact fun o ov st w => l11Search_full w0 X n K D ka nk kc ra nr rc T h14 CR CT2 HK HD 0 o ov st w
  | succ f IH =>
  intro o ov st w hlen hpo hS hov hin
  have hne : ¬ o.length = nr := by omega
  have HIH := Lib.hid IH
  have HPO := Lib.hid hpo
  have HIN := Lib.hid hin
  have HOV := Lib.hid hov
  rw [seekO_part hne]
  have HSK : Hid (SeekAt w0 w X n ka nk kc ra nr rc (seekI nr T f o 0 st)) := hS
  obtain ⟨oa, oc, rfl, ho9, _⟩ := hov.form
  obtain ⟨q, hq⟩ : ∃ q, o.length = q := ⟨_, rfl⟩
  have HQ := Lib.hid hq
  rw [hq] at ho9 hlen hne HOV HIN ⊢
  obtain ⟨h0, h1, bv, l, fl, hb, _⟩ := hS
  have c2 := (hb.2 2 _ rfl).1
  have hX9 := hb.1
  have H0 := Lib.hid h0
  clear IH hpo hin hov h0 h1 hb hq
  have g1 : ((q : Int) == (nr : Int)) = false := by simp; omega
  go_enter Try.func78, Try.ntmps78
  go_wp2
  clear c2 g1
  go_loopw [62] (fun iv wr => ∃ i : Nat, i ≤ nr ∧ iv = .int .i64 i ∧ Hid (SeekAt w0 wr X n ka nk kc ra nr rc (seekI nr T f o i st)) ∧ Hid (Touch X (X + 1) w wr)) (fun iv _ => nr - (RowKit.intOf iv).toNat)
  case atStart => exact ⟨0, Nat.zero_le _, rfl, HSK, Touch.refl _ _ _⟩
  case round =>
    clear HSK
    obtain ⟨i, hi9, rfl, HS, HTC⟩ := hrel
    have HOr : Hid (IntRow wr (.slice oa q oc) q (getI o)) := HOV.out.touch HTC.out (fun _ => HIN.out) (.inr (Nat.le_refl _))
    by_cases hlt : i < nr
    · have hj1 : (i : Int) < (nr : Int) := by omega
      obtain ⟨r, hr⟩ := boolEx ((i : Int) ∈ o)
      have CH := Lib.hid (l02Has_mem (.slice oa q oc) o (i : Int) r wr hr (by rw [HQ.out]; exact HOr.out))
      have HR := Lib.hid hr
      clear hr
      go_wp2_with fail
      refine CH.out.mono ?_
      rintro e wx ⟨rfl, rfl⟩
      cases r with
      | true =>
        have HSN : Hid (SeekAt w0 wr X n ka nk kc ra nr rc (seekI nr T f o (i + 1) st)) := by rw [seekI_yes (HR.out.1 (by first | rfl | trivial))]; exact HS.out
        go_wp2
        go_roundw
        case rel => exact ⟨i + 1, by omega, by go_num, HSN, HTC⟩
        case measure => simp [RowKit.intOf]; omega
      | false =>
        have hm : ¬ (i : Int) ∈ o := fun h => by have := HR.out.2 h; cases this
        have HM := Lib.hid hm
        have hXr : X + 1 ≤ wr.heap.size := by obtain ⟨_, _, _, _, _, hb, _⟩ := HS.out; exact hb.1
        have HRC := Lib.hid HOr.out.rec
        clear hm HR
        go_wp2_with (first | (at_builtin; refine wpList_cloneR rfl (.tmp 70) (.tmp 71) 24 rfl 3 Try.underlying24 hi hz0 hz1 hz2 rfl (by decide) (by simp [go_sem]) rfl HRC.out (fun i hi => rfl) (fun i hi u hu => by simp at hu; subst hu; rfl) (by omega) (by omega) ?_; intro vv w3 o3 b3; obtain ⟨ya, yc, hvf⟩ := owns_form o3; subst hvf; have OR3 := Lib.hid o3; have B3 := Lib.hid b3; have hs3 : wr.heap.size ≤ w3.heap.size := b3.size; clear o3 b3) | (at_builtin; refine wpList_pushL rfl (.tmp 72) (.tmp 74) 24 rfl wr.heap.size 3 Try.underlying24 hi hz0 hz1 hz2 rfl (by decide) [.int .i64 i] rfl (by intro u hu; simp at hu; subst hu; rfl) rfl (by show Value.slice (some ⟨_, 0, none⟩) 1 1 = _; simp) OR3.out (by unfold maxLen; omega) (by omega) hs3 ?_; intro gg5 cc5 w5 o5 g5 at5 lt5; have O5 := Lib.hid o5; have G5 := Lib.hid g5; clear o5 g5 at5 lt5))
        have HB5 : Hid (Below wr.heap.size wr w5) := B3.out.grown G5.out hs3 (fun q hq => (OR3.out.lt q hq).1)
        have HOW : Hid (w5.ownsRow wr.heap.size 3 1 (.slice (some ⟨gg5, 0, none⟩) (o ++ [(i : Int)]).length cc5) (o ++ [(i : Int)]).length ((o ++ [(i : Int)]).map (Value.int .i64))) := by
          have h9 := O5.out
          have e1 : (o ++ [(i : Int)]).length = q + 1 := by rw [List.length_append, HQ.out]; rfl
          have e2 : flatR (fun i => [Value.int .i64 (getI o i)]) q = o.map (Value.int .i64) := by rw [← HQ.out]; exact flat_ints o
          rw [e2] at h9
          rw [e1, List.map_append]
          exact h9
        have hl9 : (o ++ [(i : Int)]).length = q + 1 := by rw [List.length_append, HQ.out]; rfl
        have CS := Lib.hid (HIH.out (o ++ [(i : Int)]) _ (seekI nr T f o i st) w5 (by rw [hl9]; omega) (HPO.out.push hlt HM.out) (HS.out.below HB5.out) (IntRow.of_list HOW.out (by rw [hl9]; omega)) ((InW.of_owns HOW.out).mono hXr (Nat.le_refl _)))
        rw [hl9] at CS
        clear O5 G5 OR3 B3 HOW
        go_wp2_with fail
        refine CS.out.mono ?_
        rintro e w6 ⟨rfl, hS6, hT6⟩
        have HSN : Hid (SeekAt w0 w6 X n ka nk kc ra nr rc (seekI nr T f o (i + 1) st)) := by rw [seekI_no HM.out]; exact hS6
        have HTN : Hid (Touch X (X + 1) w w6) := (HTC.out.trans (Touch.of_below HB5.out)).trans hT6
        clear hS6 hT6 CS
        go_wp2
        go_roundw
        case rel => exact ⟨i + 1, by omega, by go_num, HSN, HTN⟩
        case measure => simp [RowKit.intOf]; omega
    obtain rfl : i = nr := by omega
    go_wp2
    refine bodyPost_end (results_none rfl _ _ _) rfl ?_
    exact ⟨rfl, HS.out, HTC.out⟩
def BestM (w : World) (R : Bool) (st : Option (List Int × Int)) (e : Ending) (w' : World) : Prop :=
  ∃ v, e = .returned (.tuple #[v, .int .i64 ((st.map Prod.snd).getD 0), .bool R]) ∧ w'.ownsRow w.heap.size 3 1 v ((st.map Prod.fst).getD []).length (((st.map Prod.fst).getD []).map (Value.int .i64)) ∧ Below w.heap.size w w'
def bestV (R : Bool) (s : Int) (K : List Int) (D : List PairL) : Option (List Int × Int) := if R = true then bestO (List.length (α := PairL) D) (fun o => travT s.toNat K (reoL D o)) else none
set_option maxRecDepth 100000 in
set_option maxHeartbeats 4000000 in
theorem bestOrder_spec (s : Int) (vk : Value) (K : List Int) (vr : Value) (D : List PairL) (R : Bool) (w : World) (hR : R = true ↔ mapP s K ∧ schedP s D ∧ List.length (α := PairL) D ≤ 5) (h : IntRow w vk K.length (getI K)) (hr : RdA tPairSS w [vr] D) (hw : tPairSS.wt D ≤ 1048576) :
    Calls Try.prog 39 #[.agg #[.int .i64 s, vk], vr] w (BestM w R (bestV R s K D)) := by
  obtain ⟨ka, kc, rfl, hkn, _⟩ := h.form
  obtain ⟨ra, rc, rfl, hrn⟩ := schedule_form hr
  obtain ⟨nk, hnk⟩ : ∃ nk, K.length = nk := ⟨_, rfl⟩
  obtain ⟨nr, hnr⟩ : ∃ nr, List.length (α := PairL) D = nr := ⟨_, rfl⟩
  obtain ⟨r1, hr1⟩ := boolEx (mapP s K)
  obtain ⟨r2, hr2⟩ := boolEx (schedP s D)
  obtain ⟨U, hU⟩ : ∃ U, w.alloc (.cells #[.int .i64 s, .slice ka K.length kc] 26) = U := ⟨_, rfl⟩
  have HS : Hid (MapAt U w.heap.size s ka K.length kc K) := by rw [← hU]; exact MapAt.made h
  have bU : Below w.heap.size w U := by rw [← hU]; exact (Below.refl _ _).alloc (Nat.le_refl _) _
  have HB := Lib.hid bU
  have HR : Hid (RdA tPairSS U [.slice ra (List.length (α := PairL) D) rc] D) := hr.below bU
  have CM := Lib.hid (mapOk_spec s (.slice ka K.length kc) K r1 U hr1 (h.below bU (Nat.le_refl _)))
  have CS := Lib.hid (fun wa h => isSchedule_spec (.slice ra (List.length (α := PairL) D) rc) D s r2 wa hr2 h hw)
  have HNK := Lib.hid hnk
  have HNR := Lib.hid hnr
  have HWT := Lib.hid hw
  have HR1 := Lib.hid hr1
  have HR2 := Lib.hid hr2
  have HRR : Hid (R = true ↔ mapP s K ∧ schedP s D ∧ nr ≤ 5) := by rw [← hnr]; exact hR
  have HV : Hid (bestV R s K D = if R = true then seekO nr (fun o => travT s.toNat K (reoL D o)) nr [] none else none) := by rw [← hnr]; exact rfl
  rw [hnk] at hkn hU HS CM ⊢
  rw [hnr] at hrn HR CS ⊢
  clear h hr hR hnk hnr hr1 hr2 bU hw
  generalize bestV R s K D = V at *
  obtain ⟨c0, c1⟩ := HS.out.cells
  have HNO : Hid (∀ wa, World.ownsRow wa w.heap.size 3 1 (.slice none 0 0) 0 []) := fun wa => World.ownsRow_nil _ _ _ _
  go_enter Try.func39, Try.ntmps39
  go_wp2_with fail
  clear hU
  refine CM.out.mono ?_
  rintro e w1 ⟨rfl, bb⟩
  have HS1 := Lib.hid (HS.out.below bb)
  have HRA := Lib.hid (HR.out.below bb)
  have HB1 := Lib.hid (HB.out.trans (bb.mono HB.out.size))
  clear bb c0 c1 HS HB CM HR
  obtain ⟨c0, c1⟩ := HS1.out.cells
  cases r1 with
  | false =>
    have hf : R = false := by cases R with | false => rfl | true => have := HR1.out.2 (HRR.out.1 rfl).1; cases this
    have HVX : Hid (V = none) := by show _ = _; rw [HV.out, hf]; rfl
    go_wp2
    go_ret3
    rw [HVX.out, hf]
    exact ⟨_, rfl, HNO.out _, HB1.out⟩
  | true =>
  have HMP : Hid (mapP s K) := HR1.out.1 (by first | rfl | trivial)
  have hs := HMP.out.1
  obtain ⟨hs1, hs2⟩ := hs
  clear HR1
  go_wp2_with fail
  refine (CS.out _ HRA.out).mono ?_
  rintro e w2 ⟨rfl, bb⟩
  have HS2 := Lib.hid (HS1.out.below bb)
  have HRB := Lib.hid (HRA.out.below bb)
  have HB2 := Lib.hid (HB1.out.trans (bb.mono HB1.out.size))
  clear bb c0 c1 HS1 HB1 HRA CS
  obtain ⟨c0, c1⟩ := HS2.out.cells
  cases r2 with
  | false =>
    have hf : R = false := by cases R with | false => rfl | true => have := HR2.out.2 (HRR.out.1 rfl).2.1; cases this
    have HVX : Hid (V = none) := by show _ = _; rw [HV.out, hf]; rfl
    go_wp2
    go_ret3
    rw [HVX.out, hf]
    exact ⟨_, rfl, HNO.out _, HB2.out⟩
  | true =>
  have HSP : Hid (schedP s D) := HR2.out.1 (by first | rfl | trivial)
  clear HR2
  by_cases h5 : nr ≤ 5
  case neg =>
    have hf : R = false := by cases R with | false => rfl | true => exact absurd (HRR.out.1 rfl).2.2 h5
    have HVX : Hid (V = none) := by show _ = _; rw [HV.out, hf]; rfl
    have g1 : decide ((5 : Int) < (nr : Int)) = true := decide_eq_true (by omega)
    have g1' : decide (5 < nr) = true := decide_eq_true (by omega)
    go_wp2
    go_ret3
    rw [HVX.out, hf]
    exact ⟨_, rfl, HNO.out _, HB2.out⟩
  have g1 : decide ((5 : Int) < (nr : Int)) = false := decide_eq_false (by omega)
  have g1' : decide (5 < nr) = false := decide_eq_false (by omega)
  have hf : R = true := HRR.out.2 ⟨HMP.out, HSP.out, h5⟩
  obtain ⟨n, rfl⟩ : ∃ n : Nat, s = n := ⟨s.toNat, by omega⟩
  have HMM : Hid (Metric n K) := by have h9 := HMP.out.metric; rw [Int.toNat_natCast] at h9; exact h9
  have HHH : Hid (hostsP n D) := hosts_of HSP.out
  have HVX : Hid (V = seekO nr (fun o => travT n K (reoL D o)) nr [] none) := by show _ = _; rw [HV.out, hf, if_pos rfl, Int.toNat_natCast]
  have CSE := Lib.hid (fun X => l11Search_spec w2 X n K D ka nk kc ra nr rc HMM.out HHH.out HS2.out.2 HRB.out HWT.out HNK.out HNR.out nr [] )
  have HFT := Lib.hid hf
  clear HRR HV hf HSP HMP
  obtain ⟨W3, hW3⟩ : ∃ W3, (w2.alloc (.cells #[.int .i64 n, .slice ka nk kc, .slice ra nr rc, .slice none 0 0, .int .i64 0, .bool false] 104)).alloc (.cells #[] 3) = W3 := ⟨_, rfl⟩
  have b0 : Below w2.heap.size w2 (w2.alloc (.cells #[.int .i64 n, .slice ka nk kc, .slice ra nr rc, .slice none 0 0, .int .i64 0, .bool false] 104)) := (Below.refl _ _).alloc (Nat.le_refl _) _
  have bx : BoxF (w2.alloc (.cells #[.int .i64 n, .slice ka nk kc, .slice ra nr rc, .slice none 0 0, .int .i64 0, .bool false] 104)) w2.heap.size [.int .i64 n, .slice ka nk kc, .slice ra nr rc, .slice none 0 0, .int .i64 0, .bool false] := BoxF.made (Below.refl _ _) rfl
  have bw : Below (w2.alloc (.cells #[.int .i64 n, .slice ka nk kc, .slice ra nr rc, .slice none 0 0, .int .i64 0, .bool false] 104)).heap.size (w2.alloc (.cells #[.int .i64 n, .slice ka nk kc, .slice ra nr rc, .slice none 0 0, .int .i64 0, .bool false] 104)) W3 := by rw [← hW3]; exact (Below.refl _ _).alloc (Nat.le_refl _) _
  have HS3 : Hid (SeekAt w2 W3 w2.heap.size n ka nk kc ra nr rc none) := ⟨Nat.le_refl _, b0.trans (bw.mono b0.size), .slice none 0 0, 0, false, bx.below bw, rfl, rfl, rfl⟩
  have hsz3 : W3.heap.size = w2.heap.size + 2 := by rw [← hW3]; simp
  have HSZ := Lib.hid hsz3
  have HIN : Hid (InW (w2.heap.size + 1) W3.heap.size (.slice (some ⟨w2.heap.size + 1, 0, none⟩) 0 0)) := fun k hk => by
    simp only [Value.ownBlock, Option.some.injEq] at hk
    subst hk
    rw [HSZ.out]
    omega
  have CSX := Lib.hid (CSE.out w2.heap.size (.slice (some ⟨w2.heap.size + 1, 0, none⟩) 0 0) none W3 (by simp) (fun i hi => absurd hi (Nat.not_lt_zero _)) HS3.out (.inl ⟨_, _, rfl, rfl⟩) HIN.out)
  rw [← HVX.out] at CSX
  clear b0 bx bw HS3 hsz3 HIN CSE HVX
  go_wp2_with fail
  clear hW3 c0 c1
  refine CSX.out.mono ?_
  rintro e w4 ⟨rfl, h4, t4⟩
  obtain ⟨_, hb4, bv, l, fl, hbx, hst⟩ := h4
  have HBW : Hid (Below w.heap.size w w4) := HB2.out.trans (hb4.mono HB2.out.size)
  have e3 := (hbx.2 3 _ rfl).1
  have e4 := (hbx.2 4 _ rfl).1
  have HST := Lib.hid hst
  have hs2 := HB2.out.size
  clear hb4 hbx hst t4
  go_wp2_with (go_quiet (fail))
  go_ret3
  rw [HFT.out]
  cases V with
  | none =>
    obtain ⟨rfl, rfl, rfl⟩ := HST.out
    exact ⟨.slice none 0 0, rfl, World.ownsRow_nil _ _ _ _, below_drewN HBW.out _⟩
  | some p =>
    obtain ⟨O, L⟩ := p
    obtain ⟨rfl, rfl, how⟩ := HST.out
    exact ⟨_, rfl, owns_drewN (owns_mono how (by omega)), below_drewN HBW.out _⟩
end Go.Proofs.Ytfkfolglfmmkoaa
set_option linter.unusedVariables false
namespace Go.Proofs.Ytfkfolglfmmkoaa
open Go.RowKit

theorem getI_at {O : List Int} {i : Nat} (h : i < O.length) : getI O i = O[i] := by unfold getI; rw [List.getD_eq_getElem?_getD, List.getElem?_eq_getElem h]; rfl
theorem pordP.nodup {n : Nat} {O : List Int} (h : pordP n O) : O.Nodup := by
  unfold List.Nodup
  rw [List.pairwise_iff_getElem]
  intro i j hi hj hij e
  have h9 := (h j hj).2
  rw [getI_at hj, ← e] at h9
  exact h9 (List.mem_iff_getElem.2 ⟨i, by rw [List.length_take]; omega, by rw [List.getElem_take]⟩)
theorem ordP.part {n : Nat} {O : List Int} (h : ordP n O) : pordP n O := fun i hi => h.2 i (by rw [← h.1]; exact hi)
theorem ordP.in {n : Nat} {O : List Int} (h : ordP n O) {x : Int} (hx : x ∈ O) : 0 ≤ x ∧ x ≤ (n : Int) - 1 := by
  obtain ⟨i, hi, rfl⟩ := List.mem_iff_getElem.1 hx
  have := (h.2 i (by rw [← h.1]; exact hi)).1
  rw [getI_at hi] at this
  exact this
theorem sum_below {f : Nat → Nat} : ∀ (n : Nat) (P : List Nat), P.Nodup → (∀ x ∈ P, x < n) → (P.map f).sum ≤ ((List.range n).map f).sum
  | 0, P, _, h => by
    cases P with
    | nil => exact Nat.le_refl _
    | cons a r => exact absurd (h a (List.mem_cons_self ..)) (Nat.not_lt_zero _)
  | n + 1, P, hn, h => by
    rw [List.range_succ, List.map_append, List.sum_append]
    by_cases hm : n ∈ P
    · have hp := List.perm_cons_erase hm
      have h1 : (P.map f).sum = f n + ((P.erase n).map f).sum := by rw [(hp.map f).sum_nat]; rfl
      have h2 := sum_below (f := f) n (P.erase n) (hn.erase n) (fun x hx => by
        have h3 := h x (List.mem_of_mem_erase hx)
        have h4 : x ≠ n := fun e => by subst e; exact (List.Nodup.not_mem_erase hn) hx
        omega)
      have h5 : (List.map f [n]).sum = f n := by simp
      omega
    · have h2 := sum_below (f := f) n P hn (fun x hx => by
        have h3 := h x hx
        have h4 : x ≠ n := fun e => by subst e; exact hm hx
        omega)
      omega
theorem sum_range_rd (D : List PairL) (f : PairL → Nat) : ((List.range (List.length (α := PairL) D)).map fun i => f (rdR D i)).sum = (List.map f D).sum := by
  congr 1
  apply List.ext_getElem?
  intro i
  rw [List.getElem?_map, List.getElem?_map]
  by_cases h : i < List.length (α := PairL) D
  · rw [List.getElem?_range h, List.getElem?_eq_getElem h]
    simp [rdR, h]
  · rw [List.getElem?_eq_none (by simpa using h), List.getElem?_eq_none (by omega)]
    rfl
theorem sum_reo {D : List PairL} {O : List Int} (h : ordP (List.length (α := PairL) D) O) (f : PairL → Nat) : (List.map f (reoL D O)).sum ≤ (List.map f D).sum := by
  have e : List.map f (reoL D O) = (O.map Int.toNat).map fun i => f (rdR D i) := by unfold reoL; rw [List.map_map, List.map_map]; rfl
  rw [e, ← sum_range_rd]
  refine sum_below _ _ ?_ fun x hx => ?_
  · have hn := h.part.nodup
    unfold List.Nodup at hn ⊢
    rw [List.pairwise_map]
    refine hn.imp_of_mem fun {a b} ha hb hab e => ?_
    have h1 := h.in ha
    have h2 := h.in hb
    omega
  · obtain ⟨y, hy, rfl⟩ := List.mem_map.1 hx
    have := h.in hy
    omega
theorem allO_mem {N : Nat} : ∀ (f : Nat) (o : List Int), pordP N o → o.length + f = N → ∀ O ∈ allO N f o, ordP N O ∧ O.take o.length = o
  | 0, o, hp, hl, O, hO => by
    unfold allO at hO
    rw [if_pos (by omega)] at hO
    rw [List.mem_singleton.1 hO]
    exact ⟨hp.full (by omega), List.take_length⟩
  | f + 1, o, hp, hl, O, hO => by
    rw [allO, if_neg (by omega)] at hO
    obtain ⟨i, hi, hO⟩ := List.mem_flatMap.1 hO
    have hi := List.mem_range.1 hi
    by_cases hm : (i : Int) ∈ o
    · rw [if_pos hm] at hO; cases hO
    · rw [if_neg hm] at hO
      obtain ⟨h1, h2⟩ := allO_mem f (o ++ [(i : Int)]) (hp.push hi hm) (by rw [List.length_append, List.length_singleton]; omega) O hO
      refine ⟨h1, ?_⟩
      have h3 : O.take o.length = (O.take (o ++ [(i : Int)]).length).take o.length := by rw [List.take_take, Nat.min_eq_left (by simp)]
      rw [h3, h2, List.take_left]
theorem allO_all {N : Nat} : ∀ (f : Nat) (o O : List Int), ordP N O → O.take o.length = o → o.length + f = N → O ∈ allO N f o
  | 0, o, O, hO, ht, hl => by
    unfold allO
    rw [if_pos (by omega)]
    rw [← ht, List.take_of_length_le (by have := hO.1; omega)]
    exact List.mem_singleton.2 rfl
  | f + 1, o, O, hO, ht, hl => by
    rw [allO, if_neg (by omega)]
    have hlt : o.length < O.length := by have := hO.1; omega
    have h9 := hO.2 o.length (by omega)
    have hq : ∃ q : Nat, getI O o.length = q := ⟨(getI O o.length).toNat, by omega⟩
    obtain ⟨q, hq⟩ := hq
    rw [hq, ht] at h9
    refine List.mem_flatMap.2 ⟨q, List.mem_range.2 (by omega), ?_⟩
    rw [if_neg h9.2]
    refine allO_all f _ O hO ?_ (by rw [List.length_append, List.length_singleton]; omega)
    rw [List.length_append, List.length_singleton, List.take_add_one, ht, List.getElem?_eq_getElem hlt]
    rw [getI_at hlt] at hq
    rw [hq]
    rfl
theorem fold_best (T : List Int → Int) : ∀ (S : List (List Int)) (O : List Int) (t : Int), ∃ O1 t1, S.foldl (betS T) (some (O, t)) = some (O1, t1) ∧ t1 ≤ t ∧ (∀ O' ∈ S, t1 ≤ T O') ∧ ((O1 = O ∧ t1 = t) ∨ (O1 ∈ S ∧ t1 = T O1 ∧ t1 < t))
  | [], O, t => ⟨O, t, rfl, Int.le_refl _, fun _ h => (by cases h), .inl ⟨rfl, rfl⟩⟩
  | a :: S, O, t => by
    by_cases h : T a < t
    · have e : betS T (some (O, t)) a = some (a, T a) := if_pos h
      obtain ⟨O1, t1, h1, h2, h3, h4⟩ := fold_best T S a (T a)
      refine ⟨O1, t1, by rw [List.foldl_cons, e]; exact h1, by omega, fun O' hO' => ?_, .inr ?_⟩
      · rcases List.mem_cons.1 hO' with rfl | hO'
        · exact h2
        · exact h3 O' hO'
      · rcases h4 with ⟨rfl, rfl⟩ | ⟨h5, h6, h7⟩
        · exact ⟨List.mem_cons_self .., rfl, h⟩
        · exact ⟨List.mem_cons_of_mem _ h5, h6, by omega⟩
    · have e : betS T (some (O, t)) a = some (O, t) := if_neg h
      obtain ⟨O1, t1, h1, h2, h3, h4⟩ := fold_best T S O t
      refine ⟨O1, t1, by rw [List.foldl_cons, e]; exact h1, h2, fun O' hO' => ?_, ?_⟩
      · rcases List.mem_cons.1 hO' with rfl | hO'
        · omega
        · exact h3 O' hO'
      · rcases h4 with h4 | ⟨h5, h6, h7⟩
        · exact .inl h4
        · exact .inr ⟨List.mem_cons_of_mem _ h5, h6, h7⟩
theorem ord_id (N : Nat) : ordP N ((List.range N).map fun (i : Nat) => (i : Int)) := by
  refine ⟨by simp, fun i hi => ?_⟩
  have e : getI ((List.range N).map fun (i : Nat) => (i : Int)) i = i := by rw [getI_at (by simpa using hi)]; simp
  rw [e]
  refine ⟨by omega, fun hm => ?_⟩
  rw [← List.map_take] at hm
  obtain ⟨j, hj, hji⟩ := List.mem_map.1 hm
  have h1 := List.mem_take_iff_getElem.1 hj
  obtain ⟨k, hk, hkj⟩ := h1
  rw [List.getElem_range] at hkj
  have : k < i := by omega
  omega
theorem bestO_is (N : Nat) (T : List Int → Int) : ∃ O, bestO N T = some (O, T O) ∧ ordP N O ∧ ∀ O', ordP N O' → T O ≤ T O' := by
  have hz : pordP N [] := fun i hi => absurd hi (Nat.not_lt_zero _)
  have hall : ∀ O', ordP N O' → O' ∈ allO N N [] := fun O' h => allO_all N [] O' h rfl (by simp)
  unfold bestO
  cases hS : allO N N [] with
  | nil => have := hall _ (ord_id N); rw [hS] at this; cases this
  | cons a S =>
    obtain ⟨O1, t1, h1, h2, h3, h4⟩ := fold_best T S a (T a)
    have hin : O1 ∈ allO N N [] := by
      rw [hS]
      rcases h4 with ⟨rfl, _⟩ | ⟨h5, _⟩
      · exact List.mem_cons_self ..
      · exact List.mem_cons_of_mem _ h5
    have ht : t1 = T O1 := by
      rcases h4 with ⟨rfl, rfl⟩ | ⟨_, h6, _⟩
      · rfl
      · exact h6
    refine ⟨O1, by rw [List.foldl_cons]; show S.foldl (betS T) (some (a, T a)) = _; rw [h1, ht], (allO_mem N [] hz (by simp) O1 hin).1, fun O' hO' => ?_⟩
    have h9 := hall O' hO'
    rw [hS] at h9
    rw [← ht]
    rcases List.mem_cons.1 h9 with rfl | h9
    · exact h2
    · exact h3 O' h9
theorem bestV_len {R : Bool} {s : Int} {K : List Int} {D : List PairL} : (((bestV R s K D).map Prod.fst).getD []).length ≤ List.length (α := PairL) D := by
  unfold bestV
  split
  · obtain ⟨O, h1, h2, _⟩ := bestO_is (List.length (α := PairL) D) (fun o => travT s.toNat K (reoL D o))
    rw [h1]
    exact Nat.le_of_eq h2.1
  · exact Nat.zero_le _
end Go.Proofs.Ytfkfolglfmmkoaa
set_option linter.unusedVariables false
namespace Go.Proofs.Ytfkfolglfmmkoaa
open Go.RowKit

def tIntS : Ty := tSl 3 tInt
theorem opens_IntS : Opens Try.prog 24 tIntS := opens_sl Try.underlying24 (by kernel_rfl) (opens_int Try.underlying3 (by kernel_rfl))
theorem cells_int {d : List Int} {i : Nat} (hi : i < d.length) : cellsAt (fun z : Int => [Value.int .i64 z]) d i = [.int .i64 (getI d i)] := by
  refine (cellsAt_lt (List.getElem?_eq_getElem hi)).trans ?_
  unfold getI; simp [hi]
theorem rd_IntS {w : World} {v : Value} {d : List Int} : RdA tIntS w [v] d ↔ IntRow w v d.length (getI d) := by
  have e := fun i (hi : i < d.length) => cells_int hi
  exact flat_int.rdA.trans ⟨fun h => RecRow.ints (RecRow.congr h e), fun h => RecRow.congr h.rec fun i hi => (e i hi).symm⟩
theorem rdN_IntS {w : World} {lo hi : Nat} {v : Value} {d : List Int} (h : IntRow w v d.length (getI d)) (hi2 : InW lo hi v) : RdN tIntS w lo hi [v] d :=
  flat_int.reads (flat_int.row (rd_IntS.2 h)) fun _ q hq => hi2 q hq
theorem own_ints {w : World} {lo hi : Nat} {v : Value} {d : List Int} (h : w.ownsRow lo 3 1 v d.length (d.map (Value.int .i64))) (h1 : ∀ q, v.ownBlock = some q → q < hi) (hh : hi ≤ w.heap.size) : OwN tIntS w lo hi [v] d :=
  flat_int.made h (rd_IntS.2 (IntRow.of_list h (owns_max h))) h1 hh
theorem IntsL.owN {w w' : World} {L : List Int} {e : Ending} (h : IntsL w L e w') : MadeT tIntS L w e w' := by
  obtain ⟨v, he, ho, hb⟩ := h
  exact ⟨v, he, own_ints ho (fun q hq => (ho.lt q hq).2) (Nat.le_refl _), hb⟩
theorem wt_IntS (d : List Int) : tIntS.wt d = d.length := by
  show d.length + (d.map fun _ => 0).sum = d.length
  have := sum_zero (f := fun _ : Int => 0) (fun _ => rfl) d
  omega
theorem mks_IntS (d : List Int) : tIntS.mks d = d.length := (sum_const (f := fun _ : Int => 1) (fun _ => rfl) d).trans (Nat.one_mul _)
theorem mkl_IntS (d : List Int) (k : Int) : List.length (α := Int) (tIntS.mkd k d) = d.length := mkList_len _ _ _ _
theorem mk_IntS (d : List Int) (k : Int) (i : Nat) (hi : i < d.length) : getI (tIntS.mkd k d) i = k + (i : Int) := by
  have h := mkList_get (mks := tInt.mks) (mkd := tInt.mkd) (m := 1) (fun _ => rfl) d k i
  have h2 : (mkList tInt.mks tInt.mkd k d)[i]? = some (k + ((1 : Nat) : Int) * i) := by
    rw [h]
    have : d[i]? = some d[i] := List.getElem?_eq_getElem hi
    exact congrArg (Option.map (tInt.mkd (k + ((1 : Nat) : Int) * i))) this
  unfold getI
  show List.getD (α := Int) (mkList tInt.mks tInt.mkd k d) i 0 = _
  refine (List.getD_eq_getElem?_getD (α := Int)).trans ?_
  refine (congrArg (fun o => Option.getD (α := Int) o 0) h2).trans ?_
  show k + ((1 : Nat) : Int) * i = _
  omega
theorem y_sz_IntS (v : Value) (d : List Int) (left : Int) (w : World) (hl0 : 0 ≤ left) (hl : left ≤ 1048576) (h : RdA tIntS w [v] d) : Calls Try.prog 66 #[v, .int .i64 left] w (SzT tIntS d left w) :=
  (x_sz_IntS v d.length (getI d) left w hl0 hl (rd_IntS.1 h)).mono fun e w' ⟨⟨r, he, hr⟩, hb⟩ => ⟨⟨r, he, by rw [wt_IntS]; exact hr⟩, hb⟩
theorem y_to_IntS (v : Value) (d : List Int) (w : World) (h : RdA tIntS w [v] d) (hw : tIntS.wt d ≤ 1048576) : Calls Try.prog 34 #[v] w (MadeT tIntS d w) :=
  (x_to_IntS v d.length (getI d) w (rd_IntS.1 h) (by rw [wt_IntS] at hw; exact hw)).mono fun e w' ⟨v', he, hr, ⟨xs, ho⟩, hb⟩ => ⟨v', he, flat_int.made ho (rd_IntS.2 hr) (fun q hq => (ho.lt q hq).2) (Nat.le_refl _), hb⟩
theorem y_eq_IntS (v v' : Value) (d : List Int) (w : World) (h : RdA tIntS w [v] d) (h' : RdA tIntS w [v'] d) : Calls Try.prog 35 #[v, v'] w fun e w' => e = .returned (.bool true) ∧ Below w.heap.size w w' :=
  x_eq_IntS v d.length (getI d) v' w (rd_IntS.1 h) (rd_IntS.1 h')
theorem y_mk_IntS (v : Value) (d : List Int) (k : Int) (lo hi : Nat) (w : World) (h : OwN tIntS w lo hi [v] d) (h0 : 0 < k) (hk : k + tIntS.mks d ≤ 1000000000000) : Calls Try.prog 37 #[v, .int .i64 k] w (MarkT tIntS [v] d k lo hi w) := by
  obtain ⟨⟨xs, ho, _⟩, hin⟩ := flat_int.owned h
  have hm := mks_IntS d
  have hm2 : k + (d.length : Int) ≤ 1000000000000 := by omega
  refine (x_mk_IntS v d.length k lo hi lo xs w ho hin h0 hm2).mono fun e w' ⟨he, hr, ht⟩ => ⟨by rw [he, hm], ?_, ht⟩
  refine rdN_IntS ?_ hin
  have h1 := (IntRow.rec hr).congr (g' := fun i => [Value.int .i64 (getI (tIntS.mkd k d) i)]) (fun i hi => by rw [mk_IntS d k i hi])
  have h2 := h1.ints
  rw [← mkl_IntS d k] at h2
  exact h2
theorem y_hd_IntS (v : Value) (d : List Int) (k : Int) (w : World) (h : RdA tIntS w [v] (tIntS.mkd k d)) (h0 : 0 < k) (hk : k + tIntS.mks d ≤ 1000000000000) : Calls Try.prog 41 #[v, .int .i64 k] w (HeldT tIntS d k w) := by
  have hm := mks_IntS d
  have hm2 : k + (d.length : Int) ≤ 1000000000000 := by omega
  have hr : IntRow w v (List.length (α := Int) (tIntS.mkd k d)) (getI (tIntS.mkd k d)) := rd_IntS.1 h
  rw [mkl_IntS d k] at hr
  exact (x_hd_IntS v d.length k w (hr.rec.congr (fun i hi => by rw [mk_IntS d k i hi])).ints h0 hm2).mono fun e w' ⟨he, hb⟩ => ⟨by rw [he, hm], hb⟩
theorem yb_mk_IntS (v : Value) (d : List Int) (k : Int) (lo : Nat) (bs : List Nat) (w : World) (h : tIntS.Ow w lo [v] d bs) (hnd : bs.Nodup) (h0 : 0 < k) (hk : k + tIntS.mks d ≤ 1000000000000) : Calls Try.prog 37 #[v, .int .i64 k] w (MarkC tIntS [v] (tIntS.mkd k d) (tIntS.mks d) k bs w) :=
  flat_mark flat_int h fun lo hi ho => y_mk_IntS v d k lo hi w ho h0 hk
end Go.Proofs.Ytfkfolglfmmkoaa
set_option linter.unusedVariables false
namespace Go.Proofs.Ytfkfolglfmmkoaa
open Go.RowKit

def tMap : Ty := tTwo tInt tIntS
theorem opens_Map : Opens Try.prog 40 tMap := opens_struct Try.underlying40 (by kernel_rfl) ⟨rfl, _, _, rfl, (opens_int Try.underlying3 (by kernel_rfl)), ⟨rfl, opens_IntS⟩⟩
set_option maxRecDepth 100000 in
set_option maxHeartbeats 2000000 in
theorem y_sz_Map (x_Size : Int) (vx_Km : Value) (d : tMap.D) (left : Int) (w : World) (hl0 : 0 ≤ left) (hl : left ≤ 1048576) (h : RdA tMap w [.int .i64 x_Size, vx_Km] d) : Calls Try.prog 22 #[.agg #[.int .i64 x_Size, vx_Km], .int .i64 left] w (SzT tMap d left w) := by
  have hwt : tMap.wt d = (tInt.wt d.1 + tIntS.wt d.2) := rfl
  have hz0 : tInt.wt d.1 = 0 := rfl
  have P0 : RdA tInt w [.int .i64 x_Size] d.1 := (rd_split h).1
  have Pt0 := (rd_split h).2
  have P1 : RdA tIntS w [vx_Km] d.2 := Pt0
  clear Pt0
  have HP1 := Lib.hid P1
  obtain ⟨W1, hW1⟩ : ∃ z, tIntS.wt d.2 = z := ⟨_, rfl⟩
  unfold SzT
  rw [hwt]
  rw [hz0]
  clear hwt h P0 P1 hz0
  have HB0 : Hid (Below w.heap.size w (w.alloc (.cells #[.int .i64 x_Size, vx_Km] 40))) := (Below.refl _ _).alloc (Nat.le_refl _) _
  have BX0 : Hid (BoxN (w.alloc (.cells #[.int .i64 x_Size, vx_Km] 40)) w.heap.size [.int .i64 x_Size, vx_Km]) := BoxN.made (Below.refl _ _) rfl
  have c0 := BX0.out.2 0 _ rfl
  have c1 := BX0.out.2 1 _ rfl
  go_enter Try.func22, Try.ntmps22
  go_wp2_with fail
  refine (y_sz_IntS vx_Km d.2 left _ (by omega) (by omega) (RdA.below HP1.out HB0.out)).mono ?_
  rintro e w1 ⟨⟨r1, rfl, hr1⟩, b1⟩
  rw [hW1] at hr1
  have HB1 := Lib.hid (HB0.out.trans (b1.mono HB0.out.size))
  have BX1 := Lib.hid (BX0.out.below b1)
  clear c0 c1 BX0 b1
  have c0 := BX1.out.2 0 _ rfl
  have c1 := BX1.out.2 1 _ rfl
  by_cases hn1 : r1 < 0
  · have g2 : decide (r1 < 0) = true := decide_eq_true hn1
    have HE := Lib.hid HB1.out
    clear hr1
    go_wp2
    go_ret
    exact ⟨⟨-1, rfl, .inl (by omega)⟩, HE.out⟩
  have g1 : decide (r1 < 0) = false := decide_eq_false hn1
  replace hn1 : 0 ≤ r1 ∧ (W1 : Int) + r1 = left := by omega
  clear hr1
  have HE := Lib.hid HB1.out
  go_wp2
  go_ret
  refine ⟨⟨_, rfl, .inr ⟨by omega, ?_⟩⟩, HE.out⟩
  rw [hW1]
  omega
set_option maxRecDepth 100000 in
set_option maxHeartbeats 2000000 in
theorem y_eq_Map (x_Size : Int) (vx_Km : Value) (vx_Km' : Value) (d : tMap.D) (w : World) (h : RdA tMap w [.int .i64 x_Size, vx_Km] d) (h' : RdA tMap w [.int .i64 x_Size, vx_Km'] d) : Calls Try.prog 25 #[.agg #[.int .i64 x_Size, vx_Km], .agg #[.int .i64 x_Size, vx_Km']] w fun e w' => e = .returned (.bool true) ∧ Below w.heap.size w w' := by
  have P0 : RdA tInt w [.int .i64 x_Size] d.1 := (rd_split h).1
  have Pt0 := (rd_split h).2
  have P1 : RdA tIntS w [vx_Km] d.2 := Pt0
  clear Pt0
  have Q0 : RdA tInt w [.int .i64 x_Size] d.1 := (rd_split h').1
  have Qt0 := (rd_split h').2
  have Q1 : RdA tIntS w [vx_Km'] d.2 := Qt0
  clear Qt0
  have HP1 := Lib.hid P1
  have HQ1 := Lib.hid Q1
  have HB0 : Hid (Below w.heap.size w ((w.alloc (.cells #[.int .i64 x_Size, vx_Km] 26)).alloc (.cells #[.int .i64 x_Size, vx_Km'] 26))) := ((Below.refl _ _).alloc (Nat.le_refl _) _).alloc (by simp) _
  have BX0 : Hid (BoxN ((w.alloc (.cells #[.int .i64 x_Size, vx_Km] 26)).alloc (.cells #[.int .i64 x_Size, vx_Km'] 26)) w.heap.size [.int .i64 x_Size, vx_Km]) := BoxN.below (BoxN.made (Below.refl _ _) rfl) ((Below.refl _ _).alloc (Nat.le_refl _) _)
  have BY0 : Hid (BoxN ((w.alloc (.cells #[.int .i64 x_Size, vx_Km] 26)).alloc (.cells #[.int .i64 x_Size, vx_Km'] 26)) (w.heap.size + 1) [.int .i64 x_Size, vx_Km']) := BoxN.made (Below.refl _ _) (by simp)
  clear h h' P0 Q0 P1 Q1
  have c0 := BX0.out.2 0 _ rfl
  have c1 := BX0.out.2 1 _ rfl
  have e0 := BY0.out.2 0 _ rfl
  have e1 := BY0.out.2 1 _ rfl
  have bl := BX0.out.1
  have bm := BY0.out.1
  go_enter Try.func25, Try.ntmps25
  go_wp2_with fail
  refine (y_eq_IntS vx_Km vx_Km' d.2 _ (RdA.below HP1.out HB0.out) (RdA.below HQ1.out HB0.out)).mono ?_
  rintro e w1 ⟨rfl, b1⟩
  have HB1 := Lib.hid (HB0.out.trans (b1.mono HB0.out.size))
  have BX1 := Lib.hid (BX0.out.below b1)
  have BY1 := Lib.hid (BY0.out.below b1)
  clear c0 c1 e0 e1 bl bm BX0 BY0 b1
  have c0 := BX1.out.2 0 _ rfl
  have c1 := BX1.out.2 1 _ rfl
  have e0 := BY1.out.2 0 _ rfl
  have e1 := BY1.out.2 1 _ rfl
  have bl := BX1.out.1
  have bm := BY1.out.1
  have HE := Lib.hid HB1.out
  go_wp2
  go_ret
  exact ⟨rfl, HE.out⟩
set_option maxRecDepth 100000 in
set_option maxHeartbeats 4000000 in
theorem y_to_Map (x_Size : Int) (vx_Km : Value) (d : tMap.D) (w : World) (h : RdA tMap w [.int .i64 x_Size, vx_Km] d) (hw : tMap.wt d ≤ 1048576) : Calls Try.prog 24 #[.agg #[.int .i64 x_Size, vx_Km]] w (fun e w' => ∃ vx_Km' : Value, e = .returned (.agg #[.int .i64 x_Size, vx_Km']) ∧ OwN tMap w' w.heap.size w'.heap.size [.int .i64 x_Size, vx_Km'] d ∧ Below w.heap.size w w') := by
  have P0 : RdA tInt w [.int .i64 x_Size] d.1 := (rd_split h).1
  have Pt0 := (rd_split h).2
  have P1 : RdA tIntS w [vx_Km] d.2 := Pt0
  clear Pt0
  have HP0 := Lib.hid P0
  have HP1 := Lib.hid P1
  have hwt : tMap.wt d = (tInt.wt d.1 + tIntS.wt d.2) := rfl
  rw [hwt] at hw
  have hw1 : tIntS.wt d.2 ≤ 1048576 := by omega
  have HW1 := Lib.hid hw1
  clear hw hwt hw1
  have HB0 : Hid (Below w.heap.size w (((w.alloc (.cells #[.int .i64 x_Size, vx_Km] 40)).alloc (.cells #[.int .i64 0, .slice none 0 0] 26)).alloc (.cells #[.int .i64 x_Size, .slice none 0 0] 26))) := (((Below.refl _ _).alloc (Nat.le_refl _) _).alloc (by simp) _).alloc (by simp <;> omega) _
  have BX0 : Hid (BoxN (((w.alloc (.cells #[.int .i64 x_Size, vx_Km] 40)).alloc (.cells #[.int .i64 0, .slice none 0 0] 26)).alloc (.cells #[.int .i64 x_Size, .slice none 0 0] 26)) w.heap.size [.int .i64 x_Size, vx_Km]) := BoxN.below (BoxN.below (BoxN.made (Below.refl _ _) rfl) ((Below.refl _ _).alloc (Nat.le_refl _) _)) ((Below.refl _ _).alloc (Nat.le_refl _) _)
  have RS0 : Hid (ResAt (((w.alloc (.cells #[.int .i64 x_Size, vx_Km] 40)).alloc (.cells #[.int .i64 0, .slice none 0 0] 26)).alloc (.cells #[.int .i64 x_Size, .slice none 0 0] 26)) (w.heap.size + 1) 2) := ResAt.below (ResAt.made' (by simp) rfl) ((Below.refl _ _).alloc (Nat.le_refl _) _)
  have BO0 : Hid (BoxF (((w.alloc (.cells #[.int .i64 x_Size, vx_Km] 40)).alloc (.cells #[.int .i64 0, .slice none 0 0] 26)).alloc (.cells #[.int .i64 x_Size, .slice none 0 0] 26)) (w.heap.size + 2) [.int .i64 x_Size, .slice none 0 0]) := BoxF.made (Below.refl _ _) (by simp)
  clear h P0 P1
  have c0 := BX0.out.2 0 _ rfl
  have c1 := BX0.out.2 1 _ rfl
  have o0 := BO0.out.2 0 _ rfl
  have o1 := BO0.out.2 1 _ rfl
  have bl := BX0.out.1
  have bm := BO0.out.1
  have bn := RS0.out.lt
  obtain ⟨⟨z0, q0⟩, y0⟩ := RS0.out.at 0 (by omega)
  obtain ⟨⟨z1, q1⟩, y1⟩ := RS0.out.at 1 (by omega)
  go_enter Try.func24, Try.ntmps24
  go_wp2_with fail
  clear c0 o0 q0 y0 c1 o1 q1 y1 bl bm bn
  refine (y_to_IntS vx_Km d.2 _ (RdA.below HP1.out HB0.out) HW1.out).mono ?_
  rintro e w1 ⟨u1_0, rfl, ho1, b1⟩
  have hs1 := b1.size
  have hS1 : w.heap.size + 3 ≤ w1.heap.size := by simp at hs1; omega
  have HBc1 := Lib.hid (HB0.out.trans (b1.mono HB0.out.size))
  have BXc1 := Lib.hid (BX0.out.below b1)
  have RSc1 := Lib.hid (RS0.out.below b1)
  have BOc1 := Lib.hid (BO0.out.below b1)
  have O1_c1 := Lib.hid (ho1.mono (lo' := w.heap.size + 3) (hi' := w1.heap.size) (by simp) (Nat.le_refl _) (Nat.le_refl _))
  clear HB0 BX0 RS0 BO0 hs1 b1 ho1
  obtain ⟨au1_0, nu1_0, ku1_0, hu1_0⟩ := rd_slice O1_c1.out.rd
  subst hu1_0
  have c0 := BXc1.out.2 0 _ rfl
  have c1 := BXc1.out.2 1 _ rfl
  have o0 := BOc1.out.2 0 _ rfl
  have o1 := BOc1.out.2 1 _ rfl
  have bl := BXc1.out.1
  have bm := BOc1.out.1
  have bn := RSc1.out.lt
  obtain ⟨⟨z0, q0⟩, y0⟩ := RSc1.out.at 0 (by omega)
  obtain ⟨⟨z1, q1⟩, y1⟩ := RSc1.out.at 1 (by omega)
  go_wp2
  (try simp only [Exit.inBlock, Exit.then])
  refine post_named fun w99 hw99 => ?_
  clear c0 o0 q0 y0 c1 o1 q1 y1 bl bm bn
  have HBs1 := Lib.hid (HBc1.out.setCell (p := ⟨w.heap.size + 2, 1, none⟩) (by simp) (.slice au1_0 nu1_0 ku1_0))
  have BXs1 := Lib.hid (BXc1.out.elsewhere (D := w.heap.size + 2) 1 (.slice au1_0 nu1_0 ku1_0) (by omega))
  have RSs1 := Lib.hid (RSc1.out.elsewhere (D := w.heap.size + 2) 1 (.slice au1_0 nu1_0 ku1_0) (by omega))
  have BOs1 := Lib.hid (BOc1.out.set 1 (.slice au1_0 nu1_0 ku1_0) (by simp))
  have O1_s1 := Lib.hid (O1_c1.out.touch ((Touch.refl (w.heap.size + 2) (w.heap.size + 3) _).setCell ⟨w.heap.size + 2, 1, none⟩ (.slice au1_0 nu1_0 ku1_0) (by simp) (by simp)) (.inr (by omega)))
  clear HBc1 BXc1 RSc1 BOc1 O1_c1
  have HX9 := RSs1.out.put (vs := [.int .i64 x_Size, .slice au1_0 nu1_0 ku1_0]) rfl
  have HB9 := Below.putCs (C := w.heap.size) (B := w.heap.size + 1) (by omega) [.int .i64 x_Size, .slice au1_0 nu1_0 ku1_0] 0 _ _ HBs1.out
  have O1_9 := O1_s1.out.touch (Touch.putCs (lo := w.heap.size + 1) (hi := w.heap.size + 2) (B := w.heap.size + 1) (by omega) (by omega) [.int .i64 x_Size, .slice au1_0 nu1_0 ku1_0] 0 _ _ (Touch.refl _ _ _)) (.inr (by omega))
  have e99 : w99 = putCs _ (w.heap.size + 1) 0 [.int .i64 x_Size, .slice au1_0 nu1_0 ku1_0] := hw99.out
  rw [← e99] at HX9 HB9 O1_9
  clear hw99 e99
  have h9 : w1.heap.size ≤ w99.heap.size := O1_9.hi_le
  have HD : OwN tMap w99 (w.heap.size + 3) w1.heap.size [.int .i64 x_Size, .slice au1_0 nu1_0 ku1_0] (x_Size, d.2) := (OwN.two (OwN.int w99 x_Size (lo := w.heap.size + 3) (hi := w.heap.size + 3) (by omega)) O1_9 (by omega) (by omega))
  have hd0 : d.1 = x_Size := scalar_int HP0.out
  have hdd : ((x_Size, d.2) : tMap.D) = d := by
    rw [← hd0]
    rfl
  rw [hdd] at HD
  have HD9 := Lib.hid (HD.mono (lo' := w.heap.size) (hi' := w99.heap.size) (by omega) h9 (Nat.le_refl _))
  have HB99 := Lib.hid HB9
  have HX99 := Lib.hid HX9
  clear HB9 HX9 HD hdd hd0
  have x0 := (HX99.out.2 0 _ rfl).1
  have x1 := (HX99.out.2 1 _ rfl).1
  have x_lt := HX99.out.1
  refine bodyPost_ret (v := .agg #[.int .i64 x_Size, .slice au1_0 nu1_0 ku1_0]) ?_ rfl ⟨.slice au1_0 nu1_0 ku1_0, rfl, HD9.out, HB99.out⟩
  rw [results_cell rfl]
  go_simp
def cnt_Map (d : tMap.D) : Nat := (0 + tIntS.mks d.2)
def top_Map (k : Int) (d : tMap.D) : tMap.D := (d.1, tIntS.mkd (k) d.2)
set_option maxRecDepth 100000 in
set_option maxHeartbeats 2000000 in
theorem yb_mk_Map (x_Size : Int) (vx_Km : Value) (d : tMap.D) (k : Int) (lo : Nat) (bs : List Nat) (w : World) (h : tMap.Ow w lo [.int .i64 x_Size, vx_Km] d bs) (hnd : bs.Nodup) (h0 : 0 < k) (hk : k + cnt_Map d ≤ 1000000000000) : Calls Try.prog 40 #[.agg #[.int .i64 x_Size, vx_Km], .int .i64 k] w (MarkC tMap [.int .i64 x_Size, vx_Km] (top_Map k d) (cnt_Map d) k bs w) := by
  obtain ⟨b0, b1, hbs0, p0, ht0⟩ := ow_split h
  have P0 : tInt.Ow w lo [.int .i64 x_Size] d.1 b0 := p0
  clear p0
  have P1 : tIntS.Ow w lo [vx_Km] d.2 b1 := ht0
  subst hbs0
  have HP0 := Lib.hid P0
  have HP1 := Lib.hid P1
  have HLT := Lib.hid (tMap.ow_lt h)
  have HMEM1 : Hid (∀ q, q ∈ b1 → q ∈ b0 ++ (b1)) := fun q hq => by simp only [List.mem_append]; simp [hq]
  have ND1 : Hid (b1.Nodup) := by
    have h7 := hnd
    simp only [List.nodup_append] at h7
    exact h7.2.1
  have hc : cnt_Map d = (0 + tIntS.mks d.2) := rfl
  unfold MarkC
  rw [hc]
  rw [hc] at hk
  obtain ⟨N1, hN1⟩ : ∃ z, tIntS.mks d.2 = z := ⟨_, rfl⟩
  have HN1 := Lib.hid hN1
  rw [hN1] at hk
  rw [hN1]
  have HE0 : Hid (KeepB (b0 ++ (b1)) w (w.alloc (.cells #[.int .i64 x_Size, vx_Km] 26))) := KeepB.of_below ((Below.refl _ _).alloc (Nat.le_refl _) _)
  have BX0 : Hid (BoxN (w.alloc (.cells #[.int .i64 x_Size, vx_Km] 26)) w.heap.size [.int .i64 x_Size, vx_Km]) := BoxN.made (Below.refl _ _) rfl
  have Q1_0 := Lib.hid (KeepB.ow (bs := []) HP1.out (KeepB.of_below ((Below.refl _ _).alloc (Nat.le_refl _) (.cells #[.int .i64 x_Size, vx_Km] 26))) (fun q _ hq => by cases hq))
  clear hc h hnd P0 P1 hN1
  have c0 := BX0.out.2 0 _ rfl
  have c1 := BX0.out.2 1 _ rfl
  have bl := BX0.out.1
  go_enter Try.func40, Try.ntmps40
  go_wp2_with fail
  refine (yb_mk_IntS vx_Km d.2 (k) lo b1 _ Q1_0.out ND1.out (by omega) (by have := HN1.out; omega)).mono ?_
  rintro e w1 ⟨rfl, hr1, hk1⟩
  have HR1_1 := Lib.hid hr1
  have HE1 := Lib.hid (KeepB.mono (KeepB.trans HE0.out hk1) (b2 := b0 ++ (b1)) (fun q hq => (List.mem_append.1 hq).elim id (HMEM1.out q)))
  have BX1 := Lib.hid (KeepB.box BX0.out hk1 (fun hq => by have := (HLT.out _ (HMEM1.out _ hq)).2; omega))
  rw [HN1.out]
  clear c0 c1 bl BX0 hr1 hk1 HE0 Q1_0
  have c0 := BX1.out.2 0 _ rfl
  have c1 := BX1.out.2 1 _ rfl
  have bl := BX1.out.1
  have HRR : Hid (tMap.Rd w1 (fun q => q ∈ b0 ++ (b1)) [.int .i64 x_Size, vx_Km] (top_Map k d)) := by
    unfold top_Map
    exact ⟨[.int .i64 x_Size], _, rfl, (scal_int HP0.out), (tIntS.rd_mono HR1_1.out HMEM1.out)⟩
  have HEE := Lib.hid HE1.out
  go_wp2
  go_ret
  exact ⟨ret_int (by omega), HRR.out, HEE.out⟩
theorem form_Map {w : World} {B : Nat → Prop} {cs : List Value} {d : tMap.D} (h : tMap.Rd w B cs d) : ∃ (x_Size : Int) (vx_Km : Value), cs = [.int .i64 x_Size, vx_Km] := by
  obtain ⟨c0, r0, e0, h0, t0⟩ := h
  have g0 : c0 = [.int .i64 d.1] := h0
  have h1 := t0
  obtain ⟨vx_Km, _, g1, _⟩ := h1
  exact ⟨d.1, vx_Km, by rw [e0, g0, g1]; rfl⟩
theorem cntle_Map (d : tMap.D) : cnt_Map d ≤ tMap.mks d := by
  have e1 : cnt_Map d = (0 + tIntS.mks d.2) := rfl
  have e2 : tMap.mks d = (tInt.mks d.1 + tIntS.mks d.2) := rfl
  rw [e1, e2]
  omega
end Go.Proofs.Ytfkfolglfmmkoaa
set_option linter.unusedVariables false
namespace Go.Proofs.Ytfkfolglfmmkoaa
open Go.RowKit

def turnN (x m : Int) : Int := (x.tmod m + m).tmod m
theorem turn_in {x m : Int} (h : 0 < m) : 0 ≤ turnN x m ∧ turnN x m < m := by
  have h1 := Int.lt_tmod_of_pos x h
  have h2 : 0 ≤ x.tmod m + m := by omega
  exact ⟨Int.tmod_nonneg _ h2, Int.tmod_lt_of_pos _ h⟩
def aK (m r k : Nat) : Int := if k = 0 then (m : Int) - 1 else turnN ((r : Int) + k) ((m : Int) - 1)
def bK (m r k : Nat) : Int := turnN ((r : Int) - k) ((m : Int) - 1)
def swapK (r k : Nat) : Prop := (k = 0 ∧ r % 2 = 1) ∨ (0 < k ∧ k % 2 = 0)
instance (r k : Nat) : Decidable (swapK r k) := by unfold swapK; infer_instance
def pairK (m r k : Nat) : tPair.D := if swapK r k then mkP (bK m r k) (aK m r k) else mkP (aK m r k) (bK m r k)
def circK (n m r : Nat) : Nat → PairL
  | 0 => []
  | k + 1 => if (n : Int) ≤ aK m r k ∨ (n : Int) ≤ bK m r k then circK n m r k else circK n m r k ++ [pairK m r k]
def circN (n m : Nat) : Nat → List PairL
  | 0 => []
  | r + 1 => circN n m r ++ [circK n m r (m / 2)]
def circL (n : Nat) : List PairL := circN n (n + n % 2) (n + n % 2 - 1)
def circR (R : Bool) (N : Int) : List PairL := if R = true then circL N.toNat else []
theorem circK_len (n m r : Nat) : ∀ k, List.length (α := tPair.D) (circK n m r k) ≤ k
  | 0 => Nat.le_refl _
  | k + 1 => by
    have h := circK_len n m r k
    show List.length (α := tPair.D) (if _ then _ else _) ≤ _
    split
    · omega
    · rw [List.length_append]; show _ + 1 ≤ _; omega
theorem circN_len (n m : Nat) : ∀ k, List.length (α := PairL) (circN n m k) = k
  | 0 => rfl
  | k + 1 => by show List.length (α := PairL) (_ ++ [_]) = _; rw [List.length_append, circN_len n m k]; rfl
end Go.Proofs.Ytfkfolglfmmkoaa
