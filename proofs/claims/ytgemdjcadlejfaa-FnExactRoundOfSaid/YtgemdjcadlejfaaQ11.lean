/-
  Packed: Rounds5, MirFacts, MirImpl, Circle.
-/
import Derived.BigRegion
import Derived.Deep.RegionHeld3
import Derived.Test.YtgemdjcadlejfaaQ5
import Derived.Test.YtgemdjcadlejfaaQ6
import Derived.Test.YtgemdjcadlejfaaQ10
set_option linter.unusedVariables false
namespace Go.Proofs.Ytgemdjcadlejfaa
open Go.RowKit

def pcell (p : tPair.D) : List Value := [.int .i64 (hm p), .int .i64 (aw p)]
def pcells (T : PairL) : List Value := T.flatMap pcell
theorem pcells_push (T : PairL) (p : tPair.D) : pcells (T ++ [p]) = pcells T ++ pcell p := by unfold pcells; rw [List.flatMap_append]; simp
theorem pcells_rec : ∀ T : PairL, RecCells 2 (List.length (α := tPair.D) T) (pcells T) fun i => (atPair T i).cells
  | [], i, hi, _, _, _ => absurd hi (Nat.not_lt_zero _)
  | p :: T, 0, _, j, u, hu => by
    have hu2 : ([.int .i64 (hm p), .int .i64 (aw p)] : List Value)[j]? = some u := hu
    match j, hu2 with
    | 0, h => simpa [pcells, pcell] using h
    | 1, h => simpa [pcells, pcell] using h
    | n + 2, h => simp at h
  | p :: T, i + 1, hi, j, u, hu => by
    have h := pcells_rec T i (Nat.lt_of_succ_lt_succ hi) j u hu
    show (Value.int .i64 (hm p) :: Value.int .i64 (aw p) :: pcells T)[(i + 1) * 2 + j]? = _
    rw [show (i + 1) * 2 + j = (i * 2 + j) + 1 + 1 by omega]
    simpa using h
theorem own_pairs {w : World} {B : Nat} {v : Value} {T : PairL} (h : w.ownsRow B 38 2 v (List.length (α := tPair.D) T) (pcells T)) (hn : List.length (α := tPair.D) T ≤ 9223372036854775807) : OwN tPairS w B w.heap.size [v] T :=
  own_PairS h (PairRow.of_owns h hn (pcells_rec T)) (fun q hq => (h.lt q hq).2) (Nat.le_refl _)
theorem pairs_flat (r : PairL) : flatR (fun i => (atPair r i).cells) (List.length (α := tPair.D) r) = pcells r := by
  have key : ∀ (A B : List Value) (n : Nat) (g : Nat → List Value), A.length = n * 2 → B.length = n * 2 → RecCells 2 n A g → RecCells 2 n B g → (∀ i, i < n → (g i).length = 2) → A = B := by
    intro A B n g ha hb h1 h2 hg
    apply List.ext_getElem?
    intro q
    by_cases hq : q < n * 2
    · have hi : q / 2 < n := by omega
      have hl := hg _ hi
      have e : q / 2 * 2 + q % 2 = q := by omega
      have hu := List.getElem?_eq_getElem (l := g (q / 2)) (i := q % 2) (by omega)
      have a1 := h1 _ hi _ _ hu
      have a2 := h2 _ hi _ _ hu
      rw [e] at a1 a2
      rw [a1, a2]
    · rw [List.getElem?_eq_none (by omega), List.getElem?_eq_none (by omega)]
  have hlp : ∀ T : PairL, (pcells T).length = List.length (α := tPair.D) T * 2 := by
    intro T
    induction T with
    | nil => rfl
    | cons p T ih =>
      have k : ∀ A B : Nat, A = B * 2 → A + 1 + 1 = (B + 1) * 2 := by omega
      exact k _ _ ih
  exact key _ _ _ _ (flatR_len 2 _ _ fun _ _ => rfl) (hlp r) (flatR_cells 2 _ _ fun _ _ => rfl) (pcells_rec r) fun _ _ => rfl
theorem at_slice {w : World} {gg n c : Nat} {v : Value} (h : v.ownBlock = some gg ∨ w.heap.size ≤ gg) : ∀ q, (Value.slice (some ⟨gg, 0, none⟩) n c).ownBlock = some q → v.ownBlock = some q ∨ w.heap.size ≤ q := fun q hq => by
  have hq' : gg = q := by simpa [Value.ownBlock] using hq
  subst hq'
  exact h
def mkP (h a : Int) : tPair.D := (h, a)
def turnR (r : PairL) : PairL := r.map fun p => mkP (aw p) (hm p)
def mirL (d : List PairL) : List PairL := d ++ d.map turnR
set_option maxRecDepth 100000 in
set_option maxHeartbeats 4000000 in
theorem mirrorRounds_spec (v : Value) (d : List PairL) (w : World) (h : RdA tPairSS w [v] d) (hw : tPairSS.wt d ≤ 1048576) :
    Calls Try.prog 28 #[v] w (MadeT tPairSS (mirL d) w) := by
  obtain ⟨i0, hi, hz0, hz1, hz2⟩ := info_parts Try.infoPair
  obtain ⟨s0, si, sz0, sz1, sz2⟩ := info_parts Try.infoPairSS
  have hdl : List.length (α := PairL) d ≤ 1048576 := by have e : tPairSS.wt d = List.length (α := PairL) d + (d.map tPairS.wt).sum := rfl; omega
  obtain ⟨a, c, rfl, hn⟩ := schedule_form h
  have HR := Lib.hid h
  clear h
  obtain ⟨n, hd⟩ : ∃ n, List.length (α := PairL) d = n := ⟨_, rfl⟩
  have HD := Lib.hid hd
  rw [hd] at hn ⊢
  clear hd
  rw [HD.out] at hdl
  have HWT : Hid (∀ k r, d[k]? = some r → List.length (α := tPair.D) r ≤ 1048576) := fun k r hr => by
    have h1 := take_sum (f := tPairS.wt) hr
    have h2 := take_sum_le (f := tPairS.wt) (L := d) (k + 1)
    have h3 : tPairSS.wt d = List.length (α := PairL) d + (d.map tPairS.wt).sum := rfl
    have h4 := wt_PairS r
    omega
  clear hw
  have ON : Hid (RowsAp 30 tPairS (w.alloc (.cells #[] 30)) w.heap.size (.slice (some ⟨w.heap.size, 0, none⟩) 0 0) [] []) := RowsAp.nil (World.ownsRow_lit (e := 30) (size := 1) w #[] 0 (Nat.le_refl _) (by decide) rfl)
  have HB0 : Hid (Below w.heap.size w (w.alloc (.cells #[] 30))) := (Below.refl _ _).alloc (Nat.le_refl _) _
  go_enter Try.func28, Try.ntmps28
  go_wp2
  go_loopw [3, 14] (fun ov iv wr => ∃ (k : Nat) (D : List PairL) (xs : List Value), k ≤ n ∧ iv = .int .i64 k ∧ List.length (α := PairL) D = k ∧ Hid (D = d.take k) ∧ Hid (RowsAp 30 tPairS wr w.heap.size ov D xs) ∧ Hid (Below w.heap.size w wr)) (fun _ iv _ => n - (RowKit.intOf iv).toNat)
  case atStart => exact ⟨0, [], [], Nat.zero_le _, rfl, rfl, rfl, ON, HB0⟩
  case round =>
    clear ON HB0
    obtain ⟨k, D, xs, hk9, rfl, hDk, HDD, HA, HB⟩ := hrel
    obtain ⟨oa, oc, hof⟩ := owns_form HA.out.1
    subst hof
    skip
    by_cases hlt : k < n
    · obtain ⟨r, hr⟩ : ∃ r : PairL, d[k]? = some r := ⟨_, List.getElem?_eq_getElem (by rw [HD.out]; exact hlt)⟩
      obtain ⟨b, off, x, xc, rfl, hcap, q00, hrr, hm63⟩ := round_cells HR.out hr
      have q0 := (HB.out.cell (p := ⟨b, off + k, none⟩) (World.block_lt_of_cell? w _ q00)).trans q00
      rw [HD.out] at hcap
      have hj1 : (k : Int) < (n : Int) := by omega
      have HRW := Lib.hid hrr
      obtain ⟨m, hm⟩ : ∃ m, List.length (α := tPair.D) r = m := ⟨_, rfl⟩
      have HM := Lib.hid hm
      rw [hm] at q0 hm63
      clear hm hrr q00
      have hm6 : m ≤ 1048576 := by have h9 := HWT.out k r hr; rw [HM.out] at h9; exact h9
      have HTK : Hid (D ++ [r] = d.take (k + 1)) := by show _ = _; rw [HDD.out, List.take_add_one, hr]; rfl
      have HPR : Hid (PairRow wr (.slice x m xc) m (atPair r)) := by have h9 := rd_PairS.1 (HRW.out.below HB.out); rw [HM.out] at h9; exact h9
      clear hr HDD
      have hs0 := HB.out.size
      have hD6 : List.length (α := PairL) D ≤ 1048576 := by omega
      have hD7 : List.length (α := tPairS.D) D ≤ 1048576 := hD6
      go_wp2_with (first | (at_builtin; refine wpList_cloneR rfl (.tmp 19) (.tmp 20) 30 rfl 38 Try.underlying30 hi hz0 hz1 hz2 rfl (by decide) (by simp [go_sem]) rfl HPR.out (fun i hi => rfl) (fun i hi u hu => by simp [PairD.cells] at hu; rcases hu with rfl | rfl <;> rfl) (by omega) (by omega) ?_; intro vv w3 o3 b3; obtain ⟨ya, yc, hvf⟩ := owns_form o3; subst hvf; have OR3 := Lib.hid o3; have B3 := Lib.hid b3; have hs3 : w.heap.size ≤ w3.heap.size := Nat.le_trans hs0 b3.size; have HOO := Lib.hid (owns_below HA.out.1 b3 (Nat.le_refl _)); clear o3 b3 HPR) | (at_builtin; refine wpList_pushL rfl (.tmp 18) (.tmp 22) 24 rfl w.heap.size 30 Try.underlying24 si sz0 sz1 sz2 rfl (by decide) [.slice ya m yc] rfl (by intro u hu; simp at hu; subst hu; rfl) rfl (by show Value.slice (some ⟨_, 0, none⟩) 1 1 = _; simp) HOO.out (by unfold maxLen; exact Nat.le_trans (Nat.succ_le_succ hD7) (by decide)) (Nat.le_trans (Nat.mul_le_mul_right _ (Nat.succ_le_succ hD7)) (by decide)) hs3 ?_; intro gg5 cc5 w5 o5 g5 at5 lt5; have O5 := Lib.hid o5; have G5 := Lib.hid g5; have A5 := Lib.hid at5; clear o5 g5 at5 lt5))
      have HOW : Hid (OwN tPairS w3 wr.heap.size w3.heap.size [.slice ya m yc] r) := by
        have h9 := OR3.out
        rw [← HM.out, pairs_flat] at h9
        have h8 := own_pairs h9 (by rw [HM.out]; omega)
        rw [HM.out] at h8
        exact h8
      have HAN : Hid (RowsAp 30 tPairS w5 w.heap.size (.slice (some ⟨gg5, 0, none⟩) (List.length (α := PairL) D + 1) cc5) (D ++ [r]) (xs ++ [.slice ya m yc])) := RowsAp.push HA.out B3.out HOW.out hs0 G5.out O5.out (at_slice A5.out)
      have HBN : Hid (Below w.heap.size w w5) := (HB.out.trans (B3.out.mono hs0)).grown G5.out hs3 (fun q hq => (HA.out.1.lt q hq).1)
      clear HA HOW OR3 B3 HOO O5 G5 A5
      go_roundw
      case rel => exact ⟨k + 1, D ++ [r], _, by omega, by go_num, by rw [List.length_append, List.length_singleton, hDk], HTK, HAN, HBN⟩
      case measure => simp [RowKit.intOf]; omega
    obtain rfl : k = n := by omega
    have HDA : Hid (D = d) := by show _ = _; rw [HDD.out]; exact List.take_of_length_le (by have := HD.out; omega)
    clear HDD
    have HDL : Hid (D = d ++ (d.map turnR).take 0) := by show _ = _; rw [HDA.out]; simp
    have HB1 := HB
    have HA1 := HA
    clear HDA HA HB
    go_wp2
    have hkk : List.length (α := PairL) D = k + 0 := by omega
    go_loopw [3, 27] (fun ov iv wr => ∃ (i : Nat) (D : List PairL) (xs : List Value), i ≤ k ∧ iv = .int .i64 i ∧ List.length (α := PairL) D = k + i ∧ Hid (D = d ++ (d.map turnR).take i) ∧ Hid (RowsAp 30 tPairS wr w.heap.size ov D xs) ∧ Hid (Below w.heap.size w wr)) (fun _ iv _ => k - (RowKit.intOf iv).toNat)
    case atStart => exact ⟨0, D, xs, Nat.zero_le _, rfl, hkk, HDL, HA1, HB1⟩
    case round =>
      clear HDL HA1 HB1 hkk hDk
      obtain ⟨i, D, xs, hk9, rfl, hDk, HDD, HA, HB⟩ := hrel
      obtain ⟨oa, oc, hof⟩ := owns_form HA.out.1
      subst hof
      by_cases hlt : i < k
      · obtain ⟨r, hr⟩ : ∃ r : PairL, d[i]? = some r := ⟨_, List.getElem?_eq_getElem (by rw [HD.out]; exact hlt)⟩
        obtain ⟨b, off, x, xc, rfl, hcap, q00, hrr, hm63⟩ := round_cells HR.out hr
        have q0 := (HB.out.cell (p := ⟨b, off + i, none⟩) (World.block_lt_of_cell? w _ q00)).trans q00
        rw [HD.out] at hcap
        have hj1 : (i : Int) < (k : Int) := by omega
        have HRW := Lib.hid hrr
        obtain ⟨m, hm⟩ : ∃ m, List.length (α := tPair.D) r = m := ⟨_, rfl⟩
        have HM := Lib.hid hm
        rw [hm] at q0 hm63
        clear hm hrr q00
        have hm6 : m ≤ 1048576 := by have h9 := HWT.out i r hr; rw [HM.out] at h9; exact h9
        have HDM : Hid ((d.map turnR).take (i + 1) = (d.map turnR).take i ++ [turnR r]) := by show _ = _; rw [List.take_add_one, List.getElem?_map, hr]; rfl
        clear hr
        have hD6 : List.length (α := PairL) D ≤ 2097152 := by omega
        have hD7 : List.length (α := tPairS.D) D ≤ 2097152 := hD6
        have HDK := Lib.hid hDk
        clear hDk
        generalize wr = w1 at *
        have ON : Hid ((w1.alloc (.cells #[] 38)).ownsRow w1.heap.size 38 2 (.slice (some ⟨w1.heap.size, 0, none⟩) 0 0) 0 []) := World.ownsRow_lit (e := 38) (size := 2) w1 #[] 0 (Nat.le_refl _) (by decide) rfl
        have HB0 : Hid (Below w1.heap.size w1 (w1.alloc (.cells #[] 38))) := (Below.refl _ _).alloc (Nat.le_refl _) _
        go_wp2
        go_loopw [8, 34] (fun tv jv wi => ∃ (j : Nat) (T : PairL), j ≤ m ∧ jv = .int .i64 j ∧ List.length (α := tPair.D) T = j ∧ Hid (T = turnR (r.take j)) ∧ Hid (wi.ownsRow w1.heap.size 38 2 tv (List.length (α := tPair.D) T) (pcells T)) ∧ Hid (Below w1.heap.size w1 wi)) (fun _ jv _ => m - (RowKit.intOf jv).toNat)
        case atStart => exact ⟨0, [], Nat.zero_le _, rfl, rfl, rfl, ON, HB0⟩
        case round =>
          clear ON HB0
          obtain ⟨j, T, hj9, rfl, hTj, HTT, HO, HB3⟩ := hrel
          obtain ⟨ta, tc, htf⟩ := owns_form HO.out
          subst htf
          have HBW : Hid (Below w.heap.size w wr) := HB.out.trans (HB3.out.mono HB.out.size)
          by_cases hlt2 : j < m
          · obtain ⟨p, hp⟩ : ∃ p : tPair.D, r[j]? = some p := ⟨_, List.getElem?_eq_getElem (by rw [HM.out]; exact hlt2)⟩
            have HRr := HRW.out.below HBW.out
            obtain ⟨bp, op, rfl, hcap2, e0, e1⟩ := pair_cells HRr hp
            rw [HM.out] at hcap2
            have hj2 : (j : Int) < (m : Int) := by omega
            have HTN : Hid (T ++ [mkP (aw p) (hm p)] = turnR (r.take (j + 1))) := by show _ = _; rw [HTT.out, List.take_add_one, hp]; unfold turnR; rw [List.map_append]; rfl
            have HPC : Hid (pcells (T ++ [mkP (aw p) (hm p)]) = pcells T ++ [.int .i64 (aw p), .int .i64 (hm p)]) := pcells_push T _
            have hs2 := HB3.out.size
            clear HTT HRr hp HBW
            generalize hm p = ph at *
            generalize aw p = pa at *
            have hT7 : List.length (α := tPair.D) T ≤ 1048576 := by omega
            have HTJ : Hid (List.length (α := tPair.D) (T ++ [mkP pa ph]) = j + 1) := by show _ = _; rw [List.length_append, List.length_singleton, hTj]
            clear hTj
            have HOX : Hid ((wr.alloc (.cells #[.int .i64 ph, .int .i64 pa] 38)).ownsRow w1.heap.size 38 2 (.slice ta (List.length (α := tPair.D) T) tc) (List.length (α := tPair.D) T) (pcells T)) := HO.out.alloc _
            have HBX : Hid (Below w1.heap.size w1 (wr.alloc (.cells #[.int .i64 ph, .int .i64 pa] 38))) := HB3.out.alloc hs2 _
            have hs3 : w1.heap.size ≤ (wr.alloc (.cells #[.int .i64 ph, .int .i64 pa] 38)).heap.size := HBX.out.size
            clear HO HB3
            go_wp2_with (at_builtin; refine wpList_pushL rfl (.tmp 38) (.tmp 44) 30 rfl w1.heap.size 38 Try.underlying30 hi hz0 hz1 hz2 rfl (by decide) [.int .i64 pa, .int .i64 ph] rfl (by intro u hu; simp at hu; rcases hu with rfl | rfl <;> rfl) rfl (by show Value.slice (some ⟨_, 0, none⟩) 1 1 = _; simp) HOX.out (by unfold maxLen; exact Nat.le_trans (Nat.succ_le_succ hT7) (by decide)) (Nat.le_trans (Nat.mul_le_mul_right _ (Nat.succ_le_succ hT7)) (by decide)) hs3 ?_; intro gg5 cc5 w5 o5 g5 at5 lt5; have O5 := Lib.hid o5; have HB5 := Lib.hid (HBX.out.grown g5 hs3 (fun q hq => (HOX.out.lt q hq).1)); clear o5 g5 at5 lt5)
            go_roundw
            case rel => exact ⟨j + 1, T ++ [mkP pa ph], by omega, by go_num, HTJ.out, HTN, by refine Lib.hid ?_; rw [HPC.out, List.length_append]; exact O5.out, HB5⟩
            case measure => simp [RowKit.intOf]; omega
          obtain rfl : j = m := by omega
          have HTR : Hid (T = turnR r) := by show _ = _; rw [HTT.out, List.take_of_length_le (by have := HM.out; omega)]
          have hs3 : w.heap.size ≤ wr.heap.size := HBW.out.size
          have HOO := Lib.hid (owns_below HA.out.1 HB3.out (Nat.le_refl _))
          have hT9 : List.length (α := tPair.D) T ≤ 9223372036854775807 := by omega
          clear hTj
          have HOW : Hid (OwN tPairS wr w1.heap.size wr.heap.size [.slice ta (List.length (α := tPair.D) T) tc] T) := own_pairs HO.out hT9
          clear HTT HO
          go_wp2_with (at_builtin; refine wpList_pushL rfl (.tmp 47) (.tmp 49) 24 rfl w.heap.size 30 Try.underlying24 si sz0 sz1 sz2 rfl (by decide) [.slice ta (List.length (α := tPair.D) T) tc] rfl (by intro u hu; simp at hu; subst hu; rfl) rfl (by show Value.slice (some ⟨_, 0, none⟩) 1 1 = _; simp) HOO.out (by unfold maxLen; exact Nat.le_trans (Nat.succ_le_succ hD7) (by decide)) (Nat.le_trans (Nat.mul_le_mul_right _ (Nat.succ_le_succ hD7)) (by decide)) hs3 ?_; intro gg5 cc5 w5 o5 g5 at5 lt5; have O5 := Lib.hid o5; have G5 := Lib.hid g5; have A5 := Lib.hid at5; clear o5 g5 at5 lt5)
          have HAN : Hid (RowsAp 30 tPairS w5 w.heap.size (.slice (some ⟨gg5, 0, none⟩) (List.length (α := PairL) D + 1) cc5) (D ++ [T]) (xs ++ [.slice ta (List.length (α := tPair.D) T) tc])) := RowsAp.push HA.out HB3.out HOW.out HB.out.size G5.out O5.out (at_slice A5.out)
          have HBN : Hid (Below w.heap.size w w5) := HBW.out.grown G5.out hs3 (fun q hq => (HA.out.1.lt q hq).1)
          have HDN : Hid (D ++ [T] = d ++ (d.map turnR).take (i + 1)) := by show _ = _; rw [HTR.out, HDM.out, HDD.out, List.append_assoc]
          clear HA HOW HOO O5 G5 A5 HB3 HBW
          go_roundw
          case rel => exact ⟨i + 1, D ++ [T], _, by omega, by go_num, by rw [List.length_append, List.length_singleton, HDK.out]; rfl, HDN, HAN, HBN⟩
          case measure => simp [RowKit.intOf]; omega
      obtain rfl : i = k := by omega
      have HDA : Hid (D = mirL d) := by show _ = _; rw [HDD.out, List.take_of_length_le (by rw [List.length_map]; have := HD.out; omega)]; rfl
      have HOE := Lib.hid (RowsAp.own rfl HA.out)
      clear HDD HA
      go_wp2
      go_ret
      exact ⟨_, rfl, by rw [← HDA.out]; exact HOE.out, HB.out⟩
end Go.Proofs.Ytgemdjcadlejfaa
set_option linter.unusedVariables false
namespace Go.Proofs.Ytgemdjcadlejfaa
open Go.RowKit

def mirK (d : List PairL) (n k : Nat) : List PairL := (List.range (2 * n)).map fun i => if i < n then (if i < k then (d[i]?).getD [] else []) else (if i - n < k then turnR ((d[i - n]?).getD []) else [])
theorem mirK_len (d : List PairL) (n k : Nat) : List.length (α := PairL) (mirK d n k) = 2 * n := by unfold mirK; rw [List.length_map, List.length_range]
theorem mirK_at (d : List PairL) (n k i : Nat) (hi : i < 2 * n) : (mirK d n k)[i]? = some (if i < n then (if i < k then (d[i]?).getD [] else []) else (if i - n < k then turnR ((d[i - n]?).getD []) else [])) := by
  unfold mirK; rw [List.getElem?_map, List.getElem?_range hi]; rfl
theorem mirK_zero (d : List PairL) (n : Nat) : mirK d n 0 = List.replicate (2 * n) [] := by
  apply List.ext_getElem?
  intro i
  by_cases hi : i < 2 * n
  · rw [mirK_at d n 0 i hi, List.getElem?_replicate, if_pos hi]
    by_cases h : i < n
    · rw [if_pos h, if_neg (Nat.not_lt_zero _)]
    · rw [if_neg h, if_neg (Nat.not_lt_zero _)]
  · rw [List.getElem?_eq_none (by rw [mirK_len]; omega), List.getElem?_eq_none (by rw [List.length_replicate]; omega)]
theorem mirK_all (d : List PairL) {n : Nat} (hn : List.length (α := PairL) d = n) : mirK d n n = mirL d := by
  apply List.ext_getElem?
  intro i
  by_cases hi : i < 2 * n
  · rw [mirK_at d n n i hi]
    unfold mirL
    by_cases h : i < n
    · rw [if_pos h, if_pos h, List.getElem?_append_left (by rw [hn]; exact h), List.getElem?_eq_getElem (by rw [hn]; exact h)]; rfl
    · rw [if_neg h, if_pos (by omega), List.getElem?_append_right (by rw [hn]; omega), hn, List.getElem?_map, List.getElem?_eq_getElem (by rw [hn]; omega)]; rfl
  · rw [List.getElem?_eq_none (by rw [mirK_len]; omega), List.getElem?_eq_none (by unfold mirL; rw [List.length_append, List.length_map, hn]; omega)]
theorem mirK_succ (d : List PairL) {n k : Nat} {r : PairL} (hr : d[k]? = some r) (hk : k < n) : (mirK d n (k + 1))[k]? = some r ∧ (mirK d n (k + 1))[n + k]? = some (turnR r) ∧ ∀ i, i ≠ k → i ≠ n + k → (mirK d n (k + 1))[i]? = (mirK d n k)[i]? := by
  refine ⟨?_, ?_, fun i h1 h2 => ?_⟩
  · rw [mirK_at d n _ k (by omega), if_pos hk, if_pos (by omega), hr]; rfl
  · rw [mirK_at d n _ (n + k) (by omega), if_neg (by omega), if_pos (by omega), Nat.add_sub_cancel_left, hr]; rfl
  · by_cases hi : i < 2 * n
    · rw [mirK_at d n _ i hi, mirK_at d n _ i hi]
      by_cases h : i < n
      · rw [if_pos h, if_pos h]
        by_cases h3 : i < k
        · rw [if_pos h3, if_pos (by omega)]
        · rw [if_neg h3, if_neg (by omega)]
      · rw [if_neg h, if_neg h]
        by_cases h3 : i - n < k
        · rw [if_pos h3, if_pos (by omega)]
        · rw [if_neg h3, if_neg (by omega)]
    · rw [List.getElem?_eq_none (by rw [mirK_len]; omega), List.getElem?_eq_none (by rw [mirK_len]; omega)]
theorem own_nilR (w : World) (B : Nat) : tPairS.Ow w B [.slice none 0 0] ([] : PairL) [] :=
  ⟨.slice none 0 0, [], fun _ => [], rfl, World.ownsRow_nil _ _ _ _, fun i x hx => (by cases hx), rfl⟩
theorem own_filled {w : World} {base m hi : Nat} {v : Value} {xs : List Value} {T : PairL} (h : w.ownsRow base 38 2 v m xs) (hm : List.length (α := tPair.D) T = m) (hn : m ≤ 9223372036854775807) (hc : RecCells 2 m xs (fun i => (atPair T i).cells)) (h1 : ∀ q, v.ownBlock = some q → q < hi) (hh : hi ≤ w.heap.size) : OwN tPairS w base hi [v] T := by
  subst hm
  exact own_PairS h (PairRow.of_owns h hn hc) h1 hh
theorem turn_len (r : PairL) : List.length (α := tPair.D) (turnR r) = List.length (α := tPair.D) r := List.length_map ..
theorem turn_at (r : PairL) {j : Nat} {p : tPair.D} (hp : r[j]? = some p) : (atPair (turnR r) j).cells = [.int .i64 (aw p), .int .i64 (hm p)] := by
  unfold atPair turnR
  rw [List.getElem?_map, hp]
  rfl
theorem pair_at (r : PairL) {j : Nat} {p : tPair.D} (hp : r[j]? = some p) : (atPair r j).cells = [.int .i64 (hm p), .int .i64 (aw p)] := by
  unfold atPair
  rw [hp]
  rfl
theorem mir_step {w0 w3 wi : World} {B : Nat} {B0 n k m : Nat} {d : List PairL} {r : PairL} {xs ys zs : List Value} {g2 : Nat} (hA : RowsAp 30 tPairS w0 B (.slice (some ⟨B0, 0, none⟩) (2 * n) (2 * n)) (mirK d n k) xs)
    (hr : d[k]? = some r) (hk : k < n) (hm : List.length (α := tPair.D) r = m) (hn : m ≤ 9223372036854775807) (hB : B ≤ w0.heap.size)
    (h3 : ∀ q, q < w0.heap.size → q ≠ B0 → w3.heap[q]? = w0.heap[q]?) (hb : Below w0.heap.size w3 wi) (hs : w0.heap.size ≤ w3.heap.size)
    (ho : w3.ownsRow B 30 1 (.slice (some ⟨B0, 0, none⟩) (2 * n) (2 * n)) (2 * n) ((xs.set k (.slice (some ⟨w0.heap.size, 0, none⟩) m m)).set (n + k) (.slice (some ⟨g2, 0, none⟩) m m))) (hB0 : B0 < w0.heap.size)
    (o1 : wi.ownsRow w0.heap.size 38 2 (.slice (some ⟨w0.heap.size, 0, none⟩) m m) m ys) (c1 : RecCells 2 m ys (fun i => (atPair r i).cells))
    (o2 : wi.ownsRow g2 38 2 (.slice (some ⟨g2, 0, none⟩) m m) m zs) (c2 : RecCells 2 m zs (fun i => (atPair (turnR r) i).cells)) (hg : w0.heap.size < g2) :
    RowsAp 30 tPairS wi B (.slice (some ⟨B0, 0, none⟩) (2 * n) (2 * n)) (mirK d n (k + 1)) ((xs.set k (.slice (some ⟨w0.heap.size, 0, none⟩) m m)).set (n + k) (.slice (some ⟨g2, 0, none⟩) m m)) := by
  obtain ⟨s1, s2, s3⟩ := mirK_succ d hr hk
  have hl : xs.length = 2 * n := by have := hA.1.1; rw [Nat.mul_one, show List.length (α := tPairS.D) (mirK d n k) = 2 * n from mirK_len d n k] at this; exact this
  have hg2 := (o2.lt g2 rfl).2
  obtain ⟨b1, e1, n1, l1, _⟩ := own_filled o1 hm hn c1 (hi := w0.heap.size + 1) (fun q hq => Nat.lt_succ_of_le (Nat.le_of_eq (by simpa [Value.ownBlock] using hq.symm))) (by omega)
  obtain ⟨b2, e2, n2, l2, _⟩ := own_filled o2 ((turn_len r).trans hm) hn c2 (hi := wi.heap.size) (fun q hq => (o2.lt q hq).2) (Nat.le_refl _)
  have t1 := tPairS.ow_lt e1
  have t2 := tPairS.ow_lt e2
  refine RowsAp.upd hA ((mirK_len d n (k + 1)).trans (mirK_len d n k).symm) (fun q hq hv => ?_) (Nat.le_trans hs hb.size) ?_ (fun i => if i = k then some b1 else if i = n + k then some b2 else none) (fun i hi => ?_) (fun i bs hi => ?_) (fun i j bs cs hi hj hij q hq hq2 => ?_)
  · have hne : q ≠ B0 := fun e => hv (by rw [e]; rfl)
    exact (hb.block q hq).trans (h3 q hq hne)
  · rw [show List.length (α := tPairS.D) (mirK d n k) = 2 * n from mirK_len d n k]
    exact owns_frame ho fun q hq => by
      have e : B0 = q := by simpa [Value.ownBlock] using hq
      subst e
      exact hb.block B0 hB0
  · have h1 : i ≠ k := fun e => by rw [if_pos e] at hi; cases hi
    have h2 : i ≠ n + k := fun e => by rw [if_neg h1, if_pos e] at hi; cases hi
    refine ⟨?_, s3 i h1 h2⟩
    rw [List.getD_eq_getElem?_getD, List.getElem?_set_ne (Ne.symm h2), List.getElem?_set_ne (Ne.symm h1), ← List.getD_eq_getElem?_getD]
  · by_cases h1 : i = k
    · rw [if_pos h1] at hi
      cases hi
      subst h1
      refine ⟨n1, fun q hq => (t1 q hq).1, fun x hx => ?_⟩
      obtain rfl : r = x := Option.some.inj (s1.symm.trans hx)
      rw [List.getD_eq_getElem?_getD, List.getElem?_set_ne (by omega), List.getElem?_set_self (by omega)]
      exact tPairS.ow_mono e1 hB
    · rw [if_neg h1] at hi
      by_cases h2 : i = n + k
      · rw [if_pos h2] at hi
        cases hi
        subst h2
        refine ⟨n2, fun q hq => by have := (t2 q hq).1; omega, fun x hx => ?_⟩
        obtain rfl : turnR r = x := Option.some.inj (s2.symm.trans hx)
        rw [List.getD_eq_getElem?_getD, List.getElem?_set_self (by rw [List.length_set]; omega)]
        exact tPairS.ow_mono e2 (by omega)
      · rw [if_neg h2] at hi; cases hi
  · have key : ∀ {i : Nat} {bs : List Nat}, (if i = k then some b1 else if i = n + k then some b2 else none) = some bs → (i = k ∧ bs = b1) ∨ (i = n + k ∧ bs = b2) := fun {i bs} h => by
      by_cases h1 : i = k
      · rw [if_pos h1] at h; cases h; exact .inl ⟨h1, rfl⟩
      · rw [if_neg h1] at h
        by_cases h2 : i = n + k
        · rw [if_pos h2] at h; cases h; exact .inr ⟨h2, rfl⟩
        · rw [if_neg h2] at h; cases h
    rcases key hi with ⟨hi1, rfl⟩ | ⟨hi1, rfl⟩ <;> rcases key hj with ⟨hj1, rfl⟩ | ⟨hj1, rfl⟩
    · omega
    · have := l1 q hq; have := (t2 q hq2).1; omega
    · have := l1 q hq2; have := (t2 q hq).1; omega
    · omega
end Go.Proofs.Ytgemdjcadlejfaa
set_option linter.unusedVariables false
namespace Go.Proofs.Ytgemdjcadlejfaa
open Go.RowKit

set_option maxRecDepth 100000 in
set_option maxHeartbeats 4000000 in
theorem mirrorRounds_impl (v : Value) (d : List PairL) (w : World) (h : RdA tPairSS w [v] d) (hw : tPairSS.wt d ≤ 1048576) :
    Calls Try.prog 15 #[v] w (MadeT tPairSS (mirL d) w) := by
  obtain ⟨i0, hi, hz0, hz1, hz2⟩ := info_parts Try.infoPair
  obtain ⟨s0, si, sz0, sz1, sz2⟩ := info_parts Try.infoPairSS
  have hdl : List.length (α := PairL) d ≤ 1048576 := by have e : tPairSS.wt d = List.length (α := PairL) d + (d.map tPairS.wt).sum := rfl; omega
  obtain ⟨a, c, rfl, hn⟩ := schedule_form h
  have HR := Lib.hid h
  clear h
  obtain ⟨n, hd⟩ : ∃ n, List.length (α := PairL) d = n := ⟨_, rfl⟩
  have HD := Lib.hid hd
  rw [hd] at hn ⊢
  clear hd
  rw [HD.out] at hdl
  have HWT : Hid (∀ k r, d[k]? = some r → List.length (α := tPair.D) r ≤ 1048576) := fun k r hr => by
    have h1 := take_sum (f := tPairS.wt) hr
    have h2 := take_sum_le (f := tPairS.wt) (L := d) (k + 1)
    have h3 : tPairSS.wt d = List.length (α := PairL) d + (d.map tPairS.wt).sum := rfl
    have h4 := wt_PairS r
    omega
  clear hw
  have s2n : IntKind.i64.wrap (2 * (n : Int)) = 2 * (n : Int) := IntWalk.i64_in _ (by omega)
  go_enter Try.func15, Try.ntmps15
  go_wp2_with (at_make; refine wpList_make_full _ rfl _ _ 24 rfl w.heap.size 30 s0 (.slice none 0 0) 1 Try.underlying24 si sz0 sz1 .i64 .i64 (2 * (n : Int)) (2 * (n : Int)) (2 * n) rfl rfl (by omega) (by omega) (by rw [sz2]; omega) (by unfold maxLen; omega) (Nat.le_refl _) ?_; intro w1 hown hg1)
  have HB1 : Hid (Below w.heap.size w w1) := (Below.refl _ _).grown hg1 (Nat.le_refl _) (fun k hk => by cases hk)
  have HA1 : Hid (RowsAp 30 tPairS w1 w.heap.size (.slice (some ⟨w.heap.size, 0, none⟩) (2 * n) (2 * n)) (mirK d n 0) (List.replicate (2 * n) (.slice none 0 0))) := by
    rw [mirK_zero]
    refine RowsAp.zero ?_ (own_nilR _ _)
    have h9 := hown
    rw [show (Value.slice none 0 0).cells = #[.slice none 0 0] from rfl, Nat.mul_one, toList_madeCells_one] at h9
    exact h9
  clear hown hg1 s2n
  go_loopw [16] (fun iv wr => ∃ (k : Nat) (xs : List Value), k ≤ n ∧ iv = .int .i64 k ∧ Hid (RowsAp 30 tPairS wr w.heap.size (.slice (some ⟨w.heap.size, 0, none⟩) (2 * n) (2 * n)) (mirK d n k) xs) ∧ Hid (Below w.heap.size w wr)) (fun iv _ => n - (RowKit.intOf iv).toNat)
  case atStart => exact ⟨0, _, Nat.zero_le _, rfl, HA1, HB1⟩
  case round =>
    clear HA1 HB1
    obtain ⟨k, xs, hk9, rfl, HA, HB⟩ := hrel
    by_cases hlt : k < n
    · obtain ⟨r, hr⟩ : ∃ r : PairL, d[k]? = some r := ⟨_, List.getElem?_eq_getElem (by rw [HD.out]; exact hlt)⟩
      obtain ⟨b, off, x, xc, rfl, hcap, q00, hrr, hm63⟩ := round_cells HR.out hr
      have q0 := (HB.out.cell (p := ⟨b, off + k, none⟩) (World.block_lt_of_cell? w _ q00)).trans q00
      rw [HD.out] at hcap
      have hj1 : (k : Int) < (n : Int) := by omega
      have HRW := Lib.hid hrr
      obtain ⟨m, hm⟩ : ∃ m, List.length (α := tPair.D) r = m := ⟨_, rfl⟩
      have HM := Lib.hid hm
      rw [hm] at q0 hm63
      clear hm hrr q00
      have hm6 : m ≤ 1048576 := by have h9 := HWT.out k r hr; rw [HM.out] at h9; exact h9
      have HRD := Lib.hid hr
      clear hr
      generalize wr = w0 at *
      have hB0 : w.heap.size < w0.heap.size := (HA.out.1.lt _ rfl).2
      have HO0 : Hid (w0.ownsRow w.heap.size 30 1 (.slice (some ⟨w.heap.size, 0, none⟩) (2 * n) (2 * n)) (2 * n) xs) := by have h9 := HA.out.1; rw [show List.length (α := tPairS.D) (mirK d n k) = 2 * n from mirK_len d n k] at h9; exact h9
      have hkn : k < 2 * n := by omega
      have hnk : n + k < 2 * n := by omega
      have snk : IntKind.i64.wrap ((n : Int) + (k : Int)) = (n : Int) + (k : Int) := IntWalk.i64_in _ (by omega)
      have HUX : Hid (∀ (wa : World), wa.heap.size ≤ wa.heap.size) := fun _ => Nat.le_refl _
      go_wp2_with (first
        | (at_make; refine wpList_make_full _ rfl (.tmp 24) (.tmp 24) 30 rfl w0.heap.size 38 i0 (.agg #[.int .i64 0, .int .i64 0]) 2 Try.underlying30 hi hz0 hz1 .i64 .i64 m m m rfl rfl rfl rfl (by rw [hz2]; omega) (by unfold maxLen; omega) (Nat.le_refl _) ?_; intro w1 hown hg1
           have b1 : Below w0.heap.size w0 w1 := (Below.refl _ _).grown hg1 (Nat.le_refl _) (fun k hk => by cases hk)
           have HB1 := Lib.hid b1
           have HO1 := Lib.hid (owns_below HO0.out b1 (Nat.le_refl _))
           obtain ⟨u1, hu1⟩ := owns_some HO1.out k hkn
           have HU1 := Lib.hid hu1
           have hc1 := owns_cell HO1.out k hkn HU1
           have hf1 := HO1.out.frozenAt k
           have HR1 := Lib.hid hown
           have hlt1 : w0.heap.size < w1.heap.size := (HR1.out.lt w0.heap.size rfl).2
           obtain ⟨U1, hU1⟩ : ∃ U1, w1.setCell ⟨w.heap.size, k, none⟩ (.slice (some ⟨w0.heap.size, 0, none⟩) m m) = U1 := ⟨_, rfl⟩
           have hsU1 : Hid (U1.heap.size = w1.heap.size) := by show _ = _; rw [← hU1]; simp [World.setCell]
           have HOU1 : Hid (U1.ownsRow w.heap.size 30 1 (.slice (some ⟨w.heap.size, 0, none⟩) (2 * n) (2 * n)) (2 * n) (xs.set k (.slice (some ⟨w0.heap.size, 0, none⟩) m m))) := by rw [← hU1]; exact (HO1.out.stored k _).1
           have HRU1 : Hid (U1.ownsRow w0.heap.size 38 2 (.slice (some ⟨w0.heap.size, 0, none⟩) m m) m ((madeCells (Value.agg #[.int .i64 0, .int .i64 0]).cells (m * 2)).toList)) := by rw [← hU1]; exact ownsRow_setCell_other HR1.out (fun e => by have e2 : w0.heap.size = w.heap.size := (by simpa [Value.ownBlock] using e); omega) _
           have HBU1 : Hid (∀ q, q < w0.heap.size → q ≠ w.heap.size → U1.heap[q]? = w0.heap[q]?) := fun q hq hne => by rw [← hU1]; exact (Below.heap_setCell _ _ _ _ hne).trans (HB1.out.block q hq)
           have HBW1 : Hid (Below w.heap.size w U1) := by rw [← hU1]; exact (HB.out.trans (HB1.out.mono HB.out.size)).setCell (Nat.le_refl _) _
           have hlU1 : w0.heap.size < U1.heap.size := by have := hsU1.out; omega
           clear hown hg1 b1 hu1)
        | (at_make; refine wpList_make_full _ rfl (.tmp 32) (.tmp 32) 30 rfl U1.heap.size 38 i0 (.agg #[.int .i64 0, .int .i64 0]) 2 Try.underlying30 hi hz0 hz1 .i64 .i64 m m m rfl rfl rfl rfl (by rw [hz2]; omega) (by unfold maxLen; omega) (Nat.le_refl _) ?_; intro w2 hown hg2
           clear hU1 hc1 hf1
           have b2 : Below U1.heap.size U1 w2 := (Below.refl _ _).grown hg2 (Nat.le_refl _) (fun k hk => by cases hk)
           have HB2 := Lib.hid b2
           have HO2 := Lib.hid (owns_below HOU1.out b2 (Nat.le_refl _))
           obtain ⟨u2, hu2⟩ := owns_some HO2.out (n + k) hnk
           have HU2 := Lib.hid hu2
           have hc2 := owns_cell HO2.out (n + k) hnk HU2
           have hf2 := HO2.out.frozenAt (n + k)
           have HR2 := Lib.hid hown
           have HQ2 := Lib.hid (owns_below HRU1.out b2 (Nat.le_refl _))
           have hlt2 : U1.heap.size < w2.heap.size := (HR2.out.lt _ rfl).2
           obtain ⟨U2, hU2⟩ : ∃ U2, w2.setCell ⟨w.heap.size, n + k, none⟩ (.slice (some ⟨U1.heap.size, 0, none⟩) m m) = U2 := ⟨_, rfl⟩
           have hsU2 : Hid (U2.heap.size = w2.heap.size) := by show _ = _; rw [← hU2]; simp [World.setCell]
           have HOU2 : Hid (U2.ownsRow w.heap.size 30 1 (.slice (some ⟨w.heap.size, 0, none⟩) (2 * n) (2 * n)) (2 * n) ((xs.set k (.slice (some ⟨w0.heap.size, 0, none⟩) m m)).set (n + k) (.slice (some ⟨U1.heap.size, 0, none⟩) m m))) := by rw [← hU2]; exact (HO2.out.stored (n + k) _).1
           have HZU2 : Hid (U2.ownsRow U1.heap.size 38 2 (.slice (some ⟨U1.heap.size, 0, none⟩) m m) m ((madeCells (Value.agg #[.int .i64 0, .int .i64 0]).cells (m * 2)).toList)) := by rw [← hU2]; exact ownsRow_setCell_other HR2.out (fun e => by have e2 : U1.heap.size = w.heap.size := (by simpa [Value.ownBlock] using e); omega) _
           have HYU2 : Hid (U2.ownsRow w0.heap.size 38 2 (.slice (some ⟨w0.heap.size, 0, none⟩) m m) m ((madeCells (Value.agg #[.int .i64 0, .int .i64 0]).cells (m * 2)).toList)) := by rw [← hU2]; exact ownsRow_setCell_other HQ2.out (fun e => by have e2 : w0.heap.size = w.heap.size := (by simpa [Value.ownBlock] using e); omega) _
           have HBU2 : Hid (∀ q, q < w0.heap.size → q ≠ w.heap.size → U2.heap[q]? = w0.heap[q]?) := fun q hq hne => by rw [← hU2]; exact (Below.heap_setCell _ _ _ _ hne).trans ((HB2.out.block q (by omega)).trans (HBU1.out q hq hne))
           have HBW2 : Hid (Below w.heap.size w U2) := by rw [← hU2]; exact (HBW1.out.trans (HB2.out.mono HBW1.out.size)).setCell (Nat.le_refl _) _
           have hlU2 : U1.heap.size < U2.heap.size := by have := hsU2.out; omega
           clear hown hg2 b2 hu2))
      clear hU2 hc2 hf2 HR1 HR2 HQ2 HO1 HO2 HB1 HB2 HU1 HU2 HRU1 HOU1 HBU1 HBW1
      have HC0 : Hid (∀ g : Nat → List Value, RecCells 2 0 ((madeCells (Value.agg #[.int .i64 0, .int .i64 0]).cells (m * 2)).toList) g) := fun g i hi => absurd hi (Nat.not_lt_zero _)
      go_loopw [37] (fun iv wi => ∃ (j : Nat) (ys zs : List Value), j ≤ m ∧ iv = .int .i64 j ∧ Hid (wi.ownsRow w0.heap.size 38 2 (.slice (some ⟨w0.heap.size, 0, none⟩) m m) m ys) ∧ Hid (RecCells 2 j ys (fun i => (atPair r i).cells)) ∧ Hid (wi.ownsRow U1.heap.size 38 2 (.slice (some ⟨U1.heap.size, 0, none⟩) m m) m zs) ∧ Hid (RecCells 2 j zs (fun i => (atPair (turnR r) i).cells)) ∧ Hid (Below w0.heap.size U2 wi)) (fun iv _ => m - (RowKit.intOf iv).toNat)
      case atStart => exact ⟨0, _, _, Nat.zero_le _, rfl, HYU2, HC0.out _, HZU2, HC0.out _, Below.refl _ _⟩
      case round =>
        clear HYU2 HZU2 HC0
        obtain ⟨j, ys, zs, hj9, rfl, HY, HYC, HZ, HZC, HS⟩ := hrel
        by_cases hlt2 : j < m
        · obtain ⟨p, hp⟩ : ∃ p : tPair.D, r[j]? = some p := ⟨_, List.getElem?_eq_getElem (by rw [HM.out]; exact hlt2)⟩
          have HBr : Hid (Below w.heap.size w wr) := HBW2.out.trans (HS.out.mono (by omega))
          have HRr := HRW.out.below HBr.out
          obtain ⟨bp, op, rfl, hcap2, e0, e1⟩ := pair_cells HRr hp
          rw [HM.out] at hcap2
          have hj2 : (j : Int) < (m : Int) := by omega
          have HT1 : Hid ((atPair r j).cells = [.int .i64 (hm p), .int .i64 (aw p)]) := pair_at r hp
          have HT2 : Hid ((atPair (turnR r) j).cells = [.int .i64 (aw p), .int .i64 (hm p)]) := turn_at r hp
          clear HRr hp HBr
          generalize hm p = ph at *
          generalize aw p = pa at *
          generalize wr = wi0 at *
          obtain ⟨U, hU⟩ : ∃ U, wi0.alloc (.cells #[.int .i64 ph, .int .i64 pa] 38) = U := ⟨_, rfl⟩
          have bU : Below wi0.heap.size wi0 U := by rw [← hU]; exact (Below.refl _ _).alloc (Nat.le_refl _) _
          have HXU : Hid (BoxN U wi0.heap.size [.int .i64 ph, .int .i64 pa]) := by rw [← hU]; exact BoxN.made (Below.refl _ _) rfl
          have x0 := HXU.out.2 0 _ rfl
          have x1 := HXU.out.2 1 _ rfl
          have HYU := Lib.hid (owns_below HY.out bU (Nat.le_refl _))
          have HZU := Lib.hid (owns_below HZ.out bU (Nat.le_refl _))
          have hl1 : w0.heap.size < wi0.heap.size := (HY.out.lt w0.heap.size rfl).2
          have HSU := Lib.hid (HS.out.trans (bU.mono (Nat.le_of_lt hl1)))
          have HOU := Lib.hid (owns_frame HOU2.out (w' := U) (fun q hq => HSU.out.block q (by have e2 : w.heap.size = q := Option.some.inj hq; rw [← e2]; exact hB0)))
          have hl2 : U1.heap.size < wi0.heap.size := (HZ.out.lt U1.heap.size rfl).2
          have hl0 : w0.heap.size < U1.heap.size := by omega
          have HOL : Hid (xs.length = 2 * n) := by have h9 := HO0.out.1; rw [Nat.mul_one] at h9; exact h9
          have HE1 : Hid (((xs.set k (.slice (some ⟨w0.heap.size, 0, none⟩) m m)).set (n + k) (.slice (some ⟨U1.heap.size, 0, none⟩) m m))[k]? = some (.slice (some ⟨w0.heap.size, 0, none⟩) m m)) := by show _ = _; rw [List.getElem?_set_ne (by omega), List.getElem?_set_self (by rw [HOL.out]; exact hkn)]
          have HE2 : Hid (((xs.set k (.slice (some ⟨w0.heap.size, 0, none⟩) m m)).set (n + k) (.slice (some ⟨U1.heap.size, 0, none⟩) m m))[n + k]? = some (.slice (some ⟨U1.heap.size, 0, none⟩) m m)) := by show _ = _; rw [List.getElem?_set_self (by rw [List.length_set, HOL.out]; exact hnk)]
          have c1 := owns_cell HOU.out k hkn HE1
          have c2 := owns_cell HOU.out (n + k) hnk HE2
          obtain ⟨u0, y0⟩ := owns_cellR HYU.out (j * 2) (by omega)
          have f0 := HYU.out.frozenAt (j * 2)
          obtain ⟨u1, y1⟩ := owns_cellR HYU.out (j * 2 + 1) (by omega)
          have f1 := HYU.out.frozenAt (j * 2 + 1)
          have hne1 : w0.heap.size ≠ w.heap.size := by omega
          have hne2 : w0.heap.size ≠ wi0.heap.size := by omega
          clear bU HO0 HOU2
          go_wp2_with fail
          clear hU
          go_region
          generalize hV : ((U.setCell ⟨w0.heap.size, j * 2, none⟩ (.int .i64 ph)).setCell ⟨w0.heap.size, j * 2 + 1, none⟩ (.int .i64 pa)).drew = V at *
          have hhne : (⟨w0.heap.size, j * 2, none⟩ : Addr).block = w0.heap.size := rfl
          have HSV : Hid (Below w0.heap.size U2 V) := by rw [← hV]; exact ((HSU.out.setCell (p := ⟨w0.heap.size, j * 2, none⟩) (Nat.le_refl _) _).setCell (p := ⟨w0.heap.size, j * 2 + 1, none⟩) (Nat.le_refl _) _).drew
          have HXV : Hid (BoxN V wi0.heap.size [.int .i64 ph, .int .i64 pa]) := by rw [← hV]; exact ((HXU.out.elsewhere (j * 2) (.int .i64 ph) (Ne.symm hne2)).elsewhere (j * 2 + 1) (.int .i64 pa) (Ne.symm hne2)).below (Below.refl _ _).drew
          have HC2V : Hid (V.cell? ⟨w.heap.size, n + k, none⟩ = some (.slice (some ⟨U1.heap.size, 0, none⟩) m m)) := by
            show _ = _
            have h9 := owns_frame HOU.out (w' := V) (fun q hq => by
              have e2 : w.heap.size = q := Option.some.inj hq
              rw [← e2, ← hV]
              exact (Below.heap_setCell _ _ _ _ (by show w.heap.size ≠ w0.heap.size; omega)).trans (Below.heap_setCell _ _ _ _ (by show w.heap.size ≠ w0.heap.size; omega)))
            exact owns_cell h9 (n + k) hnk HE2
          have HYV : Hid (V.ownsRow w0.heap.size 38 2 (.slice (some ⟨w0.heap.size, 0, none⟩) m m) m ((ys.set (j * 2) (.int .i64 ph)).set (j * 2 + 1) (.int .i64 pa))) := by rw [← hV]; exact owns_below ((HYU.out.stored (j * 2) (.int .i64 ph)).1.stored (j * 2 + 1) (.int .i64 pa)).1 (Below.refl _ _).drew (Nat.le_refl _)
          have HZV : Hid (V.ownsRow U1.heap.size 38 2 (.slice (some ⟨U1.heap.size, 0, none⟩) m m) m zs) := by rw [← hV]; exact owns_below (ownsRow_setCell_other (ownsRow_setCell_other HZU.out (fun e => by have e2 : U1.heap.size = w0.heap.size := Option.some.inj e; omega) _) (fun e => by have e2 : U1.heap.size = w0.heap.size := Option.some.inj e; omega) _) (Below.refl _ _).drew (Nat.le_refl _)
          have HNE1 : Hid (wi0.heap.size ≠ U1.heap.size) := (by omega : wi0.heap.size ≠ U1.heap.size)
          have HNE2 : Hid (U1.heap.size ≠ w.heap.size) := (by omega : U1.heap.size ≠ w.heap.size)
          have hsV : Hid (wi0.heap.size ≤ V.heap.size) := Nat.le_of_lt HXV.out.1
          have hl0U : w0.heap.size < U2.heap.size := by omega
          have tnk : ((n : Int) + (k : Int)).toNat = n + k := by omega
          clear x0 x1 c1 c2 y0 f0 y1 f1 hne1 hne2 HXU HYU HZU HSU HOU hV hhne
          obtain ⟨S, HSd⟩ : ∃ S : World → Prop, S = fun w' => (BoxN w' wi0.heap.size [.int .i64 ph, .int .i64 pa] ∧ w'.cell? ⟨w.heap.size, n + k, none⟩ = some (.slice (some ⟨U1.heap.size, 0, none⟩) m m)) := ⟨_, rfl⟩
          have KS : Hid (∀ wa wb, S wa → Below wa.heap.size wa wb → S wb) := by subst HSd; exact fun wa wb h b => ⟨h.1.below b, (b.cell (p := ⟨w.heap.size, n + k, none⟩) (World.block_lt_of_cell? wa _ h.2)).trans h.2⟩
          have OS : Hid (∀ wa, S wa → (BoxN wa wi0.heap.size [.int .i64 ph, .int .i64 pa] ∧ wa.cell? ⟨w.heap.size, n + k, none⟩ = some (.slice (some ⟨U1.heap.size, 0, none⟩) m m))) := by subst HSd; exact fun wa h => h
          have IS : Hid (∀ wa, (BoxN wa wi0.heap.size [.int .i64 ph, .int .i64 pa] ∧ wa.cell? ⟨w.heap.size, n + k, none⟩ = some (.slice (some ⟨U1.heap.size, 0, none⟩) m m)) → S wa) := by subst HSd; exact fun wa h => h
          clear HSd
          go_wp2_with fail
          refine wp_region_held_drew (S := S) (by kernel_rfl) ?_ (fun hHeld => ?_)
          · exact IS.out _ (⟨HXV.out.below (Below.refl _ _).drew, HC2V.out⟩)
          refine wpAnyH_take (i := 0) (v := ?_) rfl (by kernel_rfl) (by kernel_rfl) (by kernel_rfl) (fun _ _ _ h => h) (Or.inl ⟨by rfl, ?_⟩) hHeld ?_
          rotate_left
          · (intro wa hSw; go_simp; try with_reducible rfl)
          simp only [Act.put, List.getElem_toArray, List.getElem_cons_zero, List.setIfInBounds_toArray, List.set_cons_zero, List.set_cons_succ]
          refine wpAnyH_take (i := 1) (v := ?_) rfl (by kernel_rfl) (by kernel_rfl) (by kernel_rfl) (fun _ _ _ h => h) (Or.inl ⟨by rfl, ?_⟩) hHeld ?_
          rotate_left
          · (intro wa hSw; go_simp; try with_reducible rfl)
          simp only [Act.put, List.getElem_toArray, List.getElem_cons_zero, List.getElem_cons_succ, List.setIfInBounds_toArray, List.set_cons_zero, List.set_cons_succ]
          refine wpAnyH_take (i := 2) (v := ?_) rfl (by kernel_rfl) (by kernel_rfl) (by kernel_rfl) (fun _ _ _ h => h) (Or.inl ⟨by rfl, ?_⟩) hHeld ?_
          rotate_left
          · (intro wa hSw; go_simp; try with_reducible rfl)
          simp only [Act.put, List.getElem_toArray, List.getElem_cons_zero, List.getElem_cons_succ, List.setIfInBounds_toArray, List.set_cons_zero, List.set_cons_succ]
          refine wpAnyH_take (i := 3) (v := ?_) rfl (by kernel_rfl) (by kernel_rfl) (by kernel_rfl) (fun _ _ _ h => h) (Or.inl ⟨by rfl, ?_⟩) hHeld ?_
          rotate_left
          · (intro wa hSw; go_simp; try with_reducible rfl)
          simp only [Act.put, List.getElem_toArray, List.getElem_cons_zero, List.getElem_cons_succ, List.setIfInBounds_toArray, List.set_cons_zero, List.set_cons_succ]
          refine wpAnyH_take (i := 4) (v := ?_) rfl (by kernel_rfl) (by kernel_rfl) (by kernel_rfl) (fun _ _ _ h => h) (Or.inl ⟨by rfl, ?_⟩) hHeld ?_
          rotate_left
          · (intro wa hSw; go_simp; try with_reducible rfl)
          simp only [Act.put, List.getElem_toArray, List.getElem_cons_zero, List.getElem_cons_succ, List.setIfInBounds_toArray, List.set_cons_zero, List.set_cons_succ]
          refine wpAnyH_take (i := 5) (v := ?_) rfl (by kernel_rfl) (by kernel_rfl) (by kernel_rfl) (fun _ _ _ h => h) (Or.inl ⟨by rfl, ?_⟩) hHeld ?_
          rotate_left
          · (intro wa hSw; have K := OS.out _ hSw; have cb0 := K.1.2 0 _ rfl; have cb1 := K.1.2 1 _ rfl; have cs := K.2; go_simp; try with_reducible rfl)
          simp only [Act.put, List.getElem_toArray, List.getElem_cons_zero, List.getElem_cons_succ, List.setIfInBounds_toArray, List.set_cons_zero, List.set_cons_succ]
          refine wpAnyH_take (i := 6) (v := ?_) rfl (by kernel_rfl) (by kernel_rfl) (by kernel_rfl) (fun _ _ _ h => h) (Or.inl ⟨by rfl, ?_⟩) hHeld ?_
          rotate_left
          · (intro wa hSw; go_simp; try with_reducible rfl)
          simp only [Act.put, List.getElem_toArray, List.getElem_cons_zero, List.getElem_cons_succ, List.setIfInBounds_toArray, List.set_cons_zero, List.set_cons_succ]
          refine wpAnyH_take (i := 7) (v := ?_) rfl (by kernel_rfl) (by kernel_rfl) (by kernel_rfl) (fun _ _ _ h => h) (Or.inl ⟨by rfl, ?_⟩) hHeld ?_
          rotate_left
          · (intro wa hSw; have K := OS.out _ hSw; have cb0 := K.1.2 0 _ rfl; have cb1 := K.1.2 1 _ rfl; have cs := K.2; go_simp; try with_reducible rfl)
          simp only [Act.put, List.getElem_toArray, List.getElem_cons_zero, List.getElem_cons_succ, List.setIfInBounds_toArray, List.set_cons_zero, List.set_cons_succ]
          refine wpAnyH_ready (rs := [8]) (by kernel_rfl) (by simp) ?_
          refine AllReadyH.cons (o := _) rfl (fun K hK => ?_) AllReadyH.nil
          go_simp
          have KK := OS.out _ hHeld
          refine (exchanged_impl ph pa _).mono ?_
          rintro e w101 ⟨rfl, b101⟩
          have HP2 := Lib.hid (owns_below (w := V.drew) HZV.out b101 (Nat.le_refl _))
          have HS2 := Lib.hid (HSV.out.drew.trans (b101.mono (Nat.le_trans (Nat.le_of_lt hl0U) HSV.out.size)))
          have HX2 := Lib.hid (KK.1.below b101)
          obtain ⟨u2, e2⟩ := owns_cellR HP2.out (j * 2) (by omega)
          have f2 := HP2.out.frozenAt (j * 2)
          obtain ⟨u3, e3⟩ := owns_cellR HP2.out (j * 2 + 1) (by omega)
          have f3 := HP2.out.frozenAt (j * 2 + 1)
          have HQ1 := Lib.hid (owns_below (w := V.drew) HYV.out b101 (Nat.le_refl _))
          clear KK
          (try go_wp2_with fail)
          refine hK.out _ _ ?_ (fun hHeld101 => ?_)
          · exact KS.out _ _ hHeld b101
          clear hK K
          refine wpAnyH_take (i := 9) (v := ?_) rfl (by kernel_rfl) (by kernel_rfl) (by kernel_rfl) (fun _ _ _ h => h) (Or.inl ⟨by rfl, ?_⟩) hHeld101 ?_
          rotate_left
          · (intro wa hSw; go_simp; try with_reducible rfl)
          simp only [Act.put, List.getElem_toArray, List.getElem_cons_zero, List.getElem_cons_succ, List.setIfInBounds_toArray, List.set_cons_zero, List.set_cons_succ]
          refine wpAnyH_ready (rs := [10]) (by kernel_rfl) (by simp) ?_
          refine AllReadyH.cons (o := _) rfl (fun K hK => ?_) AllReadyH.nil
          go_simp
          refine hK.out _ _ ?_ (fun hHeld102 => ?_)
          · exact IS.out _ ((fun K => ⟨(K.1.elsewhere _ _ HNE1.out).elsewhere _ _ HNE1.out, ((World.cell?_setCell_other _ _ _ _ (fun e => HNE2.out (congrArg Addr.block e))).trans (World.cell?_setCell_other _ _ _ _ (fun e => HNE2.out (congrArg Addr.block e)))).trans K.2⟩) (OS.out _ hHeld101))
          clear hK K
          clear hHeld101
          refine wpAnyH_done (by kernel_rfl) ?_ _
          have KE := Lib.hid (OS.out _ hHeld102)
          clear KS OS IS hHeld hHeld102
          have HYC2 : Hid (RecCells 2 (j + 1) ((ys.set (j * 2) (.int .i64 ph)).set (j * 2 + 1) (.int .i64 pa)) (fun i => (atPair r i).cells)) := RecCells.sets (n := m) HYC.out HY.out.1 hlt2 HT1.out rfl (fun _ _ => Nat.le_refl _)
          have HZC2 : Hid (RecCells 2 (j + 1) ((zs.set (j * 2) (.int .i64 pa)).set (j * 2 + 1) (.int .i64 ph)) (fun i => (atPair (turnR r) i).cells)) := RecCells.sets (n := m) HZC.out HZ.out.1 hlt2 HT2.out rfl (fun _ _ => Nat.le_refl _)
          have HZN := Lib.hid ((HP2.out.stored (j * 2) (.int .i64 pa)).1.stored (j * 2 + 1) (.int .i64 ph)).1
          have HYN := Lib.hid (ownsRow_setCell_other (ownsRow_setCell_other HQ1.out (a := ⟨U1.heap.size, j * 2, none⟩) (fun e => by have e2 : w0.heap.size = U1.heap.size := Option.some.inj e; omega) (.int .i64 pa)) (a := ⟨U1.heap.size, j * 2 + 1, none⟩) (fun e => by have e2 : w0.heap.size = U1.heap.size := Option.some.inj e; omega) (.int .i64 ph))
          have HSN := Lib.hid ((HS2.out.setCell (p := ⟨U1.heap.size, j * 2, none⟩) (Nat.le_of_lt hl0) (.int .i64 pa)).setCell (p := ⟨U1.heap.size, j * 2 + 1, none⟩) (Nat.le_of_lt hl0) (.int .i64 ph))
          clear KE HX2 HP2 HQ1 HS2 HY HZ HS HYC HZC HYV HZV HSV HXV HC2V e2 e3 f2 f3
          go_wp2
          go_roundw
          case rel => exact ⟨j + 1, _, _, by omega, by go_num, HYN, HYC2, HZN, HZC2, HSN⟩
          case measure => simp [RowKit.intOf]; omega
        obtain rfl : j = m := by omega
        have HAN : Hid (RowsAp 30 tPairS wr w.heap.size (.slice (some ⟨w.heap.size, 0, none⟩) (2 * n) (2 * n)) (mirK d n (k + 1)) ((xs.set k (.slice (some ⟨w0.heap.size, 0, none⟩) j j)).set (n + k) (.slice (some ⟨U1.heap.size, 0, none⟩) j j))) := mir_step HA.out HRD.out hlt HM.out (by omega) (by omega) HBU2.out HS.out (by omega) HOU2.out hB0 HY.out HYC.out HZ.out HZC.out (by omega)
        have HBN : Hid (Below w.heap.size w wr) := HBW2.out.trans (HS.out.mono (by omega))
        clear HA HY HYC HZ HZC HS
        go_wp2
        go_roundw
        case rel => exact ⟨k + 1, _, by omega, by go_num, HAN, HBN⟩
        case measure => simp [RowKit.intOf]; omega
    obtain rfl : k = n := by omega
    have HF : Hid (OwN tPairSS wr w.heap.size wr.heap.size [(.slice (some ⟨w.heap.size, 0, none⟩) (2 * k) (2 * k))] (mirL d)) := by
      have h9 := HA.out.own rfl
      rw [mirK_all d HD.out] at h9
      exact h9
    clear HA
    go_wp2
    go_ret
    exact ⟨_, rfl, HF.out, HB.out⟩
end Go.Proofs.Ytgemdjcadlejfaa
set_option linter.unusedVariables false
namespace Go.Proofs.Ytgemdjcadlejfaa
open Go.RowKit

def turnN (x m : Int) : Int := (x.tmod m + m).tmod m
theorem turn_in {x m : Int} (h : 0 < m) : 0 ≤ turnN x m ∧ turnN x m < m := by
  have h1 := Int.lt_tmod_of_pos x h
  have h2 : 0 ≤ x.tmod m + m := by omega
  exact ⟨Int.tmod_nonneg _ h2, Int.tmod_lt_of_pos _ h⟩
def aK (m r k : Nat) : Int := if k = 0 then (m : Int) - 1 else turnN ((r : Int) + k) ((m : Int) - 1)
def bK (m r k : Nat) : Int := turnN ((r : Int) - k) ((m : Int) - 1)
def swapK (r k : Nat) : Prop := (k = 0 ∧ r % 2 = 1) ∨ (0 < k ∧ k % 2 = 0)
instance (r k : Nat) : Decidable (swapK r k) := by unfold swapK; infer_instance
def pairK (m r k : Nat) : tPair.D := if swapK r k then mkP (bK m r k) (aK m r k) else mkP (aK m r k) (bK m r k)
def circK (n m r : Nat) : Nat → PairL
  | 0 => []
  | k + 1 => if (n : Int) ≤ aK m r k ∨ (n : Int) ≤ bK m r k then circK n m r k else circK n m r k ++ [pairK m r k]
def circN (n m : Nat) : Nat → List PairL
  | 0 => []
  | r + 1 => circN n m r ++ [circK n m r (m / 2)]
def circL (n : Nat) : List PairL := circN n (n + n % 2) (n + n % 2 - 1)
def circR (R : Bool) (N : Int) : List PairL := if R = true then circL N.toNat else []
theorem circK_len (n m r : Nat) : ∀ k, List.length (α := tPair.D) (circK n m r k) ≤ k
  | 0 => Nat.le_refl _
  | k + 1 => by
    have h := circK_len n m r k
    show List.length (α := tPair.D) (if _ then _ else _) ≤ _
    split
    · omega
    · rw [List.length_append]; show _ + 1 ≤ _; omega
theorem circN_len (n m : Nat) : ∀ k, List.length (α := PairL) (circN n m k) = k
  | 0 => rfl
  | k + 1 => by show List.length (α := PairL) (_ ++ [_]) = _; rw [List.length_append, circN_len n m k]; rfl
theorem l09Turn_spec (x m : Int) (w : World) (h0 : 0 < m) (h1 : m ≤ 1000) (hx : -1000 ≤ x ∧ x ≤ 1000) :
    Calls Try.prog 56 #[.int .i64 x, .int .i64 m] w fun e w' => e = .returned (.int .i64 (turnN x m)) ∧ w = w' := by
  have a1 := Int.lt_tmod_of_pos x h0
  have a2 := Int.tmod_lt_of_pos x h0
  unfold turnN
  have hm0 : (m == 0) = false := beq_eq_false_iff_ne.2 (by omega)
  have hm0' : ¬ m = 0 := by omega
  obtain ⟨t, ht⟩ : ∃ t, x.tmod m = t := ⟨_, rfl⟩
  rw [ht] at a1 a2 ⊢
  have s1 : IntKind.i64.wrap (t + m) = t + m := IntWalk.i64_in _ (by omega)
  go_enter Try.func56, Try.ntmps56
  go_wp2
  go_ret
  exact ⟨by rw [Int.tmod_eq_emod_of_nonneg (by omega)]; rfl, rfl⟩
end Go.Proofs.Ytgemdjcadlejfaa
