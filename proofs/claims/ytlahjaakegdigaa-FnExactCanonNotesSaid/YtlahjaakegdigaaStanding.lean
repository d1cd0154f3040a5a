/-
  Records: the program's standingNotes (deletes from the map that it ranges over).
-/
import Derived.Test.YtlahjaakegdigaaApplyFacts
import Derived.Test.YtlahjaakegdigaaCanonWalk
set_option linter.unusedVariables false
namespace Go.Proofs.Ytlahjaakegdigaa
open Go.RowKit Go.Maps

/-- the map holds the first notes that are still to come, and of the others those that stand -/
def standing (g : Nat → NoteD) (n : Nat) (left : Lit → Bool) (F : Int → Int) : Prop :=
  (∀ s, F s = if left (.int .i64 s) = true then firstS g n s else standS g n s) ∧ ∀ s, left (.int .i64 s) = true → 0 ≤ firstS g n s
theorem standing.start {g : Nat → NoteD} {n : Nat} {left : Lit → Bool} (h : ∀ kl, left kl = true ↔ ∃ s : Int, kl = .int .i64 s ∧ 0 ≤ firstS g n s) : standing g n left (firstS g n) := by
  have h0 : ∀ s, left (.int .i64 s) = true ↔ 0 ≤ firstS g n s := fun s => by
    rw [h]
    constructor
    · rintro ⟨t, e, ht⟩
      simp only [Lit.int.injEq, true_and] at e
      rw [e]; exact ht
    · exact fun ht => ⟨s, rfl, ht⟩
  refine ⟨fun s => ?_, fun s hs => (h0 s).1 hs⟩
  by_cases e : left (.int .i64 s) = true
  · rw [if_pos e]
  · rw [if_neg e]
    have : ¬ 0 ≤ firstS g n s := fun h => e ((h0 s).2 h)
    unfold standS
    rw [if_neg fun h => this h.1]
    have := firstS_ge g n s
    omega
theorem left_struck {left : Lit → Bool} {s t : Int} : ((left (.int .i64 t) && !(Lit.int .i64 t).sameKey (.int .i64 s)) = true) ↔ left (.int .i64 t) = true ∧ t ≠ s := by
  rw [same_int]; simp
theorem standing.step {g : Nat → NoteD} {n : Nat} {left left' : Lit → Bool} {F F' : Int → Int} {s : Int} {j : Nat} (h : standing g n left F) (hl : left (.int .i64 s) = true) (hj : F s = (j : Int))
    (hl' : ∀ t, left' (.int .i64 t) = true ↔ left (.int .i64 t) = true ∧ t ≠ s) (h1 : F' s = if s < serialN g (g j).game n then -1 else (j : Int)) (h2 : ∀ t, t ≠ s → F' t = F t) : standing g n left' F' := by
  have hs := h.1 s
  rw [if_pos hl, hj] at hs
  refine ⟨fun t => ?_, fun t ht => h.2 t ((hl' t).1 ht).1⟩
  by_cases e : t = s
  · subst e
    rw [if_neg (fun e2 => ((hl' t).1 e2).2 rfl), h1]
    unfold standS
    have e0 : (firstS g n t).toNat = j := by rw [← hs]; simp
    by_cases hlt : t < serialN g (g j).game n
    · rw [if_pos hlt, if_neg (fun e2 => e2.2 (by rw [e0]; exact hlt))]
    · rw [if_neg hlt, if_pos ⟨by omega, by rw [e0]; exact hlt⟩, hs]
  · rw [h2 t e, h.1 t]
    by_cases e2 : left (.int .i64 t) = true
    · rw [if_pos e2, if_pos ((hl' t).2 ⟨e2, e⟩)]
    · rw [if_neg e2, if_neg (fun e3 => e2 ((hl' t).1 e3).1)]
theorem standing.index {g : Nat → NoteD} {n : Nat} {left : Lit → Bool} {F : Int → Int} {s : Int} {j : Nat} (h : standing g n left F) (hl : left (.int .i64 s) = true) (hj : F s = (j : Int)) : j < n ∧ (g j).serial = s := by
  have hs := h.1 s
  rw [if_pos hl, hj] at hs
  rcases firstS_spec g s n with ⟨h1, _⟩ | ⟨j', h1, h2, h3, _⟩
  · omega
  · obtain rfl : j = j' := by omega
    exact ⟨h2, h3⟩
set_option maxRecDepth 100000 in
set_option maxHeartbeats 1000000 in
theorem standingNotes_impl (aa : Option Addr) (n cap B O : Nat) (g : Nat → NoteD) (w : World) (hf : ∀ i, (g i).fit) (hat : NotesAt w aa n cap B O g) (hn6 : n ≤ 1048576) :
    Calls Try.prog 51 #[.slice aa n cap] w fun e w' => ∃ M, e = .returned (.map (some M)) ∧ w.heap.size ≤ M ∧ PtrMap Try.prog w' 3 B O M n (standS g n) ∧ Below w.heap.size w w' := by
  have CF := Lib.hid (firstNotes_impl aa n cap B O g w hf hat hn6)
  have HAT := Lib.hid hat
  have HF := Lib.hid hf
  clear hat hf
  go_enter Try.func51, Try.ntmps51
  go_wp2_with fail
  refine CF.out.mono ?_
  rintro e w1 ⟨M, rfl, hM, hm1, b1⟩
  have HB1 := Lib.hid b1
  have z1 := b1.size
  clear CF b1
  go_wp2_with (at_range; refine wpList_ptrRange rfl (.tmp 8) 59 rfl 3 61 kInt Try.underlying59 B O M n (firstS g n) rfl hm1 ?_; intro w2 left0 cnt0 hl0 hr0 g2 s2)
  go_frame
  have HR0 := Lib.hid hr0
  have HST := Lib.hid (standing.start hl0)
  have HB2 := Lib.hid (HB1.out.grown g2 z1 (by simp))
  obtain ⟨r, hr⟩ : ∃ r, w1.heap.size = r := ⟨_, rfl⟩
  have hMr : M ≠ r := by have := hm1.lt; omega
  rw [hr] at HR0 ⊢
  have hr1 : w.heap.size ≤ r := by omega
  have HRM : Hid (M < r) := Lib.hid (by rw [← hr]; exact hm1.lt)
  clear hr0 hl0 g2 hm1 HB1
  go_loopw [4] (fun _ wr => ∃ (left : Lit → Bool) (cnt : Nat) (F : Int → Int), Hid (PtrRange Try.prog wr 3 B O M r n F left cnt) ∧ Hid (standing g n left F) ∧ Hid (Below w.heap.size w wr)) (fun _ wr => wr.rangeLeft M r)
  case atStart => exact ⟨left0, cnt0, _, HR0, HST, HB2⟩
  case round =>
    clear HR0 HST HB2
    obtain ⟨left, cnt, F, hrg, hst, hb⟩ := hrel
    have hsz := hb.out.size
    go_wp2_with (at_next; refine wpList_ptrNext rfl (.tmp 9) rfl 3 kInt Try.underlying3 B O M r n F left cnt rfl hrg.out ?_ ?_)
    · intro hl0
      go_wp2
      go_ret
      exact ⟨M, rfl, hM, hrg.out.owns.congr fun s => by rw [hst.out.1 s, if_neg (by rw [hl0]; simp)], hb.out⟩
    · intro s j w3 cnt3 hwf hlk hFs hrg3 hlt3 hg3 hs3 hen
      have HIDX := Lib.hid (hst.out.index hlk hFs)
      have hjn := HIDX.out.1
      have hb3 := Lib.hid (hb.out.grown hg3 hsz (fun q hq => by cases hq; omega))
      have hsz3 := hb3.out.size
      obtain ⟨rfl, _, hnc⟩ := HAT.out (by omega)
      have hq := (hnc j hjn).belowB hb3.out (hnc j hjn).1
      have HA3 := Lib.hid (HAT.out.below hb3.out (Nat.le_refl _))
      have CS := Lib.hid (serialOf_impl (.slice (some ⟨B, O, none⟩) n cap) n g (g j).game w3 (HA3.out.row (by omega)))
      have HSTEP := Lib.hid (fun left' F' => hst.out.step (left' := left') (F' := F') hlk hFs)
      have HRG3 := Lib.hid hrg3
      have HWF := Lib.hid hwf
      obtain ⟨c0, c1, c2, c3, c4, c5, c6⟩ := note_cells hq
      have hcl := hq.1
      generalize g j = x at *
      generalize serialN g x.game n = sv at *
      have HLT3 := Lib.hid hlt3
      clear hq hnc HF HAT hrg3 hst hlk hwf HA3 HIDX hjn hlt3
      go_wp2_with fail
      refine CS.out.mono ?_
      rintro e w4 ⟨rfl, b4⟩
      have HRG4 := Lib.hid (HRG3.out.below b4 (Nat.le_refl _))
      have HB4 := Lib.hid (hb3.out.trans (b4.mono hsz3))
      have hsz4 := HB4.out.size
      clear CS b4 HRG3 hb3 c0 c1 c2 c3 c4 c5 c6 hcl hen hb hg3
      by_cases hsv : s < sv
      · have g1 : decide (s < sv) = true := decide_eq_true hsv
        have HSV := Lib.hid hsv
        clear hsv
        go_wp2_with (at_delete; refine wpList_ptrDel rfl (.tmp 23) (.tmp 24) 59 3 rfl 61 kInt Try.underlying59 Try.underlying3 B O M r n F (fun t => if t = s then -1 else F t) _ cnt3 rfl HRG4.out s rfl HWF.out (if_pos rfl) (fun t ht => if_neg ht) ?_; intro w5 cnt5 hrg5 hle5 g5)
        go_frame
        go_roundw
        case rel =>
          refine ⟨_, cnt5, _, Lib.hid hrg5, Lib.hid (HSTEP.out _ _ (fun t => ?_) ?_ (fun t ht => if_neg ht)), Lib.hid (HB4.out.grown g5 hsz4 (fun q hq => by cases hq; omega))⟩
          · rw [Bool.and_eq_true, left_struck, same_int]; simp
          · rw [if_pos HSV.out]; exact if_pos rfl
        case measure =>
          have := HLT3.out
          rw [hrg5.left_eq, hrg.out.left_eq]; omega
      · have g1 : decide (s < sv) = false := decide_eq_false hsv
        have HSV := Lib.hid hsv
        clear hsv
        go_wp2
        go_roundw
        case rel => exact ⟨_, cnt3, F, HRG4, Lib.hid (HSTEP.out _ _ (fun t => left_struck) (by rw [if_neg (by have := HSV.out; omega)]; exact hFs) (fun t ht => rfl)), HB4⟩
        case measure =>
          have := HLT3.out
          rw [HRG4.out.left_eq, hrg.out.left_eq]; omega
end Go.Proofs.Ytlahjaakegdigaa
