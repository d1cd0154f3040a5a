/-
  Packed: RecImplB, PtrMap, FirstNotes.
-/
import Derived.Test.YtojkonhhaamodaaQ13
set_option linter.unusedVariables false
namespace Go.Proofs.Ytojkonhhaamodaa
open Go.RowKit Go.Maps

/-- D holds just the serial numbers that stand on a game -/
def SeenD (g : Nat → NoteD) (gm : Int) (k : Nat) (D : DataW Unit) : Prop := (∀ kl, has D kl = true ↔ ∃ s, kl = .int .i64 s ∧ s ∈ seenL g gm k) ∧ size D = (seenL g gm k).length
theorem SeenD.same {g : Nat → NoteD} {gm : Int} {k : Nat} {D : DataW Unit} (h : SeenD g gm k D) (hn : ¬ (g k).game = gm) : SeenD g gm (k + 1) D := by
  have e : seenL g gm (k + 1) = seenL g gm k := by rw [seenL, if_neg (fun h => hn h.1)]
  unfold SeenD
  rw [e]; exact h
theorem SeenD.put {g : Nat → NoteD} {gm : Int} {k : Nat} {D : DataW Unit} {z : DataW Unit} (h : SeenD g gm k D) (ht : Tidy D) (hg : (g k).game = gm) : SeenD g gm (k + 1) (D.put (.int .i64 (g k).serial) z) := by
  have hk : WideAt.IsKeyLit (.int .i64 (g k).serial) := trivial
  have hin : ∀ s, s ∈ seenL g gm (k + 1) ↔ s ∈ seenL g gm k ∨ s = (g k).serial := by
    intro s
    rw [seenL]
    by_cases hm : (g k).serial ∈ seenL g gm k
    · rw [if_neg (fun h => h.2 hm)]
      constructor
      · exact .inl
      · rintro (h | rfl)
        · exact h
        · exact hm
    · rw [if_pos ⟨hg, hm⟩]; simp
  have hmem : has D (.int .i64 (g k).serial) = true ↔ (g k).serial ∈ seenL g gm k := by
    rw [h.1]
    constructor
    · rintro ⟨s, e, hs⟩
      simp only [Lit.int.injEq, true_and] at e
      rw [e]; exact hs
    · exact fun hs => ⟨_, rfl, hs⟩
  refine ⟨fun kl => ?_, ?_⟩
  · by_cases e : kl = .int .i64 (g k).serial
    · subst e
      rw [has_put_same ht.isMap hk]
      exact ⟨fun _ => ⟨_, rfl, (hin _).2 (.inr rfl)⟩, fun _ => rfl⟩
    · rw [has_put_other e, h.1]
      constructor
      · rintro ⟨s, rfl, hs⟩; exact ⟨s, rfl, (hin s).2 (.inl hs)⟩
      · rintro ⟨s, rfl, hs⟩
        rcases (hin s).1 hs with hs | rfl
        · exact ⟨s, rfl, hs⟩
        · exact absurd rfl e
  · rw [size_put ht, h.2, seenL]
    by_cases hm : (g k).serial ∈ seenL g gm k
    · rw [if_pos (hmem.2 hm), if_neg (fun h => h.2 hm)]
    · rw [if_neg (fun e => hm (hmem.1 e)), if_pos ⟨hg, hm⟩]; simp
set_option maxRecDepth 100000 in
set_option maxHeartbeats 1000000 in
theorem corrections_impl (v : Value) (n : Nat) (g : Nat → NoteD) (gm : Int) (w : World) (hf : ∀ i, (g i).fit) (hv : NoteRow w v n g) (hn6 : n ≤ 1048576) :
    Calls Try.prog 14 #[v, .int .i64 gm] w fun e w' => e = .returned (.int .i64 (corrN g gm n)) ∧ Below w.heap.size w w' := by
  obtain ⟨aa, cap, rfl, hn, hc⟩ := hv.form
  have HV := Lib.hid hc
  have HF := Lib.hid hf
  clear hc hv hf
  generalize hR : corrN g gm n = R
  have HR := Lib.hid hR
  clear hR
  have hmm := @run_makeMap Try.prog
  have m1 : (w.alloc (.map #[] 0)).ownsMap Try.prog 3 (plainElem (H := Unit) Try.prog 4) w.heap.size 0 (.map []) := World.ownsMap_made _ _ _ _
  go_enter Try.func14, Try.ntmps14
  go_wp2
  go_loopw [11] (fun i wr => ∃ (k : Nat) (D : DataW Unit), k ≤ n ∧ i = .int .i64 k ∧ Hid (wr.ownsMap Try.prog 3 (plainElem Try.prog 4) w.heap.size k D) ∧ Hid (SeenD g gm k D) ∧ Below w.heap.size w wr) (fun i _ => n - (intOf i).toNat)
  case atStart => exact ⟨0, _, Nat.zero_le _, rfl, m1, ⟨fun kl => ⟨fun h => by simp [Maps.has_eq] at h, fun ⟨s, _, hs⟩ => by simp [seenL] at hs⟩, rfl⟩, (Below.refl _ _).alloc (Nat.le_refl _) _⟩
  case round =>
    clear m1
    obtain ⟨k, D, hk, rfl, m1, hD, hb⟩ := hrel
    have hsz := hb.size
    by_cases hlt : k < n
    · obtain ⟨b, off, rfl, hcap, hc⟩ := HV.out (by omega)
      have hq := (hc k hlt).belowB hb (hc k hlt).1
      have hfk := (HF.out k).1
      have HS : Hid (¬ (g k).game = gm → SeenD g gm (k + 1) D) := fun h => hD.out.same h
      have HP : Hid ((g k).game = gm → ∀ z, SeenD g gm (k + 1) (D.put (.int .i64 (g k).serial) z)) := fun h z => hD.out.put (m1.out.tidy kInt) h
      generalize g k = x at *
      have HK : Hid (Go.keyOf Try.prog 3 (.int .i64 x.serial) = some (.int .i64 x.serial)) := keyOf_int_mk Try.underlying3 (WalkArith.wf_i64 (by unfold IntFit at hfk; omega))
      obtain ⟨c0, c1, c2, c3, c4, c5, c6⟩ := note_cells hq
      have M := Lib.hid (m1.out.alloc (.cells #[.int .i64 x.serial, .int .i64 x.game, .int .i64 x.res.home, .int .i64 x.res.away, .int .i64 x.res.hg, .int .i64 x.res.ag, .int .i64 x.res.st] 39))
      have hb2 := hb.alloc hsz (.cells #[.int .i64 x.serial, .int .i64 x.game, .int .i64 x.res.home, .int .i64 x.res.away, .int .i64 x.res.hg, .int .i64 x.res.ag, .int .i64 x.res.st] 39)
      clear hc HV hq HF hD m1 hb hfk
      by_cases h0 : x.game = gm
      · have HPP := Lib.hid (HP.out h0)
        have g1 : (x.game == gm) = true := by simpa using h0
        clear HP HS h0
        go_wp2_with (at_mapUpdate; refine wpList_mapUpdate_own _ rfl (.tmp 19) (.tmp 21) (.const (.bool true)) 64 rfl 3 4 kInt Try.underlying64 _ w.heap.size k D rfl M.out (by unfold maxLen; omega) _ _ _ rfl rfl HK.out (.lit (.bool true)) [] (plainElem_bool Try.underlying4 true) ?_; intro w3 m3 g3)
        go_roundw
        case rel => exact ⟨k + 1, _, by omega, by go_num, m3, Lib.hid (HPP.out _), hb2.grown g3 hb2.size (fun q hq => by cases hq; omega)⟩
        case measure => simp [intOf]; omega
      · have HSS := Lib.hid (HS.out h0)
        have g1 : (x.game == gm) = false := beq_eq_false_iff_ne.2 h0
        clear HP HS h0
        go_wp2
        go_roundw
        case rel => exact ⟨k + 1, D, by omega, by go_num, Lib.hid (M.out.mono (Nat.le_succ k)), HSS.out, hb2⟩
        case measure => simp [intOf]; omega
    · obtain rfl : k = n := by omega
      have hs := hD.out.2
      have hR := HR.out
      unfold corrN at hR
      rw [← hs] at hR
      have M := m1.out
      have hsl := M.size_le
      generalize hS : size D = S at *
      clear HR HV HF hD hs m1
      by_cases h1 : 0 < (S : Int) - 1
      · rw [if_pos h1] at hR
        have g1 : decide (0 < (S : Int) - 1) = true := decide_eq_true h1
        have g2 : decide ((S : Int) - 1 < 0) = false := decide_eq_false (by omega)
        have HSZ := Lib.hid hS
        have hmx : max ((S : Int) - 1) 0 = R := by omega
        have H1 := Lib.hid h1
        have H2 := Lib.hid hR
        clear hR
        go_wp2_with (at_len; refine wpList_len_own _ rfl (.tmp 23) 64 rfl 3 4 Try.underlying64 _ w.heap.size k D rfl M ?_; rw [hS])
        go_ret
        refine ⟨?_, hb⟩
        rw [← H2.out]
        rfl
      · rw [if_neg h1] at hR
        have g1 : decide (0 < (S : Int) - 1) = false := decide_eq_false h1
        have H1 := Lib.hid h1
        have H2 := Lib.hid hR
        have hS2 := Lib.hid hS
        clear hR
        go_wp2_with (at_len; refine wpList_len_own _ rfl (.tmp 23) 64 rfl 3 4 Try.underlying64 _ w.heap.size k D rfl M ?_; rw [hS])
        all_goals go_ret
        all_goals refine ⟨?_, hb⟩
        all_goals have h5 := H1.out
        all_goals rw [← H2.out]
        all_goals first | rfl | (show Ending.returned (.int .i64 ((S : Int) - 1)) = _; congr 2; omega)
theorem noteEq_impl (v v' : Value) (n n' : Nat) (g g' : Nat → NoteD) (R : Bool) (w : World) (hR : R = true ↔ n = n' ∧ ∀ i, i < n → g i = g' i) (hv : NoteRow w v n g) (hv' : NoteRow w v' n' g') :
    Calls Try.prog 26 #[v, v'] w fun e w' => e = .returned (.bool R) ∧ Below w.heap.size w w' := by
  obtain ⟨aa, cap, rfl, hn, hc⟩ := hv.form
  obtain ⟨aa', cap', rfl, hn', hc'⟩ := hv'.form
  have HV := Lib.hid hc
  have HV' := Lib.hid hc'
  have HR := Lib.hid hR
  clear hc hv hc' hv' hR
  by_cases hnn : n = n'
  rotate_left
  · have g0 : ((n : Int) == (n' : Int)) = false := beq_eq_false_iff_ne.2 (by omega)
    have g1 : ((n : Int) != (n' : Int)) = true := bne_iff_ne.2 (by omega)
    obtain rfl := bool_not HR.out (fun h => hnn h.1)
    clear HR
    go_enter Try.func26, Try.ntmps26
    go_wp2
    go_ret
    exact ⟨rfl, Below.refl _ _⟩
  subst hnn
  have HNO : Hid (∀ k, k < n → g k ≠ g' k → R = false) := fun k hk h => bool_not HR.out (fun e => h (e.2 k hk))
  have HYES : Hid ((∀ i, i < n → g i = g' i) → R = true) := fun h => HR.out.2 ⟨rfl, h⟩
  clear HR
  go_enter Try.func26, Try.ntmps26
  go_wp2
  go_loopw [13] (fun i wr => ∃ k : Nat, k ≤ n ∧ i = .int .i64 k ∧ Hid (∀ i, i < k → g i = g' i) ∧ Below w.heap.size w wr) (fun i _ => n - (intOf i).toNat)
  case atStart => exact ⟨0, Nat.zero_le _, rfl, fun i hi => absurd hi (by omega), Below.refl _ _⟩
  case round =>
    obtain ⟨k, hk, rfl, hok, hb⟩ := hrel
    by_cases hlt : k < n
    · obtain ⟨b, off, rfl, hcap, hc⟩ := HV.out (by omega)
      obtain ⟨b', off', rfl, hcap', hc'⟩ := HV'.out (by omega)
      have hq := (hc k hlt).belowB hb (hc k hlt).1
      have hq' := (hc' k hlt).belowB hb (hc' k hlt).1
      have HS : Hid (g k = g' k → ∀ i, i < k + 1 → g i = g' i) := fun h i hi => by
        by_cases hik : i = k
        · subst hik; exact h
        · exact hok.out i (by omega)
      have HN := Lib.hid (HNO.out k hlt)
      generalize g k = x at *
      generalize g' k = y at *
      obtain ⟨c0, c1, c2, c3, c4, c5, c6⟩ := note_cells hq
      obtain ⟨d0, d1, d2, d3, d4, d5, d6⟩ := note_cells hq'
      clear hc HV hc' HV' hq hq' hok HNO HYES
      by_cases hxy : x = y
      · have HX := Lib.hid (HS.out hxy)
        subst hxy
        clear HS HN
        go_wp2
        go_quiet (fail)
        go_wp2
        go_roundw
        case rel => exact ⟨k + 1, by omega, by go_num, HX.out, below_drewN hb _⟩
        case measure => simp [intOf]; omega
      · obtain rfl := HN.out hxy
        have hne := note_ne hxy
        clear HS HN hxy
        rcases hne with f | f | f | f | f | f | f
        all_goals
          go_wp2
          go_quiet (fail)
          go_wp2
          go_ret
          exact ⟨rfl, below_drewN hb _⟩
    · obtain rfl : k = n := by omega
      obtain rfl := HYES.out hok.out
      clear HNO HYES hok
      go_wp2
      go_ret
      exact ⟨rfl, hb⟩
theorem sameNotes_impl (v v' : Value) (n n' : Nat) (g g' : Nat → NoteD) (R : Bool) (w : World) (hR : R = true ↔ n = n' ∧ ∀ i, i < n → g i = g' i) (hv : NoteRow w v n g) (hv' : NoteRow w v' n' g') :
    Calls Try.prog 10 #[v, v'] w fun e w' => e = .returned (.bool R) ∧ Below w.heap.size w w' := by
  have C := Lib.hid (noteEq_impl v v' n n' g g' R w hR hv hv')
  clear hR
  obtain ⟨aa, cap, rfl, hn, _⟩ := hv.form
  obtain ⟨aa', cap', rfl, hn', _⟩ := hv'.form
  clear hv hv'
  go_enter Try.func10, Try.ntmps10
  go_wp2_with fail
  refine C.out.mono ?_
  rintro e w2 ⟨rfl, b⟩
  go_wp2
  go_ret
  exact ⟨rfl, b⟩
end Go.Proofs.Ytojkonhhaamodaa
set_option linter.unusedVariables false
namespace Go.Proofs.Ytojkonhhaamodaa
open Go.RowKit Go.Maps

/-- a pointer to record number i of the row at block b, offset o; nil where i is negative -/
def ptrV (b o : Nat) (i : Int) : Value := if i < 0 then .pointer none else .pointer (some ⟨b, o + i.toNat * 7, none⟩)
theorem ptrV_neg {b o : Nat} {i : Int} (h : i < 0) : ptrV b o i = .pointer none := if_pos h
theorem ptrV_nat (b o j : Nat) : ptrV b o (j : Int) = .pointer (some ⟨b, o + j * 7, none⟩) := by
  unfold ptrV; rw [if_neg (by omega)]; simp
/-- such a pointer read as its number -/
def ptrElem (b o : Nat) (v : Value) : Option (DataW Unit × List MemPlace) :=
  match v with
  | .pointer none => some (.lit (.int .i64 (-1)), [])
  | .pointer (some ⟨b', o', none⟩) => if b' = b ∧ o ≤ o' ∧ (o' - o) % 7 = 0 then some (.lit (.int .i64 (((o' - o) / 7 : Nat) : Int)), []) else none
  | _ => none
theorem ptrElem_mk (b o : Nat) {i : Int} (h : -1 ≤ i) : ptrElem b o (ptrV b o i) = some (.lit (.int .i64 i), []) := by
  by_cases h0 : i < 0
  · obtain rfl : i = -1 := by omega
    rw [ptrV_neg h0]; rfl
  · obtain ⟨j, rfl⟩ : ∃ j : Nat, i = (j : Int) := ⟨i.toNat, by omega⟩
    rw [ptrV_nat]
    unfold ptrElem
    have e1 : o + j * 7 - o = j * 7 := by omega
    simp [e1]
theorem ptrElem_inv {b o : Nat} {v : Value} {z : DataW Unit × List MemPlace} (h : ptrElem b o v = some z) : ∃ i : Int, -1 ≤ i ∧ v = ptrV b o i ∧ z = (.lit (.int .i64 i), []) := by
  unfold ptrElem at h
  split at h
  · exact ⟨-1, by omega, (ptrV_neg (by omega)).symm, (Option.some.inj h).symm⟩
  · rename_i b' o'
    by_cases hc : b' = b ∧ o ≤ o' ∧ (o' - o) % 7 = 0
    · rw [if_pos hc] at h
      obtain ⟨rfl, h1, h2⟩ := hc
      refine ⟨((o' - o) / 7 : Nat), by omega, ?_, (Option.some.inj h).symm⟩
      rw [ptrV_nat]
      have : o + (o' - o) / 7 * 7 = o' := by omega
      rw [this]
    · rw [if_neg hc] at h; cases h
  · cases h
/-- D holds the number F s at the key s, and nothing where F s is negative -/
def MapD (F : Int → Int) (D : DataW Unit) : Prop :=
  (∀ kl, has D kl = true ↔ ∃ s : Int, kl = .int .i64 s ∧ 0 ≤ F s) ∧ (∀ s : Int, D.atKey (.int .i64 s) (.lit (.int .i64 (-1))) = .lit (.int .i64 (F s))) ∧ ∀ s, -1 ≤ F s
theorem MapD.none : MapD (fun _ => -1) (.map []) :=
  ⟨fun kl => ⟨fun h => by simp [Maps.has_eq] at h, fun ⟨s, _, h⟩ => absurd (show (0 : Int) ≤ -1 from h) (by omega)⟩, fun s => rfl, fun s => Int.le_refl _⟩
theorem MapD.put {F F' : Int → Int} {D : DataW Unit} {s i : Int} (h : MapD F D) (hm : IsMap D) (hi : 0 ≤ i) (h1 : F' s = i) (h2 : ∀ t, t ≠ s → F' t = F t) : MapD F' (D.put (.int .i64 s) (.lit (.int .i64 i))) := by
  obtain ⟨ha, hb, hc⟩ := h
  have hk : WideAt.IsKeyLit (.int .i64 s) := trivial
  refine ⟨fun kl => ?_, fun t => ?_, fun t => ?_⟩
  · by_cases e : kl = .int .i64 s
    · subst e
      rw [has_put_same hm hk]
      exact ⟨fun _ => ⟨s, rfl, by omega⟩, fun _ => rfl⟩
    · rw [has_put_other e, ha kl]
      constructor
      · rintro ⟨t, rfl, ht⟩
        exact ⟨t, rfl, by rw [h2 t (fun e' => e (by rw [e']))]; exact ht⟩
      · rintro ⟨t, rfl, ht⟩
        exact ⟨t, rfl, by rw [h2 t (fun e' => e (by rw [e']))] at ht; exact ht⟩
  · by_cases e : t = s
    · subst e
      rw [atKey_put_same hm hk, h1]
    · rw [atKey_put_other (by simpa using e), hb t, h2 t e]
  · by_cases e : t = s
    · subst e; omega
    · rw [h2 t e]; exact hc t
theorem MapD.del {F F' : Int → Int} {D : DataW Unit} {s : Int} (h : MapD F D) (h1 : F' s = -1) (h2 : ∀ t, t ≠ s → F' t = F t) : MapD F' (D.del (.int .i64 s)) := by
  obtain ⟨ha, hb, hc⟩ := h
  refine ⟨fun kl => ?_, fun t => ?_, fun t => ?_⟩
  · by_cases e : kl = .int .i64 s
    · subst e
      rw [has_del_same]
      refine ⟨(fun h => by cases h), ?_⟩
      rintro ⟨t, e, ht⟩
      simp only [Lit.int.injEq, true_and] at e
      subst e
      omega
    · rw [has_del_other e, ha kl]
      constructor
      · rintro ⟨t, rfl, ht⟩
        exact ⟨t, rfl, by rw [h2 t (fun e' => e (by rw [e']))]; exact ht⟩
      · rintro ⟨t, rfl, ht⟩
        exact ⟨t, rfl, by rw [h2 t (fun e' => e (by rw [e']))] at ht; exact ht⟩
  · by_cases e : t = s
    · subst e
      rw [atKey_del_same, h1]
    · rw [atKey_del_other (by simpa using e), hb t, h2 t e]
  · by_cases e : t = s
    · subst e; omega
    · rw [h2 t e]; exact hc t
/-- block m of w is such a map, of at most n entries -/
def PtrMap (P : Program) (w : World) (k : TypeId) (b o m n : Nat) (F : Int → Int) : Prop := ∃ D : DataW Unit, w.ownsMap P k (ptrElem b o) m n D ∧ MapD F D
/-- .. and is being ranged over -/
def PtrRange (P : Program) (w : World) (k : TypeId) (b o m r n : Nat) (F : Int → Int) (left : Lit → Bool) (cnt : Nat) : Prop := ∃ D : DataW Unit, w.ranges P k (ptrElem b o) m r n D left cnt ∧ MapD F D
section
variable {P : Program} {w w' : World} {k e t : TypeId} {b o m n r cnt : Nat} {F : Int → Int} {left : Lit → Bool}
theorem PtrMap.made (w : World) (P : Program) (k : TypeId) (b o : Nat) : PtrMap P (w.alloc (.map #[] 0)) k b o w.heap.size 0 (fun _ => -1) := ⟨.map [], World.ownsMap_made w P k _, MapD.none⟩
theorem PtrMap.grown {row : Option Nat} (h : PtrMap P w k b o m n F) (hg : w.grownBy w' row) (hne : some m ≠ row) : PtrMap P w' k b o m n F := by
  obtain ⟨D, ho, hD⟩ := h
  exact ⟨D, ho.kept hg hne, hD⟩
theorem PtrMap.below {B : Nat} (h : PtrMap P w k b o m n F) (hb : Below B w w') (hB : w.heap.size ≤ B) : PtrMap P w' k b o m n F := h.grown (below_grown hb hB) (by simp)
theorem PtrMap.alloc (h : PtrMap P w k b o m n F) (x : Obj) : PtrMap P (w.alloc x) k b o m n F := h.grown (World.grownBy_alloc w x none) (by simp)
theorem PtrMap.mono {n' : Nat} (h : PtrMap P w k b o m n F) (hn : n ≤ n') : PtrMap P w k b o m n' F := by
  obtain ⟨D, ho, hD⟩ := h
  exact ⟨D, ho.mono hn, hD⟩
theorem PtrMap.lt (h : PtrMap P w k b o m n F) : m < w.heap.size := by
  obtain ⟨D, ho, _⟩ := h
  exact ho.lt
theorem PtrMap.congr {F' : Int → Int} (h : PtrMap P w k b o m n F) (hF : ∀ s, F' s = F s) : PtrMap P w k b o m n F' := by
  obtain rfl : F' = F := funext hF
  exact h
theorem PtrMap.run (h : PtrMap P w k b o m n F) (K : Keyed P k) (ht : P.underlying t = some (.map k e)) (hk : P.underlying k = some (.int .i64)) (hz : (zeroValue e).run P w = .ok (.pointer none) w) {s : Int} (hs : (Lit.int .i64 s).wf = true) :
    (Instr.lookup t (.map (some m)) (.int .i64 s) false).run P w = .ok (ptrV b o (F s)) w := by
  obtain ⟨D, ho, _, hb, hc⟩ := h
  obtain ⟨v, ps, hrun, hv⟩ := ho.lookup K ht hz (show ptrElem b o (.pointer none) = some (.lit (.int .i64 (-1)), []) from rfl) (keyOf_int_mk hk hs)
  obtain ⟨i, _, rfl, hx⟩ := ptrElem_inv hv
  simp only [Prod.mk.injEq] at hx
  rw [hb s] at hx
  simp only [DataW.lit.injEq, Lit.int.injEq, true_and] at hx
  rw [hrun, hx.1]
theorem PtrMap.len (h : PtrMap P w k b o m n F) (ht : P.underlying t = some (.map k e)) (ty : TypeId) : ∃ c : Nat, c ≤ n ∧ (Builtin.len_ #[t] ty #[.map (some m)]).run P w = .ok (.int .i64 (c : Int)) w := by
  obtain ⟨D, ho, _⟩ := h
  exact ⟨_, ho.size_le, ho.len ht ty⟩
/-- 'm[s] = &records[i]' -/
theorem wpList_ptrPut {ops : Array Oper} {rest : List Oper} {op : Oper} {a : Act} {Q : Exit → Act → World → Prop} (hg : op.guard = none) (mm x v : Operand) (t : TypeId) (hop : op.op = Op.mapUpdate t mm x v)
    (k e : TypeId) (K : Keyed P k) (ht : P.underlying t = some (.map k e)) (hk : P.underlying k = some (.int .i64)) (b o m n : Nat) (F F' : Int → Int)
    (hm : a.eval mm = .map (some m)) (hown : PtrMap P w k b o m n F) (hn : n < maxLen) (s i : Int) (hx : a.eval x = .int .i64 s) (hv : a.eval v = ptrV b o i) (hs : (Lit.int .i64 s).wf = true) (hi : 0 ≤ i) (h1 : F' s = i) (h2 : ∀ t, t ≠ s → F' t = F t)
    (hK : ∀ w', PtrMap P w' k b o m (n + 1) F' → w.grownBy w' (some m) → wpList P ops Q rest (a.put op.dst undef) w') :
    wpList P ops Q (op :: rest) a w := by
  obtain ⟨D, ho, hD⟩ := hown
  exact wpList_mapUpdate_own w hg mm x v t hop k e K ht (ptrElem b o) m n D hm ho hn _ _ (.int .i64 s) hx hv (keyOf_int_mk hk hs) (.lit (.int .i64 i)) [] (ptrElem_mk b o (by omega)) fun w' g1 g2 => hK w' ⟨_, g1, hD.put ho.isMap hi h1 h2⟩ g2
/-- 'range m' -/
theorem wpList_ptrRange {ops : Array Oper} {rest : List Oper} {op : Oper} {a : Act} {Q : Exit → Act → World → Prop} (hg : op.guard = none) (mm : Operand) (t : TypeId) (hop : op.op = Op.range t mm) (k e : TypeId) (K : Keyed P k) (ht : P.underlying t = some (.map k e)) (b o m n : Nat) (F : Int → Int)
    (hm : a.eval mm = .map (some m)) (hown : PtrMap P w k b o m n F)
    (hK : ∀ w' left cnt, (∀ kl, left kl = true ↔ ∃ s : Int, kl = .int .i64 s ∧ 0 ≤ F s) → PtrRange P w' k b o m w.heap.size n F left cnt → w.grownBy w' none → w'.heap.size = w.heap.size + 1 → wpList P ops Q rest (a.put op.dst (.pointer (some ⟨w.heap.size, 0, none⟩))) w') :
    wpList P ops Q (op :: rest) a w := by
  obtain ⟨D, ho, hD⟩ := hown
  exact wpList_range_own w hg mm t hop k e K ht (ptrElem b o) m n D hm ho fun w' g1 g2 g3 => hK w' _ _ hD.1 ⟨D, g1, hD⟩ g2 g3
/-- the step -/
theorem wpList_ptrNext {ops : Array Oper} {rest : List Oper} {op : Oper} {a : Act} {Q : Exit → Act → World → Prop} (hg : op.guard = none) (it : Operand) (hop : op.op = Op.next it false) (k : TypeId) (K : Keyed P k) (hk : P.underlying k = some (.int .i64))
    (b o m r n : Nat) (F : Int → Int) (left : Lit → Bool) (cnt : Nat) (hit : a.eval it = .pointer (some ⟨r, 0, none⟩)) (h : PtrRange P w k b o m r n F left cnt)
    (hDone : (∀ kl, left kl = false) → wpList P ops Q rest (a.put op.dst (.tuple #[.bool false])) w)
    (hMore : ∀ (s : Int) (j : Nat) (w' : World) (cnt' : Nat), (Lit.int .i64 s).wf = true → left (.int .i64 s) = true → F s = (j : Int) → PtrRange P w' k b o m r n F (fun z => left z && !z.sameKey (.int .i64 s)) cnt' → cnt' < cnt →
      w.grownBy w' (some r) → w'.heap.size = w.heap.size → (Instr.entry (.pointer (some ⟨r, 0, none⟩))).run P w' = .ok (.tuple #[.int .i64 s, .pointer (some ⟨b, o + j * 7, none⟩)]) w' → wpList P ops Q rest (a.put op.dst (.tuple #[.bool true, .int .i64 s, .pointer (some ⟨b, o + j * 7, none⟩)])) w') :
    wpList P ops Q (op :: rest) a w := by
  obtain ⟨D, ho, hD⟩ := h
  refine wpList_next_ranges w hg it hop k K (ptrElem b o) (Value.int .i64) (ptrV b o) (fun key kl hkey => by obtain ⟨x, rfl, _⟩ := Maps.keyOf_int_inv hk hkey; exact ⟨x, rfl⟩) (fun v y hv => by obtain ⟨i, _, rfl, _⟩ := ptrElem_inv hv; exact ⟨i, rfl⟩)
    m r n D left cnt hit ho (fun _ h => hDone h) fun x c kl y w' cnt' hkey hl hv hat hrg hlt hgr hsz hen => ?_
  obtain ⟨x', ex, rfl, hwf⟩ := Maps.keyOf_int_inv hk hkey
  obtain rfl : x = x' := by simpa using ex
  have hF : F x = c ∧ 0 ≤ F x := by
    obtain ⟨i, hi, hvi, rfl⟩ := ptrElem_inv hv
    have e1 := hat (.lit (.int .i64 (-1)))
    rw [hD.2.1 x] at e1
    simp only [DataW.lit.injEq, Lit.int.injEq, true_and] at e1
    have hpos : 0 ≤ F x := by
      cases hh : has D (.int .i64 x) with
      | true =>
        obtain ⟨s, es, hs⟩ := (hD.1 _).1 hh
        simp only [Lit.int.injEq, true_and] at es
        subst es; exact hs
      | false =>
        have a1 := atKey_of_not_has hh (.lit (.int .i64 (-1)))
        have a2 := atKey_of_not_has hh (.lit (.int .i64 (-2)))
        rw [hat] at a1 a2
        rw [a1] at a2
        simp at a2
    refine ⟨?_, hpos⟩
    obtain ⟨j, rfl⟩ : ∃ j : Nat, i = (j : Int) := ⟨i.toNat, by omega⟩
    rw [ptrV_nat] at hvi
    unfold ptrV at hvi
    split at hvi
    · cases hvi
    · simp only [Value.pointer.injEq, Option.some.injEq, Addr.mk.injEq, true_and, and_true] at hvi
      omega
  obtain ⟨j, hj⟩ : ∃ j : Nat, F x = (j : Int) := ⟨(F x).toNat, by omega⟩
  obtain rfl : c = (j : Int) := by omega
  rw [ptrV_nat] at hen ⊢
  exact hMore x j w' cnt' hwf hl hj ⟨D, hrg, hD⟩ hlt hgr hsz hen
/-- 'delete(m, s)' in the round -/
theorem wpList_ptrDel {ops : Array Oper} {rest : List Oper} {op : Oper} {a : Act} {Q : Exit → Act → World → Prop} (hg : op.guard = none) (mm x : Operand) (t k : TypeId) (hop : op.op = Op.call { callee := Callee.builtin Builtin.delete, args := #[mm, x], argTypes := #[t, k] })
    (e : TypeId) (K : Keyed P k) (ht : P.underlying t = some (.map k e)) (hk : P.underlying k = some (.int .i64)) (b o m r n : Nat) (F F' : Int → Int) (left : Lit → Bool) (cnt : Nat)
    (hm : a.eval mm = .map (some m)) (h : PtrRange P w k b o m r n F left cnt) (s : Int) (hx : a.eval x = .int .i64 s) (hs : (Lit.int .i64 s).wf = true) (h1 : F' s = -1) (h2 : ∀ t, t ≠ s → F' t = F t)
    (hK : ∀ w' cnt', PtrRange P w' k b o m r n F' (fun z => left z && !z.sameKey (.int .i64 s)) cnt' → cnt' ≤ cnt → w.grownBy w' (some m) → wpList P ops Q rest (a.put op.dst (.tuple #[])) w') :
    wpList P ops Q (op :: rest) a w := by
  obtain ⟨D, ho, hD⟩ := h
  exact wpList_delete_ranges w hg mm x t k hop e K ht (ptrElem b o) m r n D left cnt hm ho _ (.int .i64 s) hx (keyOf_int_mk hk hs) fun w' cnt' g1 g2 g3 => hK w' cnt' ⟨_, g1, hD.del h1 h2⟩ g2 g3.grown
theorem PtrRange.owns (h : PtrRange P w k b o m r n F left cnt) : PtrMap P w k b o m n F := by
  obtain ⟨D, ho, hD⟩ := h
  exact ⟨D, ho.owns, hD⟩
theorem PtrRange.left_eq (h : PtrRange P w k b o m r n F left cnt) : w.rangeLeft m r = cnt := by
  obtain ⟨D, ho, _⟩ := h
  exact ho.left_eq
theorem PtrRange.kept {row : Option Nat} (h : PtrRange P w k b o m r n F left cnt) (hg : w.grownBy w' row) (hm : some m ≠ row) (hr : some r ≠ row) : PtrRange P w' k b o m r n F left cnt := by
  obtain ⟨D, ho, hD⟩ := h
  exact ⟨D, ho.kept hg hm hr, hD⟩
theorem PtrRange.below {B : Nat} (h : PtrRange P w k b o m r n F left cnt) (hb : Below B w w') (hB : w.heap.size ≤ B) : PtrRange P w' k b o m r n F left cnt := h.kept (below_grown hb hB) (by simp) (by simp)
end
end Go.Proofs.Ytojkonhhaamodaa
set_option linter.unusedVariables false
namespace Go.Proofs.Ytojkonhhaamodaa
open Go.RowKit Go.Maps

/-- the first index, below k, with the serial number s; -1 where there is none -/
def firstS (g : Nat → NoteD) : Nat → Int → Int
  | 0, _ => -1
  | k + 1, s => if 0 ≤ firstS g k s then firstS g k s else if (g k).serial = s then (k : Int) else -1
theorem firstS_spec (g : Nat → NoteD) (s : Int) : ∀ n, (firstS g n s = -1 ∧ ∀ i, i < n → (g i).serial ≠ s) ∨ ∃ j : Nat, firstS g n s = (j : Int) ∧ j < n ∧ (g j).serial = s ∧ ∀ i, i < j → (g i).serial ≠ s := by
  intro n
  induction n with
  | zero => exact .inl ⟨rfl, fun i hi => absurd hi (by omega)⟩
  | succ n ih =>
    unfold firstS
    rcases ih with ⟨h1, h2⟩ | ⟨j, h1, h2, h3, h4⟩
    · rw [h1, if_neg (by omega)]
      by_cases h : (g n).serial = s
      · rw [if_pos h]
        exact .inr ⟨n, rfl, by omega, h, h2⟩
      · rw [if_neg h]
        refine .inl ⟨rfl, fun i hi => ?_⟩
        by_cases e : i = n
        · subst e; exact h
        · exact h2 i (by omega)
    · rw [h1, if_pos (by omega)]
      exact .inr ⟨j, rfl, by omega, h3, h4⟩
theorem firstS_ge (g : Nat → NoteD) (n : Nat) (s : Int) : -1 ≤ firstS g n s := by
  rcases firstS_spec g s n with ⟨h, _⟩ | ⟨j, h, _⟩ <;> omega
theorem firstS_at (g : Nat → NoteD) {n q : Nat} (h : q < n) : ∃ j : Nat, firstS g n (g q).serial = (j : Int) ∧ j ≤ q ∧ (g j).serial = (g q).serial := by
  rcases firstS_spec g (g q).serial n with ⟨_, h2⟩ | ⟨j, h1, h2, h3, h4⟩
  · exact absurd rfl (h2 q h)
  · refine ⟨j, h1, ?_, h3⟩
    by_cases hq : q < j
    · exact absurd rfl (h4 q hq)
    · omega
theorem firstS_keep (g : Nat → NoteD) {k : Nat} (h : 0 ≤ firstS g k (g k).serial) (t : Int) : firstS g (k + 1) t = firstS g k t := by
  have ht := firstS_ge g k t
  show (if 0 ≤ firstS g k t then firstS g k t else if (g k).serial = t then (k : Int) else -1) = _
  by_cases e : 0 ≤ firstS g k t
  · rw [if_pos e]
  · rw [if_neg e]
    by_cases e2 : (g k).serial = t
    · subst e2; exact absurd h e
    · rw [if_neg e2]; omega
theorem firstS_new (g : Nat → NoteD) {k : Nat} (h : firstS g k (g k).serial < 0) : firstS g (k + 1) (g k).serial = (k : Int) := by
  show (if 0 ≤ firstS g k (g k).serial then _ else _) = _
  rw [if_neg (by omega), if_pos rfl]
theorem firstS_other (g : Nat → NoteD) {k : Nat} (t : Int) (ht : t ≠ (g k).serial) : firstS g (k + 1) t = firstS g k t := by
  have h := firstS_ge g k t
  show (if 0 ≤ firstS g k t then firstS g k t else if (g k).serial = t then (k : Int) else -1) = _
  by_cases e : 0 ≤ firstS g k t
  · rw [if_pos e]
  · rw [if_neg e, if_neg (Ne.symm ht)]; omega
/-- n notes lie at block b, offset o, where there are any -/
def NotesAt (w : World) (aa : Option Addr) (n cap b o : Nat) (g : Nat → NoteD) : Prop := 0 < n → aa = some ⟨b, o, none⟩ ∧ n ≤ cap ∧ ∀ i, i < n → CellsAt w b (o + i * 7) (g i).cells
theorem NoteRow.at {w : World} {v : Value} {n : Nat} {g : Nat → NoteD} (h : NoteRow w v n g) : ∃ aa cap b o, v = .slice aa n cap ∧ n ≤ 9223372036854775807 ∧ NotesAt w aa n cap b o g := by
  obtain ⟨aa, cap, rfl, hn, hc⟩ := h.form
  by_cases h0 : 0 < n
  · obtain ⟨b, o, h1, h2, h3⟩ := hc h0
    exact ⟨aa, cap, b, o, rfl, hn, fun _ => ⟨h1, h2, h3⟩⟩
  · exact ⟨aa, cap, 0, 0, rfl, hn, fun h => absurd h h0⟩
theorem NotesAt.below {w w' : World} {aa : Option Addr} {n cap b o B : Nat} {g : Nat → NoteD} (h : NotesAt w aa n cap b o g) (hb : Below B w w') (hB : w.heap.size ≤ B) : NotesAt w' aa n cap b o g := fun h0 => by
  obtain ⟨h1, h2, h3⟩ := h h0
  exact ⟨h1, h2, fun i hi => (h3 i hi).belowB hb (by have := (h3 i hi).1; omega)⟩
theorem NotesAt.row {w : World} {aa : Option Addr} {n cap b o : Nat} {g : Nat → NoteD} (h : NotesAt w aa n cap b o g) (hn : n ≤ 9223372036854775807) : NoteRow w (.slice aa n cap) n g := by
  by_cases h0 : 0 < n
  · obtain ⟨rfl, h2, h3⟩ := h h0
    exact .inr ⟨b, o, cap, rfl, h0, hn, h3, h2⟩
  · obtain rfl : n = 0 := by omega
    exact .inl ⟨_, _, rfl, rfl⟩
theorem run_makeMapM {P : Program} {t k e : TypeId} (ht : P.underlying t = some (.map k e)) (n : Int) (w : World) : (Instr.makeMap t (some (.int .i64 n))).run P w = .ok (.map (some w.heap.size)) (w.alloc (.map #[] 0)) := by
  simp [Instr.makeMap, run_underlying ht, asInt, Result.andThen]
  try rfl
theorem zPtrN (w : World) : (zeroValue 55).run Try.prog w = .ok (.pointer none) w := by kernel_rfl
theorem wfI {x : Int} (h : IntFit x) : (Lit.int .i64 x).wf = true := WalkArith.wf_i64 (by unfold IntFit at h; omega)
set_option maxRecDepth 100000 in
set_option maxHeartbeats 1000000 in
theorem firstNotes_impl (aa : Option Addr) (n cap b o : Nat) (g : Nat → NoteD) (w : World) (hf : ∀ i, (g i).fit) (hv : NotesAt w aa n cap b o g) (hn6 : n ≤ 1048576) :
    Calls Try.prog 18 #[.slice aa n cap] w fun e w' => ∃ m, e = .returned (.map (some m)) ∧ w.heap.size ≤ m ∧ PtrMap Try.prog w' 3 b o m n (firstS g n) ∧ Below w.heap.size w w' := by
  have HV := Lib.hid hv
  have HF := Lib.hid hf
  clear hv hf
  have hmm := @run_makeMapM Try.prog _ _ _ Try.underlying52
  have m1 := PtrMap.made w Try.prog 3 b o
  go_enter Try.func18, Try.ntmps18
  go_wp2
  go_loopw [11] (fun i wr => ∃ k : Nat, k ≤ n ∧ i = .int .i64 k ∧ Hid (PtrMap Try.prog wr 3 b o w.heap.size k (firstS g k)) ∧ Below w.heap.size w wr) (fun i _ => n - (intOf i).toNat)
  case atStart => exact ⟨0, Nat.zero_le _, rfl, m1, (Below.refl _ _).alloc (Nat.le_refl _) _⟩
  case round =>
    clear m1
    obtain ⟨k, hk, rfl, hm, hb⟩ := hrel
    have hsz := hb.size
    by_cases hlt : k < n
    · obtain ⟨rfl, hcap, hc⟩ := HV.out (by omega)
      have hq := (hc k hlt).belowB hb (hc k hlt).1
      have hwf := wfI (HF.out k).1
      have hlk := hm.out.run kInt Try.underlying52 Try.underlying3 (zPtrN wr) hwf
      have HKEEP := Lib.hid (firstS_keep g (k := k))
      have HNEW := Lib.hid (firstS_new g (k := k))
      have HOTH := Lib.hid (firstS_other g (k := k))
      have HWF := Lib.hid hwf
      obtain ⟨c0, _, _, _, _, _, _⟩ := note_cells hq
      by_cases h0 : 0 ≤ firstS g k (g k).serial
      · obtain ⟨j, hj⟩ : ∃ j : Nat, firstS g k (g k).serial = (j : Int) := ⟨(firstS g k (g k).serial).toNat, by omega⟩
        rw [hj, ptrV_nat] at hlk
        have M := Lib.hid ((hm.out.mono (Nat.le_succ k)).congr (HKEEP.out h0))
        generalize (g k).serial = s at *
        clear hc HV HF hm HKEEP HNEW HOTH h0 hwf hq hj
        go_wp2
        go_roundw
        case rel => exact ⟨k + 1, by omega, by go_num, M, hb⟩
        case measure => simp [intOf]; omega
      · rw [ptrV_neg (by omega)] at hlk
        have HN1 := Lib.hid (HNEW.out (by omega))
        clear hc HV HF HKEEP HNEW h0 hwf hq
        generalize (g k).serial = s at *
        go_wp2_with (at_mapUpdate; refine wpList_ptrPut rfl (.tmp 24) (.tmp 28) (.tmp 29) 52 rfl 3 55 kInt Try.underlying52 Try.underlying3 b o w.heap.size k (firstS g k) (firstS g (k + 1)) rfl hm.out (by unfold maxLen; omega) s k rfl (ptrV_nat b o k).symm HWF.out (by omega) HN1.out HOTH.out ?_; intro w3 m3 g3)
        go_roundw
        case rel => exact ⟨k + 1, by omega, by go_num, m3, hb.grown g3 hb.size (fun q hq => by cases hq; omega)⟩
        case measure => simp [intOf]; omega
    · obtain rfl : k = n := by omega
      go_wp2
      go_ret
      exact ⟨_, rfl, Nat.le_refl _, hm.out, hb⟩
end Go.Proofs.Ytojkonhhaamodaa
