/-
  Packed: BookAt2.
-/
import Derived.Test.YtojkonhhaamodaaQ4
import Derived.Test.YtojkonhhaamodaaQ12
import Derived.Test.YtojkonhhaamodaaQ15
set_option linter.unusedVariables false
namespace Go.Proofs.Ytojkonhhaamodaa
open Go.RowKit

/-- the games of a book with the notes up to a number -/
def knownG (b : BookD) (ns : Nat → NoteD) (k : Nat) (z : Int) : Nat → GameD := applyN b.g (canonL (getN' (upL ns z k)) (upL ns z k).length) (canonL (getN' (upL ns z k)) (upL ns z k).length).length
def atB (b : BookD) (ns : Nat → NoteD) (k : Nat) (z : Int) : BookD := { b with g := knownG b ns k z }
theorem atB_gen (b : BookD) (ns : Nat → NoteD) (k : Nat) (z : Int) : ∃ b' : BookD, atB b ns k z = b' ∧ b'.nf = b.nf ∧ b'.f = b.f ∧ b'.win = b.win ∧ b'.draw = b.draw ∧ b'.loss = b.loss ∧ b'.nl = b.nl ∧ b'.l = b.l ∧ b'.again = b.again ∧ b'.m = b.m ∧ b'.nfa = b.nfa ∧ b'.fa = b.fa ∧ b'.nta = b.nta ∧ b'.ta = b.ta := ⟨_, rfl, rfl, rfl, rfl, rfl, rfl, rfl, rfl, rfl, rfl, rfl, rfl, rfl, rfl⟩
def atP (b : BookD) (ns : Nat → NoteD) (k : Nat) : Prop := bookP b ∧ notesP b.nf b.m b.g k ns
theorem notesP.up {n : Int} {m k : Nat} {g : Nat → GameD} {ns : Nat → NoteD} (h : notesP n m g k ns) (z : Int) : notesP n m g (upL ns z k).length (getN' (upL ns z k)) := by
  refine h.of (Nat.le_trans (up_len ns z k) h.2.1) fun i hi => ?_
  obtain ⟨j, hj, e, _⟩ := up_mem.1 (mem_getN.1 ⟨i, hi, rfl⟩)
  exact ⟨j, hj, e⟩
def BookIn (lo hi : Nat) (vf vl vg vfa vta : Value) : Prop := InW lo hi vf ∧ InW lo hi vl ∧ InW lo hi vg ∧ InW lo hi vfa ∧ InW lo hi vta
theorem BookMem.inw {w : World} {base : Nat} {vf vl vg vfa vta : Value} {b : BookD} (h : BookMem w base vf vl vg vfa vta b) : BookIn base w.heap.size vf vl vg vfa vta := ⟨InW.of_owns h.1, InW.of_owns h.2.1, InW.of_owns h.2.2.1, InW.of_owns h.2.2.2.1, InW.of_owns h.2.2.2.2⟩
theorem BookMem.apart {w w' : World} {base lo hi lo' hi' : Nat} {vf vl vg vfa vta : Value} {b : BookD} (h : BookMem w base vf vl vg vfa vta b) (t : Touch lo hi w w') (hv : BookIn lo' hi' vf vl vg vfa vta) (ho : hi' ≤ lo ∨ hi ≤ lo') : BookMem w' base vf vl vg vfa vta b :=
  ⟨owns_touch h.1 t hv.1 ho, owns_touch h.2.1 t hv.2.1 ho, owns_touch h.2.2.1 t hv.2.2.1 ho, owns_touch h.2.2.2.1 t hv.2.2.2.1 ho, owns_touch h.2.2.2.2 t hv.2.2.2.2 ho⟩
def BookAtPost (w : World) (R : Bool) (b : BookD) (e : Ending) (w' : World) : Prop :=
  (R = false ∧ e = .returned (.tuple #[.agg #[.slice none 0 0, .int .i64 0, .int .i64 0, .int .i64 0, .slice none 0 0, .bool false, .slice none 0 0, .slice none 0 0, .slice none 0 0], .bool false]) ∧ Below w.heap.size w w') ∨
    (R = true ∧ ∃ vf vl vg vfa vta, e = .returned (.tuple #[.agg #[vf, .int .i64 b.win, .int .i64 b.draw, .int .i64 b.loss, vl, .bool b.again, vg, vfa, vta], .bool true]) ∧ BookMem w' w.heap.size vf vl vg vfa vta b ∧ Below w.heap.size w w')
theorem BookMem.games {w : World} {base : Nat} {vf vl vg vfa vta vg' : Value} {b : BookD} {g' : Nat → GameD} {xs : List Value} (h : BookMem w base vf vl vg vfa vta b) (h' : w.ownsRow base 37 5 vg' b.m xs) (hc : RecCells 5 b.m xs fun i => (g' i).cells) : BookMem w base vf vl vg' vfa vta { b with g := g' } := by
  refine ⟨h.1, h.2.1, ?_, h.2.2.2⟩
  have e : xs = flatR (fun i => (g' i).cells) b.m := by
    apply List.ext_getElem?
    intro j
    have hl := h'.1
    have hl2 := flatR_len 5 (fun i => (g' i).cells) b.m fun i _ => rfl
    by_cases hj : j < b.m * 5
    · have h1 : j / 5 < b.m := Nat.div_lt_of_lt_mul (by rw [Nat.mul_comm]; exact hj)
      have h2 : j % 5 < (g' (j / 5)).cells.length := by show j % 5 < 5; exact Nat.mod_lt _ (by decide)
      obtain ⟨u, hu⟩ : ∃ u, (g' (j / 5)).cells[j % 5]? = some u := ⟨_, List.getElem?_eq_getElem h2⟩
      have h3 := hc (j / 5) h1 (j % 5) u hu
      have h4 := flatR_cells 5 (fun i => (g' i).cells) b.m (fun i _ => rfl) (j / 5) h1 (j % 5) u hu
      rw [show j / 5 * 5 + j % 5 = j by omega] at h3 h4
      rw [h3, h4]
    · rw [List.getElem?_eq_none (by omega), List.getElem?_eq_none (by omega)]
  rw [← e]
  exact h'
set_option maxRecDepth 100000 in
set_option maxHeartbeats 2000000 in
theorem bookAt_spec (vf vl vg vfa vta : Value) (b : BookD) (nv : Value) (k : Nat) (ns : Nat → NoteD) (z : Int) (R : Bool) (w : World) (hR : R = true ↔ atP b ns k) (h : BookRow w vf vl vg vfa vta b) (hs : ∀ i, (b.f i).nm.size ≤ maxLen) (hn : NoteRow w nv k ns) (hbs : bookS b) (hk6 : k ≤ 1048576) :
    Calls Try.prog 43 #[.agg #[vf, .int .i64 b.win, .int .i64 b.draw, .int .i64 b.loss, vl, .bool b.again, vg, vfa, vta], nv, .int .i64 z] w (BookAtPost w R (atB b ns k z)) := by
  obtain ⟨fa, fc, la, lc, ga, gc, qa, qc, ta, tc, rfl, rfl, rfl, rfl, rfl⟩ := h.form
  obtain ⟨na, nc, rfl, hn64, _⟩ := hn.form
  obtain ⟨r1, hr1⟩ := boolEx (bookP b)
  obtain ⟨r2, hr2⟩ := boolEx (notesP b.nf b.m b.g k ns)
  have hn64f : (b.nf : Int) ≤ 9223372036854775807 := by have := hbs.1; omega
  have C1 := Lib.hid (fun wa h1 => bookOk_spec (.slice fa b.nf fc) (.slice la b.nl lc) (.slice ga b.m gc) (.slice qa b.nfa qc) (.slice ta b.nta tc) b r1 wa hr1 h1 hs)
  have C2 := Lib.hid (fun wa h1 h2 => notesOk_spec b.nf (.slice ga b.m gc) b.m b.g (.slice na k nc) k ns r2 wa hr2 h1 h2)
  have C3 := Lib.hid (fun wa h1 => l16Copy_spec (.slice fa b.nf fc) (.slice la b.nl lc) (.slice ga b.m gc) (.slice qa b.nfa qc) (.slice ta b.nta tc) b wa h1 hbs)
  have C4 := Lib.hid (fun wa h1 => upTo_spec (.slice na k nc) k ns z wa h1 hk6)
  have C5 : Hid (∀ (hp : notesP b.nf b.m b.g k ns) uv wa, GameRow wa (.slice ga b.m gc) b.m b.g → NoteRow wa uv (upL ns z k).length (getN' (upL ns z k)) → Calls Try.prog 58 #[.int .i64 b.nf, .slice ga b.m gc, uv] wa fun e w' => ∃ vv xs, e = .returned (.tuple #[vv, .bool true]) ∧ w'.ownsRow wa.heap.size 37 5 vv b.m xs ∧ RecCells 5 b.m xs (fun i => (knownG b ns k z i).cells) ∧ Below wa.heap.size wa w') := fun hp uv wa h1 h2 =>
    (applyNotes_spec b.nf (.slice ga b.m gc) b.m b.g uv _ _ true wa ⟨fun _ => hp.up z, fun _ => rfl⟩ h1 h2).mono fun e w' h => by
      rcases h with ⟨h, _⟩ | ⟨_, h⟩
      · cases h
      · exact h
  have HUL := Lib.hid (up_len ns z k)
  have hall : R = true ↔ (r1 = true ∧ r2 = true) := by rw [hR, hr1, hr2]; exact Iff.rfl
  have HN := Lib.hid (boolF hall)
  have HY := Lib.hid (boolT hall)
  have HP2 : Hid (r2 = true → notesP b.nf b.m b.g k ns) := hr2.1
  have b0 := ((Below.refl w.heap.size w).alloc (Nat.le_refl _) (.cells #[.slice fa b.nf fc, .int .i64 b.win, .int .i64 b.draw, .int .i64 b.loss, .slice la b.nl lc, .bool b.again, .slice ga b.m gc, .slice qa b.nfa qc, .slice ta b.nta tc] 29)).alloc (by simp) (.cells #[.slice none 0 0, .int .i64 0, .int .i64 0, .int .i64 0, .slice none 0 0, .bool false, .slice none 0 0, .slice none 0 0, .slice none 0 0] 29)
  have es : (w.alloc (.cells #[.slice fa b.nf fc, .int .i64 b.win, .int .i64 b.draw, .int .i64 b.loss, .slice la b.nl lc, .bool b.again, .slice ga b.m gc, .slice qa b.nfa qc, .slice ta b.nta tc] 29)).heap.size = w.heap.size + 1 := by simp
  have BX0 := Lib.hid (BoxN.made (u := w) (cs := #[.slice fa b.nf fc, .int .i64 b.win, .int .i64 b.draw, .int .i64 b.loss, .slice la b.nl lc, .bool b.again, .slice ga b.m gc, .slice qa b.nfa qc, .slice ta b.nta tc]) (t := 29) (w2 := (w.alloc (.cells #[.slice fa b.nf fc, .int .i64 b.win, .int .i64 b.draw, .int .i64 b.loss, .slice la b.nl lc, .bool b.again, .slice ga b.m gc, .slice qa b.nfa qc, .slice ta b.nta tc] 29)).alloc (.cells #[.slice none 0 0, .int .i64 0, .int .i64 0, .int .i64 0, .slice none 0 0, .bool false, .slice none 0 0, .slice none 0 0, .slice none 0 0] 29)) ((Below.refl _ _).alloc (Nat.le_refl _) (.cells #[.slice none 0 0, .int .i64 0, .int .i64 0, .int .i64 0, .slice none 0 0, .bool false, .slice none 0 0, .slice none 0 0, .slice none 0 0] 29)) (B := w.heap.size) rfl)
  have ZF0 := Lib.hid (BoxF.made (u := w.alloc (.cells #[.slice fa b.nf fc, .int .i64 b.win, .int .i64 b.draw, .int .i64 b.loss, .slice la b.nl lc, .bool b.again, .slice ga b.m gc, .slice qa b.nfa qc, .slice ta b.nta tc] 29)) (Below.refl _ _) (B := w.heap.size + 1) es : BoxF ((w.alloc (.cells #[.slice fa b.nf fc, .int .i64 b.win, .int .i64 b.draw, .int .i64 b.loss, .slice la b.nl lc, .bool b.again, .slice ga b.m gc, .slice qa b.nfa qc, .slice ta b.nta tc] 29)).alloc (.cells #[.slice none 0 0, .int .i64 0, .int .i64 0, .int .i64 0, .slice none 0 0, .bool false, .slice none 0 0, .slice none 0 0, .slice none 0 0] 29)) (w.heap.size + 1) [.slice none 0 0, .int .i64 0, .int .i64 0, .int .i64 0, .slice none 0 0, .bool false, .slice none 0 0, .slice none 0 0, .slice none 0 0])
  have BR0 := Lib.hid (h.below b0 (Nat.le_refl _))
  have NR0 := Lib.hid (hn.below b0 (Nat.le_refl _))
  have HB0 := Lib.hid b0
  clear h hn b0 es hR hr1 hr2 hall hs
  have d0 := BX0.out.2 0 _ rfl
  have d1 := BX0.out.2 1 _ rfl
  have d2 := BX0.out.2 2 _ rfl
  have d3 := BX0.out.2 3 _ rfl
  have d4 := BX0.out.2 4 _ rfl
  have d5 := BX0.out.2 5 _ rfl
  have d6 := BX0.out.2 6 _ rfl
  have d7 := BX0.out.2 7 _ rfl
  have d8 := BX0.out.2 8 _ rfl
  go_enter Try.func43, Try.ntmps43
  cases r1 with
  | false =>
    obtain rfl := HN.out fun h => by have := h.1; cases this
    clear HN HY C2 C3 C4 C5
    go_wp2_with fail
    refine (C1.out _ BR0.out).mono ?_
    rintro e w1 ⟨rfl, b1⟩
    have BX1 := Lib.hid (BoxN.below BX0.out b1)
    have BR1 := Lib.hid (BR0.out.below b1 (Nat.le_refl _))
    have NR1 := Lib.hid (NR0.out.below b1 (Nat.le_refl _))
    have ZF1 := Lib.hid (ZF0.out.below b1)
    have HB1 := Lib.hid (HB0.out.trans (b1.mono (by have := HB0.out.size; omega)))
    clear d0 d1 d2 d3 d4 d5 d6 d7 d8 BX0 BR0 NR0 ZF0 HB0 b1
    have d0 := BX1.out.2 0 _ rfl
    have d1 := BX1.out.2 1 _ rfl
    have d2 := BX1.out.2 2 _ rfl
    have d3 := BX1.out.2 3 _ rfl
    have d4 := BX1.out.2 4 _ rfl
    have d5 := BX1.out.2 5 _ rfl
    have d6 := BX1.out.2 6 _ rfl
    have d7 := BX1.out.2 7 _ rfl
    have d8 := BX1.out.2 8 _ rfl
    have q0 := (ZF1.out.2 0 _ rfl).1
    have r0 := (ZF1.out.2 0 _ rfl).2
    have q1 := (ZF1.out.2 1 _ rfl).1
    have r1 := (ZF1.out.2 1 _ rfl).2
    have q2 := (ZF1.out.2 2 _ rfl).1
    have r2 := (ZF1.out.2 2 _ rfl).2
    have q3 := (ZF1.out.2 3 _ rfl).1
    have r3 := (ZF1.out.2 3 _ rfl).2
    have q4 := (ZF1.out.2 4 _ rfl).1
    have r4 := (ZF1.out.2 4 _ rfl).2
    have q5 := (ZF1.out.2 5 _ rfl).1
    have r5 := (ZF1.out.2 5 _ rfl).2
    have q6 := (ZF1.out.2 6 _ rfl).1
    have r6 := (ZF1.out.2 6 _ rfl).2
    have q7 := (ZF1.out.2 7 _ rfl).1
    have r7 := (ZF1.out.2 7 _ rfl).2
    have q8 := (ZF1.out.2 8 _ rfl).1
    have r8 := (ZF1.out.2 8 _ rfl).2
    have hlt : w.heap.size + 1 < w1.heap.size := ZF1.out.1
    go_wp2
    refine bodyPost_ret (v := .tuple #[.agg #[.slice none 0 0, .int .i64 0, .int .i64 0, .int .i64 0, .slice none 0 0, .bool false, .slice none 0 0, .slice none 0 0, .slice none 0 0], .bool false]) (by simp [results, Try.results43, go_sem, q0, q1, q2, q3, q4, q5, q6, q7, q8]) rfl (Or.inl ⟨rfl, rfl, ?_⟩)
    iterate 9 (refine Below.setCell ?_ (by simp) _)
    exact HB1.out
  | true =>
  go_wp2_with fail
  refine (C1.out _ BR0.out).mono ?_
  rintro e w1 ⟨rfl, b1⟩
  have BX1 := Lib.hid (BoxN.below BX0.out b1)
  have BR1 := Lib.hid (BR0.out.below b1 (Nat.le_refl _))
  have NR1 := Lib.hid (NR0.out.below b1 (Nat.le_refl _))
  have ZF1 := Lib.hid (ZF0.out.below b1)
  have HB1 := Lib.hid (HB0.out.trans (b1.mono (by have := HB0.out.size; omega)))
  clear d0 d1 d2 d3 d4 d5 d6 d7 d8 BX0 BR0 NR0 ZF0 HB0 b1
  have d0 := BX1.out.2 0 _ rfl
  have d1 := BX1.out.2 1 _ rfl
  have d2 := BX1.out.2 2 _ rfl
  have d3 := BX1.out.2 3 _ rfl
  have d4 := BX1.out.2 4 _ rfl
  have d5 := BX1.out.2 5 _ rfl
  have d6 := BX1.out.2 6 _ rfl
  have d7 := BX1.out.2 7 _ rfl
  have d8 := BX1.out.2 8 _ rfl
  cases r2 with
  | false =>
    obtain rfl := HN.out fun h => by have := h.2; cases this
    clear HN HY C1 C3 C4 C5
    go_wp2_with fail
    refine (C2.out _ BR1.out.2.2.1 NR1.out).mono ?_
    rintro e w2 ⟨rfl, b2⟩
    have BX2 := Lib.hid (BoxN.below BX1.out b2)
    have BR2 := Lib.hid (BR1.out.below b2 (Nat.le_refl _))
    have NR2 := Lib.hid (NR1.out.below b2 (Nat.le_refl _))
    have ZF2 := Lib.hid (ZF1.out.below b2)
    have HB2 := Lib.hid (HB1.out.trans (b2.mono (by have := HB1.out.size; omega)))
    clear d0 d1 d2 d3 d4 d5 d6 d7 d8 BX1 BR1 NR1 ZF1 HB1 b2
    have d0 := BX2.out.2 0 _ rfl
    have d1 := BX2.out.2 1 _ rfl
    have d2 := BX2.out.2 2 _ rfl
    have d3 := BX2.out.2 3 _ rfl
    have d4 := BX2.out.2 4 _ rfl
    have d5 := BX2.out.2 5 _ rfl
    have d6 := BX2.out.2 6 _ rfl
    have d7 := BX2.out.2 7 _ rfl
    have d8 := BX2.out.2 8 _ rfl
    have q0 := (ZF2.out.2 0 _ rfl).1
    have r0 := (ZF2.out.2 0 _ rfl).2
    have q1 := (ZF2.out.2 1 _ rfl).1
    have r1 := (ZF2.out.2 1 _ rfl).2
    have q2 := (ZF2.out.2 2 _ rfl).1
    have r2 := (ZF2.out.2 2 _ rfl).2
    have q3 := (ZF2.out.2 3 _ rfl).1
    have r3 := (ZF2.out.2 3 _ rfl).2
    have q4 := (ZF2.out.2 4 _ rfl).1
    have r4 := (ZF2.out.2 4 _ rfl).2
    have q5 := (ZF2.out.2 5 _ rfl).1
    have r5 := (ZF2.out.2 5 _ rfl).2
    have q6 := (ZF2.out.2 6 _ rfl).1
    have r6 := (ZF2.out.2 6 _ rfl).2
    have q7 := (ZF2.out.2 7 _ rfl).1
    have r7 := (ZF2.out.2 7 _ rfl).2
    have q8 := (ZF2.out.2 8 _ rfl).1
    have r8 := (ZF2.out.2 8 _ rfl).2
    have hlt : w.heap.size + 1 < w2.heap.size := ZF2.out.1
    go_wp2
    refine bodyPost_ret (v := .tuple #[.agg #[.slice none 0 0, .int .i64 0, .int .i64 0, .int .i64 0, .slice none 0 0, .bool false, .slice none 0 0, .slice none 0 0, .slice none 0 0], .bool false]) (by simp [results, Try.results43, go_sem, q0, q1, q2, q3, q4, q5, q6, q7, q8]) rfl (Or.inl ⟨rfl, rfl, ?_⟩)
    iterate 9 (refine Below.setCell ?_ (by simp) _)
    exact HB2.out
  | true =>
  obtain rfl := HY.out ⟨by first | rfl | trivial, by first | rfl | trivial⟩
  have HC5 := Lib.hid (C5.out (HP2.out rfl))
  clear HN HY C5 HP2
  go_wp2_with fail
  refine (C2.out _ BR1.out.2.2.1 NR1.out).mono ?_
  rintro e w2 ⟨rfl, b2⟩
  have BX2 := Lib.hid (BoxN.below BX1.out b2)
  have BR2 := Lib.hid (BR1.out.below b2 (Nat.le_refl _))
  have NR2 := Lib.hid (NR1.out.below b2 (Nat.le_refl _))
  have ZF2 := Lib.hid (ZF1.out.below b2)
  have HB2 := Lib.hid (HB1.out.trans (b2.mono (by have := HB1.out.size; omega)))
  clear d0 d1 d2 d3 d4 d5 d6 d7 d8 BX1 BR1 NR1 ZF1 HB1 b2
  have d0 := BX2.out.2 0 _ rfl
  have d1 := BX2.out.2 1 _ rfl
  have d2 := BX2.out.2 2 _ rfl
  have d3 := BX2.out.2 3 _ rfl
  have d4 := BX2.out.2 4 _ rfl
  have d5 := BX2.out.2 5 _ rfl
  have d6 := BX2.out.2 6 _ rfl
  have d7 := BX2.out.2 7 _ rfl
  have d8 := BX2.out.2 8 _ rfl
  clear C1 C2
  go_wp2_with fail
  refine (C3.out _ BR2.out).mono ?_
  rintro e w3 ⟨uf, ul, ug, ufa, uta, rfl, hm3, b3⟩
  have HMD := Lib.hid hm3.inw
  have HM3 := Lib.hid (hm3.mono (base' := w.heap.size + 2) (by have := ZF2.out.1; omega))
  obtain ⟨a0, c0, a1, c1, a2, c2, a3, c3, a4, c4, rfl, rfl, rfl, rfl, rfl⟩ := hm3.form
  clear hm3
  have BX3 := Lib.hid (BoxN.below BX2.out b3)
  have BR3 := Lib.hid (BR2.out.below b3 (Nat.le_refl _))
  have NR3 := Lib.hid (NR2.out.below b3 (Nat.le_refl _))
  have ZF3 := Lib.hid (ZF2.out.below b3)
  have HB3 := Lib.hid (HB2.out.trans (b3.mono (by have := HB2.out.size; omega)))
  clear d0 d1 d2 d3 d4 d5 d6 d7 d8 BX2 BR2 NR2 ZF2 HB2 b3
  have d0 := BX3.out.2 0 _ rfl
  have d1 := BX3.out.2 1 _ rfl
  have d2 := BX3.out.2 2 _ rfl
  have d3 := BX3.out.2 3 _ rfl
  have d4 := BX3.out.2 4 _ rfl
  have d5 := BX3.out.2 5 _ rfl
  have d6 := BX3.out.2 6 _ rfl
  have d7 := BX3.out.2 7 _ rfl
  have d8 := BX3.out.2 8 _ rfl
  have hlt : w.heap.size + 1 < w3.heap.size := ZF3.out.1
  clear C3
  go_wp2
  have g4 : Below w3.heap.size w3 (w3.alloc (.cells #[.slice a0 b.nf c0, .int .i64 b.win, .int .i64 b.draw, .int .i64 b.loss, .slice a1 b.nl c1, .bool b.again, .slice a2 b.m c2, .slice a3 b.nfa c3, .slice a4 b.nta c4] 29)) := (Below.refl _ _).alloc (Nat.le_refl _) _
  have CF4 := Lib.hid (BoxF.made (u := w3) (cs := #[.slice a0 b.nf c0, .int .i64 b.win, .int .i64 b.draw, .int .i64 b.loss, .slice a1 b.nl c1, .bool b.again, .slice a2 b.m c2, .slice a3 b.nfa c3, .slice a4 b.nta c4]) (t := 29) (w2 := w3.alloc (.cells #[.slice a0 b.nf c0, .int .i64 b.win, .int .i64 b.draw, .int .i64 b.loss, .slice a1 b.nl c1, .bool b.again, .slice a2 b.m c2, .slice a3 b.nfa c3, .slice a4 b.nta c4] 29)) (Below.refl _ _) (B := w3.heap.size) rfl)
  have HM4 := Lib.hid (HM3.out.below g4 (Nat.le_refl _))
  have BX4 := Lib.hid (BX3.out.below g4)
  have BR4 := Lib.hid (BR3.out.below g4 (Nat.le_refl _))
  have NR4 := Lib.hid (NR3.out.below g4 (Nat.le_refl _))
  have ZF4 := Lib.hid (ZF3.out.below g4)
  have HB4 := Lib.hid (HB3.out.trans (g4.mono HB3.out.size))
  have hwD : w.heap.size + 1 < w3.heap.size := hlt
  clear BX3 BR3 NR3 ZF3 HB3 HM3 g4 hlt d0 d1 d2 d3 d4 d5 d6 d7 d8
  have hDs : w3.heap.size < (w3.alloc (.cells #[.slice a0 b.nf c0, .int .i64 b.win, .int .i64 b.draw, .int .i64 b.loss, .slice a1 b.nl c1, .bool b.again, .slice a2 b.m c2, .slice a3 b.nfa c3, .slice a4 b.nta c4] 29)).heap.size := CF4.out.1
  generalize hgD : w3.heap.size = D at *
  clear hgD
  generalize w3.alloc (.cells #[.slice a0 b.nf c0, .int .i64 b.win, .int .i64 b.draw, .int .i64 b.loss, .slice a1 b.nl c1, .bool b.again, .slice a2 b.m c2, .slice a3 b.nfa c3, .slice a4 b.nta c4] 29) = w4 at *
  have k6 := BX4.out.2 6 _ rfl
  refine Await.begin (S := Until 11 fun w' => w'.cell? ⟨w.heap.size, 6, none⟩ = some (.slice ga b.m gc)) (by kernel_rfl) ?_ (fun hS => ?_)
  · exact Until.of k6
  have FE : Hid (∀ wa : World, wa.cell? ⟨w.heap.size, 6, none⟩ = some (.slice ga b.m gc) → wa.cell? ⟨w.heap.size, 6, none⟩ = some (.slice ga b.m gc)) := fun _ h => h
  have BX5 := Lib.hid (BX4.out.below (Below.refl _ _).drew)
  have BR5 := Lib.hid (BR4.out.below (Below.refl _ _).drew (Nat.le_refl _))
  have NR5 := Lib.hid (NR4.out.below (Below.refl _ _).drew (Nat.le_refl _))
  have ZF5 := Lib.hid (ZF4.out.below (Below.refl _ _).drew)
  have CF5 := Lib.hid (CF4.out.below (Below.refl _ _).drew)
  have HM5 := Lib.hid (HM4.out.below (Below.refl _ _).drew (Nat.le_refl _))
  have HB5 := Lib.hid HB4.out.drew
  have hDs5 : D < w4.drew.heap.size := CF5.out.1
  clear BX4 BR4 NR4 ZF4 CF4 HM4 HB4 k6 hDs
  generalize w4.drew = w5 at *
  refine Await.pure (i := 0) (v := ?_) rfl (by kernel_rfl) (by kernel_rfl) (by kernel_rfl) (by kernel_rfl) (fun _ _ _ h => h) (Or.inl ⟨by rfl, ?_⟩) (by assumption) ?_
  rotate_left
  · (intro wa _; go_simp; try with_reducible rfl)
  simp only [Act.put, List.getElem_toArray, List.getElem_cons_zero, List.setIfInBounds_toArray, List.set_cons_zero, List.set_cons_succ]
  refine Await.pure (i := 1) (v := ?_) rfl (by kernel_rfl) (by kernel_rfl) (by kernel_rfl) (by kernel_rfl) (fun _ _ _ h => h) (Or.inl ⟨by rfl, ?_⟩) (by assumption) ?_
  rotate_left
  · (intro wa _; go_simp; try with_reducible rfl)
  simp only [Act.put, List.getElem_toArray, List.getElem_cons_zero, List.getElem_cons_succ, List.setIfInBounds_toArray, List.set_cons_zero, List.set_cons_succ]
  refine Await.takes (i := 2) [6, 7, 8] (v := ?_) rfl (by kernel_rfl) (by kernel_rfl) (by kernel_rfl) (by kernel_rfl) (fun _ _ _ h => h) (Or.inl ⟨by rfl, ?_⟩) (by assumption) ?_
  rotate_left
  · (intro wa hSw; have hSw2 := FE.out wa hSw; go_simp; try with_reducible rfl)
  simp only [Act.put, List.getElem_toArray, List.getElem_cons_zero, List.getElem_cons_succ, List.setIfInBounds_toArray, List.set_cons_zero, List.set_cons_succ]
  refine Await.pure (i := 3) (v := ?_) rfl (by kernel_rfl) (by kernel_rfl) (by kernel_rfl) (by kernel_rfl) (fun _ _ _ h => h) (Or.inl ⟨by rfl, ?_⟩) (by assumption) ?_
  rotate_left
  · (intro wa _; go_simp; try with_reducible rfl)
  simp only [Act.put, List.getElem_toArray, List.getElem_cons_zero, List.getElem_cons_succ, List.setIfInBounds_toArray, List.set_cons_zero, List.set_cons_succ]
  refine Await.pure (i := 4) (v := ?_) rfl (by kernel_rfl) (by kernel_rfl) (by kernel_rfl) (by kernel_rfl) (fun _ _ _ h => h) (Or.inl ⟨by rfl, ?_⟩) (by assumption) ?_
  rotate_left
  · (intro wa _; go_simp; try with_reducible rfl)
  simp only [Act.put, List.getElem_toArray, List.getElem_cons_zero, List.getElem_cons_succ, List.setIfInBounds_toArray, List.set_cons_zero, List.set_cons_succ]
  refine Await.step (i := 5) (o := _) (by kernel_rfl) rfl (fun K1 hK1' => ?_)
  go_simp
  refine (C4.out _ NR5.out).mono ?_
  rintro e w6 ⟨uv, rfl, hou, b6⟩
  have NU6 := Lib.hid (NoteRow.of_owns hou (by have := HUL.out; omega) (notes_cells (upL ns z k)))
  have BX6 := Lib.hid (BX5.out.below b6)
  have BR6 := Lib.hid (BR5.out.below b6 (Nat.le_refl _))
  have ZF6 := Lib.hid (ZF5.out.below b6)
  have CF6 := Lib.hid (CF5.out.below b6)
  have HM6 := Lib.hid (HM5.out.below b6 (Nat.le_refl _))
  have HB6 := Lib.hid (HB5.out.trans (b6.mono HB5.out.size))
  have hDs6 : D < w6.heap.size := CF6.out.1
  clear BX5 BR5 NR5 ZF5 CF5 HM5 HB5 hou b6 hDs5
  (try go_wp2_with fail)
  refine hK1'.out _ _ ?_ (fun hS => ?_)
  · exact Until.of (BX6.out.2 6 _ rfl)
  clear hK1' K1
  refine Await.step (i := 6) (o := _) (by kernel_rfl) rfl (fun K1 hK1' => ?_)
  go_simp
  refine (HC5.out _ _ BR6.out.2.2.1 NU6.out).mono ?_
  rintro e w7 ⟨vv, xs, rfl, hox, hcx, b7⟩
  obtain ⟨a5, c5, hf5⟩ := owns_form hox
  subst hf5
  have OX7 := Lib.hid (owns_mono (base' := w.heap.size + 2) hox (by omega))
  have hx7 : ∀ q, (Value.slice a5 b.m c5).ownBlock = some q → D < q := fun q hq => Nat.lt_of_lt_of_le hDs6 (hox.lt q hq).1
  have HX7 := Lib.hid hx7
  have HC7 := Lib.hid hcx
  have BX7 := Lib.hid (BX6.out.below b7)
  have ZF7 := Lib.hid (ZF6.out.below b7)
  have CF7 := Lib.hid (CF6.out.below b7)
  have HM7 := Lib.hid (HM6.out.below b7 (Nat.le_refl _))
  have HB7 := Lib.hid (HB6.out.trans (b7.mono HB6.out.size))
  have hDs7 : D < w7.heap.size := CF7.out.1
  clear BX6 BR6 NU6 ZF6 CF6 HM6 HB6 hox hcx hx7 b7 hDs6 HC5 C4 HUL
  (try go_wp2_with fail)
  refine hK1'.out _ _ ?_ (fun hS => ?_)
  · exact Until.of (BX7.out.2 6 _ rfl)
  clear hK1' K1
  refine Await.pure (i := 7) (v := ?_) rfl (by kernel_rfl) (by kernel_rfl) (by kernel_rfl) (by kernel_rfl) (fun _ _ _ h => h) (Or.inl ⟨by rfl, ?_⟩) (by assumption) ?_
  rotate_left
  · (intro wa _; go_simp; try with_reducible rfl)
  simp only [Act.put, List.getElem_toArray, List.getElem_cons_zero, List.getElem_cons_succ, List.setIfInBounds_toArray, List.set_cons_zero, List.set_cons_succ]
  refine Await.pure (i := 8) (v := ?_) rfl (by kernel_rfl) (by kernel_rfl) (by kernel_rfl) (by kernel_rfl) (fun _ _ _ h => h) (Or.inl ⟨by rfl, ?_⟩) (by assumption) ?_
  rotate_left
  · (intro wa _; go_simp; try with_reducible rfl)
  simp only [Act.put, List.getElem_toArray, List.getElem_cons_zero, List.getElem_cons_succ, List.setIfInBounds_toArray, List.set_cons_zero, List.set_cons_succ]
  refine Await.pure (i := 9) (v := ?_) rfl (by kernel_rfl) (by kernel_rfl) (by kernel_rfl) (by kernel_rfl) (fun _ _ _ h => h) (Or.inl ⟨by rfl, ?_⟩) (by assumption) ?_
  rotate_left
  · (intro wa _; go_simp; try with_reducible rfl)
  simp only [Act.put, List.getElem_toArray, List.getElem_cons_zero, List.getElem_cons_succ, List.setIfInBounds_toArray, List.set_cons_zero, List.set_cons_succ]
  refine Await.pure (i := 10) (v := ?_) rfl (by kernel_rfl) (by kernel_rfl) (by kernel_rfl) (by kernel_rfl) (fun _ _ _ h => h) (Or.inl ⟨by rfl, ?_⟩) (by assumption) ?_
  rotate_left
  · (intro wa _; go_simp; try with_reducible rfl)
  simp only [Act.put, List.getElem_toArray, List.getElem_cons_zero, List.getElem_cons_succ, List.setIfInBounds_toArray, List.set_cons_zero, List.set_cons_succ]
  refine Await.step (i := 11) (o := _) (by kernel_rfl) rfl (fun K1 hK1' => ?_)
  have e6 := (CF7.out.2 6 _ rfl).1
  have f6 := (CF7.out.2 6 _ rfl).2
  go_simp
  refine hK1'.out _ _ ?_ (fun hS => ?_)
  · exact Until.over (by kernel_rfl)
  clear hK1' K1
  refine Await.done (by kernel_rfl) ?_ _
  clear e6 f6 hS FE BX7
  have CF8 := Lib.hid (CF7.out.set 6 (.slice a5 b.m c5) (by simp))
  have ZF8 := Lib.hid (ZF7.out.other (D := D) 6 (.slice a5 b.m c5) (by omega))
  have OX8 := Lib.hid (ownsRow_setCell_other OX7.out (a := ⟨D, 6, none⟩) (fun e => by have := HX7.out _ e; simp at this) (.slice a5 b.m c5))
  have T8 : Touch D (D + 1) w7 (w7.setCell ⟨D, 6, none⟩ (.slice a5 b.m c5)) := Touch.setCell (Touch.refl _ _ _) ⟨D, 6, none⟩ _ (Nat.le_refl D) (Nat.lt_succ_self D)
  have HM8 := Lib.hid (HM7.out.apart T8 HMD.out (.inl (Nat.le_refl _)))
  have HB8 := Lib.hid (HB7.out.setCell (p := ⟨D, 6, none⟩) (show w.heap.size ≤ D by omega) (.slice a5 b.m c5))
  have hDs8 : D < (w7.setCell ⟨D, 6, none⟩ (.slice a5 b.m c5)).heap.size := CF8.out.1
  clear CF7 ZF7 OX7 T8 HM7 HB7 hDs7 HX7
  generalize w7.setCell ⟨D, 6, none⟩ (.slice a5 b.m c5) = w9 at *
  have HM9 := Lib.hid (HM8.out.games OX8.out HC7.out)
  have HB9 := HB8
  have d0 := (CF8.out.2 0 _ rfl).1
  have d1 := (CF8.out.2 1 _ rfl).1
  have d2 := (CF8.out.2 2 _ rfl).1
  have d3 := (CF8.out.2 3 _ rfl).1
  have d4 := (CF8.out.2 4 _ rfl).1
  have d5 := (CF8.out.2 5 _ rfl).1
  have d6 := (CF8.out.2 6 _ rfl).1
  have d7 := (CF8.out.2 7 _ rfl).1
  have d8 := (CF8.out.2 8 _ rfl).1
  have q0 := (ZF8.out.2 0 _ rfl).1
  have r0 := (ZF8.out.2 0 _ rfl).2
  have q1 := (ZF8.out.2 1 _ rfl).1
  have r1 := (ZF8.out.2 1 _ rfl).2
  have q2 := (ZF8.out.2 2 _ rfl).1
  have r2 := (ZF8.out.2 2 _ rfl).2
  have q3 := (ZF8.out.2 3 _ rfl).1
  have r3 := (ZF8.out.2 3 _ rfl).2
  have q4 := (ZF8.out.2 4 _ rfl).1
  have r4 := (ZF8.out.2 4 _ rfl).2
  have q5 := (ZF8.out.2 5 _ rfl).1
  have r5 := (ZF8.out.2 5 _ rfl).2
  have q6 := (ZF8.out.2 6 _ rfl).1
  have r6 := (ZF8.out.2 6 _ rfl).2
  have q7 := (ZF8.out.2 7 _ rfl).1
  have r7 := (ZF8.out.2 7 _ rfl).2
  have q8 := (ZF8.out.2 8 _ rfl).1
  have r8 := (ZF8.out.2 8 _ rfl).2
  have hlt9 : w.heap.size + 1 < w9.heap.size := ZF8.out.1
  clear HM8 HB8 OX8
  go_wp2
  refine bodyPost_ret (v := .tuple #[.agg #[.slice a0 b.nf c0, .int .i64 b.win, .int .i64 b.draw, .int .i64 b.loss, .slice a1 b.nl c1, .bool b.again, .slice a5 b.m c5, .slice a3 b.nfa c3, .slice a4 b.nta c4], .bool true]) (by simp [results, Try.results43, go_sem, q0, q1, q2, q3, q4, q5, q6, q7, q8]) rfl (Or.inr ⟨by first | rfl | trivial, _, _, _, _, _, rfl, ?_, ?_⟩)
  · refine BookMem.mono (BookMem.touch (lo := w.heap.size + 1) (hi := w.heap.size + 2) HM9.out ?_ (Nat.le_refl _)) (by omega)
    iterate 9 (refine Touch.setCell ?_ _ _ (by simp) (by simp))
    exact Touch.refl _ _ _
  · iterate 9 (refine Below.setCell ?_ (by simp) _)
    exact HB9.out
def annP (b : BookD) (ns : Nat → NoteD) (k : Nat) (z : Int) : Prop := atP b ns k ∧ decisiveP b.win b.draw b.loss b.nl b.l ∧ 0 ≤ z ∧ z ≤ 100000
/-- the order that is announced of a book -/
def sentL (b : BookD) (R : Bool) : List Int := orderL (if R = true then rankP b (allL b.nf) 0 else [])
def SentPost (w : World) (R : Bool) (z : Int) (L : List Int) (e : Ending) (w' : World) : Prop :=
  (R = false ∧ e = .returned (.tuple #[.agg #[.int .i64 0, .slice none 0 0], .bool false]) ∧ Below w.heap.size w w') ∨
    (R = true ∧ ∃ ov, e = .returned (.tuple #[.agg #[.int .i64 z, ov], .bool true]) ∧ w'.ownsRow w.heap.size 3 1 ov L.length (L.map (Value.int .i64)) ∧ Below w.heap.size w w')
set_option maxRecDepth 100000 in
set_option maxHeartbeats 2000000 in
theorem announceAt_spec (vf vl vg vfa vta : Value) (b : BookD) (nv : Value) (k : Nat) (ns : Nat → NoteD) (z : Int) (R R' : Bool) (w : World) (hR : R = true ↔ annP b ns k z) (hR' : R' = true ↔ bookP (atB b ns k z)) (h : BookRow w vf vl vg vfa vta b) (hs : ∀ i, (b.f i).nm.size ≤ maxLen) (hn : NoteRow w nv k ns) (hbs : bookS b) (hk6 : k ≤ 1048576) :
    Calls Try.prog 31 #[.agg #[vf, .int .i64 b.win, .int .i64 b.draw, .int .i64 b.loss, vl, .bool b.again, vg, vfa, vta], nv, .int .i64 z] w (SentPost w R z (sentL (atB b ns k z) R')) := by
  obtain ⟨fa, fc, la, lc, ga, gc, qa, qc, ta, tc, rfl, rfl, rfl, rfl, rfl⟩ := h.form
  obtain ⟨na, nc, rfl, hn64, _⟩ := hn.form
  obtain ⟨r1, hr1⟩ := boolEx (atP b ns k)
  obtain ⟨r2, hr2⟩ := boolEx (decisiveP b.win b.draw b.loss b.nl b.l)
  have C1 := Lib.hid (fun wa h1 h2 => bookAt_spec (.slice fa b.nf fc) (.slice la b.nl lc) (.slice ga b.m gc) (.slice qa b.nfa qc) (.slice ta b.nta tc) b (.slice na k nc) k ns z r1 wa hr1 h1 hs h2 hbs hk6)
  have C2 := Lib.hid (fun wa h1 => isDecisive_spec b.win b.draw b.loss b.again r2 (.slice la b.nl lc) b.nl b.l wa hr2 h1)
  have C3 : Hid (∀ vf vl vg vfa vta wa, BookMem wa (w.heap.size + 2) vf vl vg vfa vta (atB b ns k z) → Calls Try.prog 46 #[.agg #[vf, .int .i64 (atB b ns k z).win, .int .i64 (atB b ns k z).draw, .int .i64 (atB b ns k z).loss, vl, .bool (atB b ns k z).again, vg, vfa, vta]] wa (IntsL wa (sentL (atB b ns k z) R'))) := fun vf vl vg vfa vta wa h1 =>
    ranking_spec vf vl vg vfa vta (atB b ns k z) R' wa hR' (h1.row hbs) hs hbs.1
  have hall : R = true ↔ (r1 = true ∧ r2 = true ∧ 0 ≤ z ∧ z ≤ 100000) := by rw [hR, hr1, hr2]; exact Iff.rfl
  have HN := Lib.hid (boolF hall)
  have HY := Lib.hid (boolT hall)
  have b0 := ((Below.refl w.heap.size w).alloc (Nat.le_refl _) (.cells #[.slice fa b.nf fc, .int .i64 b.win, .int .i64 b.draw, .int .i64 b.loss, .slice la b.nl lc, .bool b.again, .slice ga b.m gc, .slice qa b.nfa qc, .slice ta b.nta tc] 29)).alloc (by simp) (.cells #[.int .i64 0, .slice none 0 0] 70)
  have es : (w.alloc (.cells #[.slice fa b.nf fc, .int .i64 b.win, .int .i64 b.draw, .int .i64 b.loss, .slice la b.nl lc, .bool b.again, .slice ga b.m gc, .slice qa b.nfa qc, .slice ta b.nta tc] 29)).heap.size = w.heap.size + 1 := by simp
  have BX0 := Lib.hid (BoxN.made (u := w) (cs := #[.slice fa b.nf fc, .int .i64 b.win, .int .i64 b.draw, .int .i64 b.loss, .slice la b.nl lc, .bool b.again, .slice ga b.m gc, .slice qa b.nfa qc, .slice ta b.nta tc]) (t := 29) (w2 := (w.alloc (.cells #[.slice fa b.nf fc, .int .i64 b.win, .int .i64 b.draw, .int .i64 b.loss, .slice la b.nl lc, .bool b.again, .slice ga b.m gc, .slice qa b.nfa qc, .slice ta b.nta tc] 29)).alloc (.cells #[.int .i64 0, .slice none 0 0] 70)) ((Below.refl _ _).alloc (Nat.le_refl _) (.cells #[.int .i64 0, .slice none 0 0] 70)) (B := w.heap.size) rfl)
  have ZF0 := Lib.hid (BoxF.made (u := w.alloc (.cells #[.slice fa b.nf fc, .int .i64 b.win, .int .i64 b.draw, .int .i64 b.loss, .slice la b.nl lc, .bool b.again, .slice ga b.m gc, .slice qa b.nfa qc, .slice ta b.nta tc] 29)) (Below.refl _ _) (B := w.heap.size + 1) es : BoxF ((w.alloc (.cells #[.slice fa b.nf fc, .int .i64 b.win, .int .i64 b.draw, .int .i64 b.loss, .slice la b.nl lc, .bool b.again, .slice ga b.m gc, .slice qa b.nfa qc, .slice ta b.nta tc] 29)).alloc (.cells #[.int .i64 0, .slice none 0 0] 70)) (w.heap.size + 1) [.int .i64 0, .slice none 0 0])
  have BR0 := Lib.hid (h.below b0 (Nat.le_refl _))
  have NR0 := Lib.hid (hn.below b0 (Nat.le_refl _))
  have HB0 := Lib.hid b0
  obtain ⟨RL, hRL⟩ : ∃ RL, sentL (atB b ns k z) R' = RL := ⟨_, rfl⟩
  rw [hRL] at C3 ⊢
  obtain ⟨b', hb', e1, e2, e3, e4, e5, e6, e7, e8, e9, e10, e11, e12, e13⟩ := atB_gen b ns k z
  rw [hb'] at C1 C3
  clear h hn b0 es hR hr1 hr2 hall hs hbs hR' hRL hb'
  have d0 := BX0.out.2 0 _ rfl
  have d1 := BX0.out.2 1 _ rfl
  have d2 := BX0.out.2 2 _ rfl
  have d3 := BX0.out.2 3 _ rfl
  have d4 := BX0.out.2 4 _ rfl
  have d5 := BX0.out.2 5 _ rfl
  have d6 := BX0.out.2 6 _ rfl
  have d7 := BX0.out.2 7 _ rfl
  have d8 := BX0.out.2 8 _ rfl
  go_enter Try.func31, Try.ntmps31
  cases r1 with
  | false =>
    obtain rfl := HN.out fun h => by have := h.1; cases this
    clear HN HY C2 C3 e1 e2 e3 e4 e5 e6 e7 e8 e9 e10 e11 e12 e13
    go_wp2_with fail
    refine (C1.out _ BR0.out NR0.out).mono ?_
    rintro e w1 (⟨_, rfl, b1⟩ | ⟨hc, _⟩)
    case inr => cases hc
    have BX1 := Lib.hid (BoxN.below BX0.out b1)
    have BR1 := Lib.hid (BR0.out.below b1 (Nat.le_refl _))
    have NR1 := Lib.hid (NR0.out.below b1 (Nat.le_refl _))
    have ZF1 := Lib.hid (ZF0.out.below b1)
    have HB1 := Lib.hid (HB0.out.trans (b1.mono (by have := HB0.out.size; omega)))
    clear d0 d1 d2 d3 d4 d5 d6 d7 d8 BX0 BR0 NR0 ZF0 HB0 b1
    have d0 := BX1.out.2 0 _ rfl
    have d1 := BX1.out.2 1 _ rfl
    have d2 := BX1.out.2 2 _ rfl
    have d3 := BX1.out.2 3 _ rfl
    have d4 := BX1.out.2 4 _ rfl
    have d5 := BX1.out.2 5 _ rfl
    have d6 := BX1.out.2 6 _ rfl
    have d7 := BX1.out.2 7 _ rfl
    have d8 := BX1.out.2 8 _ rfl
    have q0 := (ZF1.out.2 0 _ rfl).1
    have r0 := (ZF1.out.2 0 _ rfl).2
    have q1 := (ZF1.out.2 1 _ rfl).1
    have r1 := (ZF1.out.2 1 _ rfl).2
    have hlt : w.heap.size + 1 < w1.heap.size := ZF1.out.1
    go_wp2
    refine bodyPost_ret (v := .tuple #[.agg #[.int .i64 0, .slice none 0 0], .bool false]) (by simp [results, Try.results31, go_sem, q0, q1, hlt]) rfl (Or.inl ⟨by first | rfl | trivial, rfl, ?_⟩)
    exact ((HB1.out.setCell (p := ⟨w.heap.size + 1, 0, none⟩) (by simp) _).setCell (p := ⟨w.heap.size + 1, 1, none⟩) (by simp) _).alloc (by simp [World.setCell]; omega) _
  | true =>
  clear e1 e2 e3 e4 e5 e6 e7 e8 e9 e10 e11 e12 e13
  go_wp2_with fail
  refine (C1.out _ BR0.out NR0.out).mono ?_
  rintro e w1 (⟨hc, _⟩ | ⟨_, uf, ul, ug, ufa, uta, rfl, hm1, b1⟩)
  case inl => cases hc
  obtain ⟨a0, c0, a1, c1, a2, c2, a3, c3, a4, c4, rfl, rfl, rfl, rfl, rfl⟩ := hm1.form
  have HM1 := Lib.hid (hm1.mono (base' := w.heap.size + 2) (by simp))
  clear hm1
  have BX1 := Lib.hid (BoxN.below BX0.out b1)
  have BR1 := Lib.hid (BR0.out.below b1 (Nat.le_refl _))
  have NR1 := Lib.hid (NR0.out.below b1 (Nat.le_refl _))
  have ZF1 := Lib.hid (ZF0.out.below b1)
  have HB1 := Lib.hid (HB0.out.trans (b1.mono (by have := HB0.out.size; omega)))
  clear d0 d1 d2 d3 d4 d5 d6 d7 d8 BX0 BR0 NR0 ZF0 HB0 b1
  have d0 := BX1.out.2 0 _ rfl
  have d1 := BX1.out.2 1 _ rfl
  have d2 := BX1.out.2 2 _ rfl
  have d3 := BX1.out.2 3 _ rfl
  have d4 := BX1.out.2 4 _ rfl
  have d5 := BX1.out.2 5 _ rfl
  have d6 := BX1.out.2 6 _ rfl
  have d7 := BX1.out.2 7 _ rfl
  have d8 := BX1.out.2 8 _ rfl
  have g2 : Below w1.heap.size w1 (w1.alloc (.cells #[.slice a0 b'.nf c0, .int .i64 b'.win, .int .i64 b'.draw, .int .i64 b'.loss, .slice a1 b'.nl c1, .bool b'.again, .slice a2 b'.m c2, .slice a3 b'.nfa c3, .slice a4 b'.nta c4] 29)) := (Below.refl _ _).alloc (Nat.le_refl _) _
  have CX2 := Lib.hid (BoxN.made (u := w1) (cs := #[.slice a0 b'.nf c0, .int .i64 b'.win, .int .i64 b'.draw, .int .i64 b'.loss, .slice a1 b'.nl c1, .bool b'.again, .slice a2 b'.m c2, .slice a3 b'.nfa c3, .slice a4 b'.nta c4]) (t := 29) (w2 := w1.alloc (.cells #[.slice a0 b'.nf c0, .int .i64 b'.win, .int .i64 b'.draw, .int .i64 b'.loss, .slice a1 b'.nl c1, .bool b'.again, .slice a2 b'.m c2, .slice a3 b'.nfa c3, .slice a4 b'.nta c4] 29)) (Below.refl _ _) (B := w1.heap.size) rfl)
  have HM2 := Lib.hid (HM1.out.below g2 (Nat.le_refl _))
  have BX2 := Lib.hid (BX1.out.below g2)
  have BR2 := Lib.hid (BR1.out.below g2 (Nat.le_refl _))
  have ZF2 := Lib.hid (ZF1.out.below g2)
  have HB2 := Lib.hid (HB1.out.trans (g2.mono HB1.out.size))
  have hwD : w.heap.size + 1 < w1.heap.size := ZF1.out.1
  have hwD' : w.heap.size < w1.heap.size := BX1.out.1
  clear BX1 BR1 NR1 ZF1 HB1 HM1 g2 C1
  cases r2 with
  | false =>
    obtain rfl := HN.out fun h => by have := h.2.1; cases this
    clear HN HY C3
    go_wp2_with fail
    refine (C2.out _ BR2.out.2.1).mono ?_
    rintro e w3 ⟨rfl, b3⟩
    have ZF3 := Lib.hid (ZF2.out.below b3)
    have HB3 := Lib.hid (HB2.out.trans (b3.mono HB2.out.size))
    clear d0 d1 d2 d3 d4 d5 d6 d7 d8 b3
    have q0 := (ZF3.out.2 0 _ rfl).1
    have r0 := (ZF3.out.2 0 _ rfl).2
    have q1 := (ZF3.out.2 1 _ rfl).1
    have r1 := (ZF3.out.2 1 _ rfl).2
    have hlt : w.heap.size + 1 < w3.heap.size := ZF3.out.1
    go_wp2
    refine bodyPost_ret (v := .tuple #[.agg #[.int .i64 0, .slice none 0 0], .bool false]) (by simp [results, Try.results31, go_sem, q0, q1]) rfl (Or.inl ⟨by first | rfl | trivial, rfl, ?_⟩)
    iterate 2 (refine Below.setCell ?_ (by simp) _)
    exact HB3.out
  | true =>
  go_wp2_with fail
  refine (C2.out _ BR2.out.2.1).mono ?_
  rintro e w3 ⟨rfl, b3⟩
  have ZF3 := Lib.hid (ZF2.out.below b3)
  have CX3 := Lib.hid (CX2.out.below b3)
  have HM3 := Lib.hid (HM2.out.below b3 (Nat.le_refl _))
  have HB3 := Lib.hid (HB2.out.trans (b3.mono HB2.out.size))
  clear d0 d1 d2 d3 d4 d5 d6 d7 d8 b3 BX2 BR2 ZF2 CX2 HM2 HB2
  have q0 := (ZF3.out.2 0 _ rfl).1
  have r0 := (ZF3.out.2 0 _ rfl).2
  have q1 := (ZF3.out.2 1 _ rfl).1
  have r1 := (ZF3.out.2 1 _ rfl).2
  have hlt : w.heap.size + 1 < w3.heap.size := ZF3.out.1
  by_cases hz : 0 ≤ z ∧ z ≤ 100000
  case neg =>
    obtain rfl := HN.out fun h => hz h.2.2
    clear HN HY C3
    go_wp2_with (go_at_call 45; refine (l01In_no _ _ _ _ hz).mono ?_; rintro e w4 ⟨rfl, rfl⟩)
    refine bodyPost_ret (v := .tuple #[.agg #[.int .i64 0, .slice none 0 0], .bool false]) (by simp [results, Try.results31, go_sem, q0, q1]) rfl (Or.inl ⟨by first | rfl | trivial, rfl, ?_⟩)
    iterate 2 (refine Below.setCell ?_ (by simp) _)
    exact HB3.out
  obtain rfl := HY.out ⟨by first | rfl | trivial, by first | rfl | trivial, hz⟩
  clear HN HY
  have d0 := CX3.out.2 0 _ rfl
  have d1 := CX3.out.2 1 _ rfl
  have d2 := CX3.out.2 2 _ rfl
  have d3 := CX3.out.2 3 _ rfl
  have d4 := CX3.out.2 4 _ rfl
  have d5 := CX3.out.2 5 _ rfl
  have d6 := CX3.out.2 6 _ rfl
  have d7 := CX3.out.2 7 _ rfl
  have d8 := CX3.out.2 8 _ rfl
  clear q0 q1 r0 r1
  go_wp2_with fail
  refine (l01In_yes _ _ _ _ hz).mono ?_
  rintro e w4 ⟨rfl, rfl⟩
  go_wp2_with fail
  refine (C3.out _ _ _ _ _ _ HM3.out).mono ?_
  rintro e w5 ⟨ov, rfl, ho5, b5⟩
  obtain ⟨ra, rc, hrf⟩ := owns_form ho5
  subst hrf
  have ZF5 := Lib.hid (ZF3.out.below b5)
  have HB5 := Lib.hid (HB3.out.trans (b5.mono HB3.out.size))
  have HO5 := Lib.hid (owns_mono (base' := w.heap.size + 2) ho5 (by omega))
  clear d0 d1 d2 d3 d4 d5 d6 d7 d8 b5 ho5 CX3 HM3 hlt
  have q0 := (ZF5.out.2 0 _ rfl).1
  have r0 := (ZF5.out.2 0 _ rfl).2
  have q1 := (ZF5.out.2 1 _ rfl).1
  have r1 := (ZF5.out.2 1 _ rfl).2
  have hlt : w.heap.size + 1 < w5.heap.size := ZF5.out.1
  go_wp2
  refine bodyPost_ret (v := .tuple #[.agg #[.int .i64 z, .slice ra RL.length rc], .bool true]) (by simp [results, Try.results31, go_sem, q0, q1]) rfl (Or.inr ⟨by first | rfl | trivial, _, rfl, ?_, ?_⟩)
  · exact owns_mono (owns_low (owns_low HO5.out 0 (.int .i64 z) (B := w.heap.size + 1) (by omega)) 1 (.slice ra RL.length rc) (B := w.heap.size + 1) (by omega)) (by omega)
  · iterate 2 (refine Below.setCell ?_ (by simp) _)
    exact HB5.out
end Go.Proofs.Ytojkonhhaamodaa
