/-
  Packed: Clubs, BookOk, BookKit, HasMem, BookVals, KeyValue, TeamsAll, TablesImplA.
-/
import Derived.Test.YteciobkjfmddcaaGreatQ1
import Derived.Test.YteciobkjfmddcaaGreatQ3
import Derived.Test.YteciobkjfmddcaaGreatQ4
import Derived.Test.YteciobkjfmddcaaGreatQ6
set_option linter.unusedVariables false
namespace Go.Proofs.YteciobkjfmddcaaGreat
open Go.RowKit

def NumsMade (w : World) (L : List Int) (e : Ending) (w' : World) : Prop :=
  ∃ v, e = .returned v ∧ w'.ownsRow w.heap.size 3 1 v L.length (L.map (Value.int .i64)) ∧ Below w.heap.size w w'
def selL (f : Nat → Int) (c : Int) : Nat → List Int
  | 0 => []
  | k + 1 => selL f c k ++ if f k = c then [(k : Int)] else []
theorem selL_yes {f : Nat → Int} {c : Int} {k : Nat} (h : f k = c) : selL f c (k + 1) = selL f c k ++ [(k : Int)] := by simp [selL, h]
theorem selL_no {f : Nat → Int} {c : Int} {k : Nat} (h : f k ≠ c) : selL f c (k + 1) = selL f c k := by simp [selL, h]
theorem selL_len (f : Nat → Int) (c : Int) : ∀ k, (selL f c k).length ≤ k
  | 0 => Nat.le_refl _
  | k + 1 => by
    have := selL_len f c k
    by_cases h : f k = c
    · rw [selL_yes h]; simp; omega
    · rw [selL_no h]; omega

def seedsL (f : Nat → Int) (n : Nat) : Nat → List Int
  | 0 => []
  | s + 1 => seedsL f n s ++ selL f ((s : Int) + 1) n
def clubsN (g : Nat → TeamD) (n : Nat) : Nat → Nat
  | 0 => 0
  | c + 1 => clubsN g n c + if 0 < (selL (fun i => (g i).club) (c : Int) n).length then 1 else 0
theorem clubsN_le (g : Nat → TeamD) (n : Nat) : ∀ c, clubsN g n c ≤ c
  | 0 => Nat.le_refl _
  | c + 1 => by
    have := clubsN_le g n c
    unfold clubsN
    split <;> omega
theorem TeamRow.below {w w' : World} {B : Nat} {v : Value} {n : Nat} {g : Nat → TeamD} (h : TeamRow w v n g) (hb : Below B w w') (hB : w.heap.size ≤ B) : TeamRow w' v n g := by
  rcases h with h | ⟨b, off, cap, h1, h0, h2, h3, h4⟩
  · exact .inl h
  · refine .inr ⟨b, off, cap, h1, h0, h2, fun i hi => ?_, h4⟩
    obtain ⟨k0, k1, k2⟩ := h3 i hi
    have hlt := Nat.lt_of_lt_of_le (World.block_lt_of_cell? w _ k0) hB
    exact ⟨(hb.cell (p := ⟨b, off + i * 3, none⟩) hlt).trans k0, (hb.cell (p := ⟨b, off + i * 3 + 1, none⟩) hlt).trans k1, (hb.cell (p := ⟨b, off + i * 3 + 2, none⟩) hlt).trans k2⟩
theorem TeamRow.drewN {w : World} {v : Value} {n q : Nat} {g : Nat → TeamD} (h : TeamRow w v n g) : TeamRow (w.drewN q) v n g := by
  rcases h with h | ⟨b, off, cap, h1, h0, h2, h3, h4⟩
  · exact .inl h
  · exact .inr ⟨b, off, cap, h1, h0, h2, fun i hi => by simp only [World.cell?_drewN]; exact h3 i hi, h4⟩
theorem NumsMade.form {w w' : World} {L : List Int} {e : Ending} (h : NumsMade w L e w') :
    ∃ a cap, e = .returned (.slice a L.length cap) ∧ w'.ownsRow w.heap.size 3 1 (.slice a L.length cap) L.length (L.map (Value.int .i64)) ∧ Below w.heap.size w w' := by
  obtain ⟨v, rfl, hown, hb⟩ := h
  rcases hown.2 with ⟨rfl, h0⟩ | ⟨g, cap, cur, rfl, _⟩
  · cases L with
    | nil => exact ⟨_, _, rfl, hown, hb⟩
    | cons => simp at h0
  · exact ⟨_, _, rfl, hown, hb⟩
theorem seedsL_len (f : Nat → Int) (n : Nat) : ∀ s, (seedsL f n s).length ≤ s * n
  | 0 => by simp [seedsL]
  | s + 1 => by
    have h1 := seedsL_len f n s
    have h2 := selL_len f ((s : Int) + 1) n
    unfold seedsL
    rw [List.length_append, Nat.succ_mul]
    omega
end Go.Proofs.YteciobkjfmddcaaGreat
set_option linter.unusedVariables false
namespace Go.Proofs.YteciobkjfmddcaaGreat
open Go.RowKit

structure BookD where
  nf : Nat
  f : Nat → TeamD
  win : Int
  draw : Int
  loss : Int
  nl : Nat
  l : Nat → Int
  again : Bool
  m : Nat
  g : Nat → GameD
  nfa : Nat
  fa : Nat → Int
  nta : Nat
  ta : Nat → Int
def BookRow (w : World) (vf vl vg vfa vta : Value) (b : BookD) : Prop :=
  TeamRow w vf b.nf b.f ∧ IntRow w vl b.nl b.l ∧ GameRow w vg b.m b.g ∧ IntRow w vfa b.nfa b.fa ∧ IntRow w vta b.nta b.ta
theorem BookRow.below {w w' : World} {B : Nat} {vf vl vg vfa vta : Value} {b : BookD} (h : BookRow w vf vl vg vfa vta b) (hb : Below B w w') (hB : w.heap.size ≤ B) : BookRow w' vf vl vg vfa vta b :=
  ⟨h.1.below hb hB, h.2.1.below hb hB, h.2.2.1.below hb hB, h.2.2.2.1.below hb hB, h.2.2.2.2.below hb hB⟩
theorem BookRow.form {w : World} {vf vl vg vfa vta : Value} {b : BookD} (h : BookRow w vf vl vg vfa vta b) :
    ∃ fa fc la lc ga gc qa qc ta tc, vf = .slice fa b.nf fc ∧ vl = .slice la b.nl lc ∧ vg = .slice ga b.m gc ∧ vfa = .slice qa b.nfa qc ∧ vta = .slice ta b.nta tc := by
  obtain ⟨fa, fc, h1, _⟩ := h.1.form
  obtain ⟨la, lc, h2, _⟩ := h.2.1.form
  obtain ⟨ga, gc, h3, _⟩ := h.2.2.1.form
  obtain ⟨qa, qc, h4, _⟩ := h.2.2.2.1.form
  obtain ⟨ta, tc, h5, _⟩ := h.2.2.2.2.form
  exact ⟨fa, fc, la, lc, ga, gc, qa, qc, ta, tc, h1, h2, h3, h4, h5⟩
def pensP (b : BookD) (i : Nat) : Prop := (0 ≤ b.fa i ∧ b.fa i ≤ 1000) ∧ (0 ≤ b.ta i ∧ b.ta i ≤ 1000)
def bookP (b : BookD) : Prop := fieldP b.nf b.f ∧ rulesP b.win b.draw b.loss b.nl b.l ∧ seasonP b.nf b.m b.g ∧ b.nfa = b.nf ∧ b.nta = b.nf ∧ ∀ i, i < b.nf → pensP b i
theorem fieldOk_spec (v : Value) (n : Nat) (g : Nat → TeamD) (R : Bool) (w : World) (h : TeamRow w v n g) (hg : ∀ i, (g i).nm.size ≤ maxLen) (hR : R = true ↔ fieldP n g) :
    Calls Tryz.prog 88 #[v] w fun e w' => e = .returned (.bool R) ∧ Below w.heap.size w w' := by
  cases R with
  | true => exact (fieldOk_yes v n g w h hg (hR.1 rfl)).mono fun e w' h => ⟨h.1, by first | exact h.2 | (obtain ⟨q, rfl⟩ := h.2; exact below_drewN (Below.refl _ _) q) | (rw [← h.2]; exact Below.refl _ _)⟩
  | false => exact (fieldOk_no v n g w h hg fun hp => by have := hR.2 hp; cases this).mono fun e w' h => ⟨h.1, by first | exact h.2 | (obtain ⟨q, rfl⟩ := h.2; exact below_drewN (Below.refl _ _) q) | (rw [← h.2]; exact Below.refl _ _)⟩

theorem int_at {w : World} {a : Option Addr} {n c k : Nat} {g : Nat → Int} (h : IntRow w (.slice a n c) n g) (hk : k < n) : ∃ bo off, a = some ⟨bo, off, none⟩ ∧ n ≤ c ∧ w.cell? ⟨bo, off + k, none⟩ = some (.int .i64 (g k)) := by
  rcases h with ⟨_, _, _, h1⟩ | ⟨b', off, c', he, _, h3, hc, _⟩
  · omega
  · simp only [Value.slice.injEq, true_and] at he
    obtain ⟨rfl, rfl⟩ := he
    exact ⟨b', off, rfl, by omega, hc k hk⟩

set_option maxRecDepth 100000 in
set_option maxHeartbeats 2000000 in
theorem bookOk_spec (vf vl vg vfa vta : Value) (b : BookD) (R : Bool) (w : World) (hR : R = true ↔ bookP b) (h : BookRow w vf vl vg vfa vta b) (hs : ∀ i, (b.f i).nm.size ≤ maxLen) :
    Calls Tryz.prog 44 #[.agg #[vf, .int .i64 b.win, .int .i64 b.draw, .int .i64 b.loss, vl, .bool b.again, vg, vfa, vta]] w fun e w' => e = .returned (.bool R) ∧ Below w.heap.size w w' := by
  obtain ⟨fa, fc, la, lc, ga, gc, qa, qc, ta, tc, rfl, rfl, rfl, rfl, rfl⟩ := h.form
  obtain ⟨r1, hr1⟩ := boolEx (fieldP b.nf b.f)
  obtain ⟨r2, hr2⟩ := boolEx (rulesP b.win b.draw b.loss b.nl b.l)
  obtain ⟨r3, hr3⟩ := boolEx (seasonP b.nf b.m b.g)
  have C1 := Lib.hid (fun w1 h1 => fieldOk_spec (.slice fa b.nf fc) b.nf b.f r1 w1 h1 hs hr1)
  have C2 := Lib.hid (fun w1 h1 => rulesOk_spec b.win b.draw b.loss b.again r2 (.slice la b.nl lc) b.nl b.l w1 hr2 h1)
  have C3 := Lib.hid (fun w1 h1 => seasonOk_spec b.nf (.slice ga b.m gc) b.m b.g r3 w1 hr3 h1)
  have hall : R = true ↔ (r1 = true ∧ r2 = true ∧ r3 = true ∧ b.nfa = b.nf ∧ b.nta = b.nf ∧ ∀ i, i < b.nf → pensP b i) := by rw [hR, hr1, hr2, hr3]; exact Iff.rfl
  have HN := Lib.hid (boolF hall)
  have HY := Lib.hid (boolT hall)
  have b0 := (Below.refl w.heap.size w).alloc (Nat.le_refl _) (.cells #[.slice fa b.nf fc, .int .i64 b.win, .int .i64 b.draw, .int .i64 b.loss, .slice la b.nl lc, .bool b.again, .slice ga b.m gc, .slice qa b.nfa qc, .slice ta b.nta tc] 29)
  have BX0 := Lib.hid (BoxN.made (Below.refl (w.alloc (.cells #[.slice fa b.nf fc, .int .i64 b.win, .int .i64 b.draw, .int .i64 b.loss, .slice la b.nl lc, .bool b.again, .slice ga b.m gc, .slice qa b.nfa qc, .slice ta b.nta tc] 29)).heap.size (w.alloc (.cells #[.slice fa b.nf fc, .int .i64 b.win, .int .i64 b.draw, .int .i64 b.loss, .slice la b.nl lc, .bool b.again, .slice ga b.m gc, .slice qa b.nfa qc, .slice ta b.nta tc] 29))) (B := w.heap.size) rfl)
  have BR0 := Lib.hid (h.below b0 (Nat.le_refl _))
  have HB0 := Lib.hid b0
  have hn64 : (b.nf : Int) ≤ 9223372036854775807 := by obtain ⟨_, _, _, hq, _⟩ := h.1.form; omega
  clear hR hr1 hr2 hr3 hall h b0 hs
  have d0 := BX0.out.2 0 _ rfl
  have d1 := BX0.out.2 1 _ rfl
  have d2 := BX0.out.2 2 _ rfl
  have d3 := BX0.out.2 3 _ rfl
  have d4 := BX0.out.2 4 _ rfl
  have d5 := BX0.out.2 5 _ rfl
  have d6 := BX0.out.2 6 _ rfl
  have d7 := BX0.out.2 7 _ rfl
  have d8 := BX0.out.2 8 _ rfl
  go_enter Tryz.func44, Tryz.ntmps44
  cases r1 with
  | false =>
    obtain rfl := HN.out fun h => by have := h.1; cases this
    clear HN HY
    go_wp2_with fail
    refine (C1.out _ BR0.out.1).mono ?_
    rintro e w1 ⟨rfl, b1⟩
    have BX1 := Lib.hid (BoxN.below BX0.out b1)
    have BR1 := Lib.hid (BR0.out.below b1 (Nat.le_refl _))
    have HB1 := Lib.hid (HB0.out.trans (b1.mono HB0.out.size))
    clear d0 d1 d2 d3 d4 d5 d6 d7 d8 BX0 BR0 HB0 b1
    have d0 := BX1.out.2 0 _ rfl
    have d1 := BX1.out.2 1 _ rfl
    have d2 := BX1.out.2 2 _ rfl
    have d3 := BX1.out.2 3 _ rfl
    have d4 := BX1.out.2 4 _ rfl
    have d5 := BX1.out.2 5 _ rfl
    have d6 := BX1.out.2 6 _ rfl
    have d7 := BX1.out.2 7 _ rfl
    have d8 := BX1.out.2 8 _ rfl
    go_wp2
    go_ret
    exact ⟨rfl, HB1.out⟩
  | true =>
  go_wp2_with fail
  refine (C1.out _ BR0.out.1).mono ?_
  rintro e w1 ⟨rfl, b1⟩
  have BX1 := Lib.hid (BoxN.below BX0.out b1)
  have BR1 := Lib.hid (BR0.out.below b1 (Nat.le_refl _))
  have HB1 := Lib.hid (HB0.out.trans (b1.mono HB0.out.size))
  clear d0 d1 d2 d3 d4 d5 d6 d7 d8 BX0 BR0 HB0 b1
  have d0 := BX1.out.2 0 _ rfl
  have d1 := BX1.out.2 1 _ rfl
  have d2 := BX1.out.2 2 _ rfl
  have d3 := BX1.out.2 3 _ rfl
  have d4 := BX1.out.2 4 _ rfl
  have d5 := BX1.out.2 5 _ rfl
  have d6 := BX1.out.2 6 _ rfl
  have d7 := BX1.out.2 7 _ rfl
  have d8 := BX1.out.2 8 _ rfl
  cases r2 with
  | false =>
    obtain rfl := HN.out fun h => by have := h.2.1; cases this
    clear HN HY
    go_wp2_with fail
    refine (C2.out _ BR1.out.2.1).mono ?_
    rintro e w2 ⟨rfl, b2⟩
    have BX2 := Lib.hid (BoxN.below BX1.out b2)
    have BR2 := Lib.hid (BR1.out.below b2 (Nat.le_refl _))
    have HB2 := Lib.hid (HB1.out.trans (b2.mono HB1.out.size))
    clear d0 d1 d2 d3 d4 d5 d6 d7 d8 BX1 BR1 HB1 b2
    have d0 := BX2.out.2 0 _ rfl
    have d1 := BX2.out.2 1 _ rfl
    have d2 := BX2.out.2 2 _ rfl
    have d3 := BX2.out.2 3 _ rfl
    have d4 := BX2.out.2 4 _ rfl
    have d5 := BX2.out.2 5 _ rfl
    have d6 := BX2.out.2 6 _ rfl
    have d7 := BX2.out.2 7 _ rfl
    have d8 := BX2.out.2 8 _ rfl
    go_wp2
    go_ret
    exact ⟨rfl, HB2.out⟩
  | true =>
  go_wp2_with fail
  refine (C2.out _ BR1.out.2.1).mono ?_
  rintro e w2 ⟨rfl, b2⟩
  have BX2 := Lib.hid (BoxN.below BX1.out b2)
  have BR2 := Lib.hid (BR1.out.below b2 (Nat.le_refl _))
  have HB2 := Lib.hid (HB1.out.trans (b2.mono HB1.out.size))
  clear d0 d1 d2 d3 d4 d5 d6 d7 d8 BX1 BR1 HB1 b2
  have d0 := BX2.out.2 0 _ rfl
  have d1 := BX2.out.2 1 _ rfl
  have d2 := BX2.out.2 2 _ rfl
  have d3 := BX2.out.2 3 _ rfl
  have d4 := BX2.out.2 4 _ rfl
  have d5 := BX2.out.2 5 _ rfl
  have d6 := BX2.out.2 6 _ rfl
  have d7 := BX2.out.2 7 _ rfl
  have d8 := BX2.out.2 8 _ rfl
  cases r3 with
  | false =>
    obtain rfl := HN.out fun h => by have := h.2.2.1; cases this
    clear HN HY
    go_wp2_with fail
    refine (C3.out _ BR2.out.2.2.1).mono ?_
    rintro e w3 ⟨rfl, b3⟩
    have BX3 := Lib.hid (BoxN.below BX2.out b3)
    have BR3 := Lib.hid (BR2.out.below b3 (Nat.le_refl _))
    have HB3 := Lib.hid (HB2.out.trans (b3.mono HB2.out.size))
    clear d0 d1 d2 d3 d4 d5 d6 d7 d8 BX2 BR2 HB2 b3
    have d0 := BX3.out.2 0 _ rfl
    have d1 := BX3.out.2 1 _ rfl
    have d2 := BX3.out.2 2 _ rfl
    have d3 := BX3.out.2 3 _ rfl
    have d4 := BX3.out.2 4 _ rfl
    have d5 := BX3.out.2 5 _ rfl
    have d6 := BX3.out.2 6 _ rfl
    have d7 := BX3.out.2 7 _ rfl
    have d8 := BX3.out.2 8 _ rfl
    go_wp2
    go_ret
    exact ⟨rfl, HB3.out⟩
  | true =>
  go_wp2_with fail
  refine (C3.out _ BR2.out.2.2.1).mono ?_
  rintro e w3 ⟨rfl, b3⟩
  have BX3 := Lib.hid (BoxN.below BX2.out b3)
  have BR3 := Lib.hid (BR2.out.below b3 (Nat.le_refl _))
  have HB3 := Lib.hid (HB2.out.trans (b3.mono HB2.out.size))
  clear d0 d1 d2 d3 d4 d5 d6 d7 d8 BX2 BR2 HB2 b3
  have d0 := BX3.out.2 0 _ rfl
  have d1 := BX3.out.2 1 _ rfl
  have d2 := BX3.out.2 2 _ rfl
  have d3 := BX3.out.2 3 _ rfl
  have d4 := BX3.out.2 4 _ rfl
  have d5 := BX3.out.2 5 _ rfl
  have d6 := BX3.out.2 6 _ rfl
  have d7 := BX3.out.2 7 _ rfl
  have d8 := BX3.out.2 8 _ rfl
  by_cases h4 : b.nfa = b.nf
  case neg =>
    obtain rfl := HN.out fun h => h4 h.2.2.2.1
    have g1 : ((b.nfa : Int) == b.nf) = false := beq_eq_false_iff_ne.2 (by omega)
    have g2 : ((b.nfa : Int) != b.nf) = true := by unfold bne; rw [g1]; rfl
    clear HN HY h4
    go_wp2
    go_ret
    exact ⟨rfl, HB3.out⟩
  by_cases h5 : b.nta = b.nf
  case neg =>
    obtain rfl := HN.out fun h => h5 h.2.2.2.2.1
    have g1 : ((b.nfa : Int) == b.nf) = true := beq_iff_eq.2 (by omega)
    have g2 : ((b.nfa : Int) != b.nf) = false := by unfold bne; rw [g1]; rfl
    have g3 : ((b.nta : Int) == b.nf) = false := beq_eq_false_iff_ne.2 (by omega)
    have g4 : ((b.nta : Int) != b.nf) = true := by unfold bne; rw [g3]; rfl
    have H4 := Lib.hid h4
    clear HN HY h5 h4
    go_wp2
    go_ret
    exact ⟨rfl, HB3.out⟩
  have g1 : ((b.nfa : Int) == b.nf) = true := beq_iff_eq.2 (by omega)
  have g2 : ((b.nfa : Int) != b.nf) = false := by unfold bne; rw [g1]; rfl
  have g3 : ((b.nta : Int) == b.nf) = true := beq_iff_eq.2 (by omega)
  have g4 : ((b.nta : Int) != b.nf) = false := by unfold bne; rw [g3]; rfl
  have HN2 : Hid (∀ k, k < b.nf → ¬ pensP b k → R = false) := fun k hk h => HN.out fun hp => h (hp.2.2.2.2.2 k hk)
  have HY2 : Hid ((∀ i, i < b.nf → pensP b i) → R = true) := fun h => HY.out ⟨by first | rfl | trivial, by first | rfl | trivial, by first | rfl | trivial, h4, h5, h⟩
  have H4 := Lib.hid h4
  have H5 := Lib.hid h5
  clear HN HY h4 h5 C1 C2 C3
  go_wp2
  clear g1 g2 g3 g4 d0 d1 d2 d3 d4 d5 d6 d7 d8
  go_loopw [42] (fun i wr => ∃ k : Nat, k ≤ b.nf ∧ i = .int .i64 k ∧ Hid (∀ i, i < k → pensP b i) ∧ Hid (BoxN wr w.heap.size [.slice fa b.nf fc, .int .i64 b.win, .int .i64 b.draw, .int .i64 b.loss, .slice la b.nl lc, .bool b.again, .slice ga b.m gc, .slice qa b.nfa qc, .slice ta b.nta tc]) ∧ Hid (BookRow wr (.slice fa b.nf fc) (.slice la b.nl lc) (.slice ga b.m gc) (.slice qa b.nfa qc) (.slice ta b.nta tc) b) ∧ Hid (Below w.heap.size w wr)) (fun i _ => b.nf - (RowKit.intOf i).toNat)
  case atStart => exact ⟨0, Nat.zero_le _, rfl, fun i hi => absurd hi (by omega), BX3, BR3, HB3⟩
  case round =>
    clear BX3 BR3 HB3
    obtain ⟨k, hk, rfl, hok, BX, BR, HB⟩ := hrel
    by_cases hlt : k < b.nf
    · have hc1 : wr.cell? ⟨w.heap.size, 7, none⟩ = some (.slice qa b.nfa qc) := BX.out.2 7 _ rfl
      have hc2 : wr.cell? ⟨w.heap.size, 8, none⟩ = some (.slice ta b.nta tc) := BX.out.2 8 _ rfl
      obtain ⟨q1, p1, rfl, hcq, u1⟩ : ∃ bo off, qa = some ⟨bo, off, none⟩ ∧ b.nfa ≤ qc ∧ wr.cell? ⟨bo, off + k, none⟩ = some (.int .i64 (b.fa k)) := int_at BR.out.2.2.2.1 (by have := H4.out; omega)
      obtain ⟨q2, p2, rfl, hct, u2⟩ : ∃ bo off, ta = some ⟨bo, off, none⟩ ∧ b.nta ≤ tc ∧ wr.cell? ⟨bo, off + k, none⟩ = some (.int .i64 (b.ta k)) := int_at BR.out.2.2.2.2 (by have := H5.out; omega)
      have e1 : (k : Int) < b.nfa := by have := H4.out; omega
      have e2 : (k : Int) < b.nta := by have := H5.out; omega
      have e3 : k < b.nfa := by omega
      have e4 : k < b.nta := by omega
      have hS : Hid (pensP b k → ∀ i, i < k + 1 → pensP b i) := fun h i hi => by
        by_cases hik : i = k
        · subst hik; exact h
        · exact hok.out i (by omega)
      have HNk := Lib.hid (HN2.out k hlt)
      clear HN2 HY2 hok
      by_cases hf : 0 ≤ b.fa k ∧ b.fa k ≤ 1000
      case neg =>
        obtain rfl := HNk.out fun h => hf h.1
        clear HNk hS
        go_wp2_with (go_at_call 45; refine (l01In_no _ _ _ _ hf).mono ?_; rintro e w2 ⟨rfl, rfl⟩)
        go_ret
        exact ⟨rfl, HB.out⟩
      by_cases ht : 0 ≤ b.ta k ∧ b.ta k ≤ 1000
      case neg =>
        obtain rfl := HNk.out fun h => ht h.2
        clear HNk hS
        go_wp2_with fail
        refine (l01In_yes _ _ _ _ hf).mono ?_
        rintro e w2 ⟨rfl, rfl⟩
        go_wp2_with fail
        refine (l01In_no _ _ _ _ ht).mono ?_
        rintro e w2 ⟨rfl, rfl⟩
        go_wp2
        go_ret
        exact ⟨rfl, HB.out⟩
      have HSk := Lib.hid (hS.out ⟨hf, ht⟩)
      clear HNk hS
      go_wp2_with fail
      refine (l01In_yes _ _ _ _ hf).mono ?_
      rintro e w2 ⟨rfl, rfl⟩
      go_wp2_with fail
      refine (l01In_yes _ _ _ _ ht).mono ?_
      rintro e w2 ⟨rfl, rfl⟩
      go_wp2
      go_roundw
      case rel => exact ⟨k + 1, by omega, by go_num, HSk.out, BX, BR, HB⟩
      case measure => simp [RowKit.intOf]; omega
    · obtain rfl : b.nf = k := by omega
      obtain rfl := HY2.out hok.out
      clear HN2 HY2 hok
      go_wp2
      go_ret
      exact ⟨rfl, HB.out⟩
end Go.Proofs.YteciobkjfmddcaaGreat
set_option linter.unusedVariables false
namespace Go.Proofs.YteciobkjfmddcaaGreat
open Go.RowKit

abbrev bkList (fa : Option Addr) (fc : Nat) (la : Option Addr) (lc : Nat) (ga : Option Addr) (gc : Nat) (qa : Option Addr) (qc : Nat) (ta : Option Addr) (tc : Nat) (b : BookD) : List Value :=
  [.slice fa b.nf fc, .int .i64 b.win, .int .i64 b.draw, .int .i64 b.loss, .slice la b.nl lc, .bool b.again, .slice ga b.m gc, .slice qa b.nfa qc, .slice ta b.nta tc]
structure BkAt (w0 w : World) (B : Nat) (fa : Option Addr) (fc : Nat) (la : Option Addr) (lc : Nat) (ga : Option Addr) (gc : Nat) (qa : Option Addr) (qc : Nat) (ta : Option Addr) (tc : Nat) (b : BookD) : Prop where
  box : BoxN w B (bkList fa fc la lc ga gc qa qc ta tc b)
  row0 : BookRow w0 (.slice fa b.nf fc) (.slice la b.nl lc) (.slice ga b.m gc) (.slice qa b.nfa qc) (.slice ta b.nta tc) b
  bel : Below w0.heap.size w0 w
section
variable {w0 w w' : World} {B : Nat} {fa : Option Addr} {fc : Nat} {la : Option Addr} {lc : Nat} {ga : Option Addr} {gc : Nat} {qa : Option Addr} {qc : Nat} {ta : Option Addr} {tc : Nat} {b : BookD}
theorem BkAt.row (h : BkAt w0 w B fa fc la lc ga gc qa qc ta tc b) : BookRow w (.slice fa b.nf fc) (.slice la b.nl lc) (.slice ga b.m gc) (.slice qa b.nfa qc) (.slice ta b.nta tc) b := h.row0.below h.bel (Nat.le_refl _)
theorem BkAt.next (h : BkAt w0 w B fa fc la lc ga gc qa qc ta tc b) (hb : Below w.heap.size w w') : BkAt w0 w' B fa fc la lc ga gc qa qc ta tc b :=
  ⟨BoxN.below h.box hb, h.row0, h.bel.trans (hb.mono h.bel.size)⟩
theorem box_store {w : World} {B : Nat} {cs : List Value} (h : BoxN w B cs) {p : Addr} (hp : B ≠ p.block) (u : Value) : BoxN (w.setCell p u) B cs :=
  ⟨by have := h.1; simp; omega, fun j v hj => (World.cell?_of_block (w := w) (w' := w.setCell p u) (a := ⟨B, j, none⟩) (Below.heap_setCell w p u B hp)).trans (h.2 j v hj)⟩
theorem BkAt.store (h : BkAt w0 w B fa fc la lc ga gc qa qc ta tc b) {p : Addr} (hp : B ≠ p.block) (h0 : w0.heap.size ≤ p.block) (u : Value) : BkAt w0 (w.setCell p u) B fa fc la lc ga gc qa qc ta tc b :=
  ⟨box_store h.box hp u, h.row0, h.bel.setCell h0 u⟩
theorem BkAt.alloc (h : BkAt w0 w B fa fc la lc ga gc qa qc ta tc b) (o : Obj) : BkAt w0 (w.alloc o) B fa fc la lc ga gc qa qc ta tc b :=
  h.next ((Below.refl _ _).alloc (Nat.le_refl _) _)
theorem BkAt.made (h : BookRow w (.slice fa b.nf fc) (.slice la b.nl lc) (.slice ga b.m gc) (.slice qa b.nfa qc) (.slice ta b.nta tc) b) (t : TypeId) :
    BkAt w (w.alloc (.cells (bkList fa fc la lc ga gc qa qc ta tc b).toArray t)) w.heap.size fa fc la lc ga gc qa qc ta tc b :=
  ⟨BoxN.made (Below.refl _ _) rfl, h, (Below.refl _ _).alloc (Nat.le_refl _) _⟩
theorem BkAt.made2 {u : World} (h : BookRow w0 (.slice fa b.nf fc) (.slice la b.nl lc) (.slice ga b.m gc) (.slice qa b.nfa qc) (.slice ta b.nta tc) b) (hu : Below w0.heap.size w0 u) (t : TypeId) (hB : u.heap.size = B) :
    BkAt w0 (u.alloc (.cells (bkList fa fc la lc ga gc qa qc ta tc b).toArray t)) B fa fc la lc ga gc qa qc ta tc b :=
  ⟨BoxN.made (Below.refl _ _) hB, h, hu.trans (((Below.refl _ _).alloc (Nat.le_refl _) _).mono hu.size)⟩
theorem BkAt.grown {q : Nat} (h : BkAt w0 w B fa fc la lc ga gc qa qc ta tc b) (hg : w.grownBy w' (some q)) (hq : B < q) (h0 : w0.heap.size ≤ B) : BkAt w0 w' B fa fc la lc ga gc qa qc ta tc b :=
  ⟨⟨Nat.lt_of_lt_of_le h.box.1 hg.size, fun j v hj => hg.cell (h.box.2 j v hj) (by simp; omega)⟩, h.row0, h.bel.grown hg h.bel.size (fun k e => by cases e; omega)⟩
theorem code_named {P : Program} {c : Code} {Q : Exit → Act → World → Prop} {a : Act} {w : World} (h : ∀ w', Hid (w' = w) → Code.wp P c Q a w') : Code.wp P c Q a w := h w rfl
theorem BkAt.cells (h : BkAt w0 w B fa fc la lc ga gc qa qc ta tc b) :
    w.cell? ⟨B, 0, none⟩ = some (.slice fa b.nf fc) ∧ w.cell? ⟨B, 1, none⟩ = some (.int .i64 b.win) ∧ w.cell? ⟨B, 2, none⟩ = some (.int .i64 b.draw) ∧ w.cell? ⟨B, 3, none⟩ = some (.int .i64 b.loss) ∧ w.cell? ⟨B, 4, none⟩ = some (.slice la b.nl lc) ∧ w.cell? ⟨B, 5, none⟩ = some (.bool b.again) ∧ w.cell? ⟨B, 6, none⟩ = some (.slice ga b.m gc) ∧ w.cell? ⟨B, 7, none⟩ = some (.slice qa b.nfa qc) ∧ w.cell? ⟨B, 8, none⟩ = some (.slice ta b.nta tc) :=
  ⟨h.box.2 0 _ rfl, h.box.2 1 _ rfl, h.box.2 2 _ rfl, h.box.2 3 _ rfl, h.box.2 4 _ rfl, h.box.2 5 _ rfl, h.box.2 6 _ rfl, h.box.2 7 _ rfl, h.box.2 8 _ rfl⟩
theorem BkAt.lt (h : BkAt w0 w B fa fc la lc ga gc qa qc ta tc b) : B < w.heap.size := h.box.1
theorem BkAt.size (h : BkAt w0 w B fa fc la lc ga gc qa qc ta tc b) : w0.heap.size ≤ w.heap.size := h.bel.size
end
theorem BookRow.sixty {w : World} {vf vl vg vfa vta : Value} {b : BookD} (h : BookRow w vf vl vg vfa vta b) : (b.nf : Int) ≤ 9223372036854775807 ∧ (b.nl : Int) ≤ 9223372036854775807 ∧ (b.m : Int) ≤ 9223372036854775807 ∧ (b.nfa : Int) ≤ 9223372036854775807 ∧ (b.nta : Int) ≤ 9223372036854775807 := by
  obtain ⟨_, _, _, h1, _⟩ := h.1.form
  obtain ⟨_, _, _, h2, _⟩ := h.2.1.form
  obtain ⟨_, _, _, h3, _⟩ := h.2.2.1.form
  obtain ⟨_, _, _, h4, _⟩ := h.2.2.2.1.form
  obtain ⟨_, _, _, h5, _⟩ := h.2.2.2.2.form
  exact ⟨by omega, by omega, by omega, by omega, by omega⟩
end Go.Proofs.YteciobkjfmddcaaGreat
set_option linter.unusedVariables false
namespace Go.Proofs.YteciobkjfmddcaaGreat
open Go.RowKit

theorem hasP_mem (L : List Int) (x : Int) : hasP (getI L) x L.length ↔ x ∈ L := by
  constructor
  · rintro ⟨j, hj, rfl⟩
    simp only [getI, List.getD_eq_getElem?_getD, List.getElem?_eq_getElem hj, Option.getD_some]
    exact List.getElem_mem hj
  · intro h
    obtain ⟨j, hj, he⟩ := List.getElem_of_mem h
    exact ⟨j, hj, by simp only [getI, List.getD_eq_getElem?_getD, List.getElem?_eq_getElem hj, Option.getD_some]; exact he⟩
theorem owns_form {w : World} {base : Nat} {e : TypeId} {size : Nat} {v : Value} {n : Nat} {xs : List Value} (h : w.ownsRow base e size v n xs) : ∃ a c, v = .slice a n c := by
  rcases h.2 with ⟨rfl, h0⟩ | ⟨b, cap, cur, rfl, _⟩
  · exact ⟨none, 0, by rw [h0]⟩
  · exact ⟨_, _, rfl⟩
end Go.Proofs.YteciobkjfmddcaaGreat
set_option linter.unusedVariables false
namespace Go.Proofs.YteciobkjfmddcaaGreat
open Go.RowKit

def valD (key : Int) (r : RowD) (tk fr sd : Int) : Int :=
  if key = 1 then wrap64 (r.points - tk) else if key = 5 then r.points else if key = 2 ∨ key = 6 then wrap64 (r.scored - r.against) else if key = 3 then r.scored else if key = 4 then r.wins else if key = 7 then wrap64 (-fr) else if key = 8 then wrap64 (-sd) else 0
def bookT (b : BookD) (key : Int) (gg : Nat → Int) (ng : Nat) : Nat → RowD := tabR b.win b.draw b.loss (selG (!mutualB key) gg ng) b.g b.m
def bookV (b : BookD) (key : Int) (gg : Nat → Int) (ng : Nat) (i : Nat) : Int := valD key (bookT b key gg ng i) (b.ta i) (b.fa i) (b.f i).seed
theorem row_of {w : World} {a : Option Addr} {c n j : Nat} {T : Nat → RowD} (h : RowRow w (.slice a n c) n T) (hj : j < n) : ∃ bo off, a = some ⟨bo, off, none⟩ ∧ n ≤ c ∧ CellsAt w bo (off + j * 7) (T j).cells := by
  obtain ⟨aa, cap, he, _, hc⟩ := h.form
  simp only [Value.slice.injEq, true_and] at he
  obtain ⟨bo, off, h1, h2, h3⟩ := hc (by omega)
  obtain ⟨rfl, rfl⟩ := he
  exact ⟨bo, off, h1, h2, h3 j hj⟩
def valsL (V : Nat → Int) (k : Nat) : List Int := (List.range k).map V
theorem valsL_succ (V : Nat → Int) (k : Nat) : valsL V (k + 1) = valsL V k ++ [V k] := by unfold valsL; rw [List.range_succ, List.map_append]; rfl
set_option maxRecDepth 100000 in
set_option maxHeartbeats 4000000 in
theorem l07Values_spec (vf vl vg vfa vta : Value) (b : BookD) (key : Int) (gv : Value) (ng : Nat) (gg : Nat → Int) (w : World) (hp : bookP b) (h : BookRow w vf vl vg vfa vta b) (hgv : IntRow w gv ng gg) :
    Calls Tryz.prog 93 #[.agg #[vf, .int .i64 b.win, .int .i64 b.draw, .int .i64 b.loss, vl, .bool b.again, vg, vfa, vta], .int .i64 key, gv] w (IntsL w (valsL (bookV b key gg ng) b.nf)) := by
  obtain ⟨i0, hi, hz0, hz1, hz2⟩ := info_parts Tryz.infoI
  obtain ⟨fa, fc, la, lc, ga, gc, qa, qc, ta, tc, rfl, rfl, rfl, rfl, rfl⟩ := h.form
  have hn8 : b.nf ≤ 8 := by have := hp.1.1; omega
  have hfa : b.nfa = b.nf := hp.2.2.2.1
  have hta : b.nta = b.nf := hp.2.2.2.2.1
  have CAM := Lib.hid (fun wa h1 h2 => l06Among_spec b.win b.draw b.loss (.slice la b.nl lc) b.again b.nf b.m (.slice ga b.m gc) b.g gv ng gg (!mutualB key) wa ⟨_, _, _, rfl⟩ hn8 h1 h2 (fun i hi => (hp.2.2.1.2 i hi).1))
  obtain ⟨T, hT⟩ : ∃ T, tabR b.win b.draw b.loss (selG (!mutualB key) gg ng) b.g b.m = T := ⟨_, rfl⟩
  rw [hT] at CAM
  have HVd : Hid (∀ i, bookV b key gg ng i = valD key (T i) (b.ta i) (b.fa i) (b.f i).seed) := fun i => by rw [← hT]; rfl
  generalize bookV b key gg ng = V at *
  generalize hmu : mutualB key = mu at *
  have HMU := Lib.hid hmu
  have HFA := Lib.hid hfa
  have HTA := Lib.hid hta
  have CMU : Hid (∀ wa, Calls Tryz.prog 94 #[.int .i64 key] wa fun e w' => e = .returned (.bool mu) ∧ Below wa.heap.size wa w') := fun wa => by rw [← HMU.out]; exact (isMutual_spec key wa).mono fun _ _ h => ⟨h.1, by rw [← h.2]; exact Below.refl _ _⟩
  have b0 := (Below.refl w.heap.size w).alloc (Nat.le_refl _) (.cells #[.slice fa b.nf fc, .int .i64 b.win, .int .i64 b.draw, .int .i64 b.loss, .slice la b.nl lc, .bool b.again, .slice ga b.m gc, .slice qa b.nfa qc, .slice ta b.nta tc] 29)
  have BX0 := Lib.hid (BoxN.made (Below.refl (w.alloc (.cells #[.slice fa b.nf fc, .int .i64 b.win, .int .i64 b.draw, .int .i64 b.loss, .slice la b.nl lc, .bool b.again, .slice ga b.m gc, .slice qa b.nfa qc, .slice ta b.nta tc] 29)).heap.size (w.alloc (.cells #[.slice fa b.nf fc, .int .i64 b.win, .int .i64 b.draw, .int .i64 b.loss, .slice la b.nl lc, .bool b.again, .slice ga b.m gc, .slice qa b.nfa qc, .slice ta b.nta tc] 29))) (B := w.heap.size) rfl)
  have BR0 := Lib.hid (h.below b0 (Nat.le_refl _))
  have GR0 := Lib.hid (hgv.below b0 (Nat.le_refl _))
  have HB0 := Lib.hid b0
  clear h b0 hT hmu hp hgv hfa hta
  go_enter Tryz.func93, Tryz.ntmps93
  obtain ⟨S, HSd⟩ : ∃ S : World → Prop, S = fun w' => BoxN w' w.heap.size [.slice fa b.nf fc, .int .i64 b.win, .int .i64 b.draw, .int .i64 b.loss, .slice la b.nl lc, .bool b.again, .slice ga b.m gc, .slice qa b.nfa qc, .slice ta b.nta tc] ∧ BookRow w' (.slice fa b.nf fc) (.slice la b.nl lc) (.slice ga b.m gc) (.slice qa b.nfa qc) (.slice ta b.nta tc) b ∧ IntRow w' gv ng gg ∧ Below w.heap.size w w' := ⟨_, rfl⟩
  have KS : Hid (∀ wa wb, S wa → Below wa.heap.size wa wb → S wb) := by subst HSd; exact fun wa wb ⟨bx, br, gr, hb⟩ b0 => ⟨bx.below b0, br.below b0 (Nat.le_refl _), gr.below b0 (Nat.le_refl _), hb.trans (b0.mono hb.size)⟩
  have OS : Hid (∀ wa, S wa → BoxN wa w.heap.size [.slice fa b.nf fc, .int .i64 b.win, .int .i64 b.draw, .int .i64 b.loss, .slice la b.nl lc, .bool b.again, .slice ga b.m gc, .slice qa b.nfa qc, .slice ta b.nta tc] ∧ BookRow wa (.slice fa b.nf fc) (.slice la b.nl lc) (.slice ga b.m gc) (.slice qa b.nfa qc) (.slice ta b.nta tc) b ∧ IntRow wa gv ng gg ∧ Below w.heap.size w wa) := by subst HSd; exact fun wa h => h
  have KS0 : Hid (S (w.alloc (.cells #[.slice fa b.nf fc, .int .i64 b.win, .int .i64 b.draw, .int .i64 b.loss, .slice la b.nl lc, .bool b.again, .slice ga b.m gc, .slice qa b.nfa qc, .slice ta b.nta tc] 29)).drew) := by subst HSd; exact ⟨BX0.out.below (Below.refl _ _).drew, BR0.out.below (Below.refl _ _).drew (Nat.le_refl _), GR0.out.below (Below.refl _ _).drew (Nat.le_refl _), HB0.out.drew⟩
  clear HSd
  go_wp2_with fail
  refine wp_region_held_drew (S := S) (by kernel_rfl) ?_ (fun hHeld => ?_)
  · exact KS0.out
  clear KS0 
  refine wpAnyH_take (i := 0) (v := ?_) rfl (by kernel_rfl) (by kernel_rfl) (by kernel_rfl) (fun _ _ _ h => h) (Or.inl ⟨by rfl, ?_⟩) hHeld ?_
  rotate_left
  · (intro wa hSw; obtain ⟨bx, br, gr, hb⟩ := OS.out _ hSw; skip; go_simp; try with_reducible rfl)
  simp only [Act.put, List.getElem_toArray, List.getElem_cons_zero, List.setIfInBounds_toArray, List.set_cons_zero, List.set_cons_succ]
  refine wpAnyH_take (i := 1) (v := ?_) rfl (by kernel_rfl) (by kernel_rfl) (by kernel_rfl) (fun _ _ _ h => h) (Or.inl ⟨by rfl, ?_⟩) hHeld ?_
  rotate_left
  · (intro wa hSw; obtain ⟨bx, br, gr, hb⟩ := OS.out _ hSw; have d0 := bx.2 0 _ rfl; have d1 := bx.2 1 _ rfl; have d2 := bx.2 2 _ rfl; have d3 := bx.2 3 _ rfl; have d4 := bx.2 4 _ rfl; have d5 := bx.2 5 _ rfl; have d6 := bx.2 6 _ rfl; have d7 := bx.2 7 _ rfl; have d8 := bx.2 8 _ rfl; go_simp; try with_reducible rfl)
  simp only [Act.put, List.getElem_toArray, List.getElem_cons_zero, List.getElem_cons_succ, List.setIfInBounds_toArray, List.set_cons_zero, List.set_cons_succ]
  refine wpAnyH_take (i := 2) (v := ?_) rfl (by kernel_rfl) (by kernel_rfl) (by kernel_rfl) (fun _ _ _ h => h) (Or.inl ⟨by rfl, ?_⟩) hHeld ?_
  rotate_left
  · (intro wa hSw; obtain ⟨bx, br, gr, hb⟩ := OS.out _ hSw; skip; go_simp; try with_reducible rfl)
  simp only [Act.put, List.getElem_toArray, List.getElem_cons_zero, List.getElem_cons_succ, List.setIfInBounds_toArray, List.set_cons_zero, List.set_cons_succ]
  refine wpAnyH_take (i := 3) (v := ?_) rfl (by kernel_rfl) (by kernel_rfl) (by kernel_rfl) (fun _ _ _ h => h) (Or.inl ⟨by rfl, ?_⟩) hHeld ?_
  rotate_left
  · (intro wa hSw; obtain ⟨bx, br, gr, hb⟩ := OS.out _ hSw; have d0 := bx.2 0 _ rfl; have d1 := bx.2 1 _ rfl; have d2 := bx.2 2 _ rfl; have d3 := bx.2 3 _ rfl; have d4 := bx.2 4 _ rfl; have d5 := bx.2 5 _ rfl; have d6 := bx.2 6 _ rfl; have d7 := bx.2 7 _ rfl; have d8 := bx.2 8 _ rfl; go_simp; try with_reducible rfl)
  simp only [Act.put, List.getElem_toArray, List.getElem_cons_zero, List.getElem_cons_succ, List.setIfInBounds_toArray, List.set_cons_zero, List.set_cons_succ]
  refine wpAnyH_take (i := 4) (v := ?_) rfl (by kernel_rfl) (by kernel_rfl) (by kernel_rfl) (fun _ _ _ h => h) (Or.inl ⟨by rfl, ?_⟩) hHeld ?_
  rotate_left
  · (intro wa hSw; obtain ⟨bx, br, gr, hb⟩ := OS.out _ hSw; skip; go_simp; try with_reducible rfl)
  simp only [Act.put, List.getElem_toArray, List.getElem_cons_zero, List.getElem_cons_succ, List.setIfInBounds_toArray, List.set_cons_zero, List.set_cons_succ]
  refine wpAnyH_take (i := 5) (v := ?_) rfl (by kernel_rfl) (by kernel_rfl) (by kernel_rfl) (fun _ _ _ h => h) (Or.inl ⟨by rfl, ?_⟩) hHeld ?_
  rotate_left
  · (intro wa hSw; obtain ⟨bx, br, gr, hb⟩ := OS.out _ hSw; skip; go_simp; try with_reducible rfl)
  simp only [Act.put, List.getElem_toArray, List.getElem_cons_zero, List.getElem_cons_succ, List.setIfInBounds_toArray, List.set_cons_zero, List.set_cons_succ]
  refine wpAnyH_take (i := 6) (v := ?_) rfl (by kernel_rfl) (by kernel_rfl) (by kernel_rfl) (fun _ _ _ h => h) (Or.inl ⟨by rfl, ?_⟩) hHeld ?_
  rotate_left
  · (intro wa hSw; obtain ⟨bx, br, gr, hb⟩ := OS.out _ hSw; have d0 := bx.2 0 _ rfl; have d1 := bx.2 1 _ rfl; have d2 := bx.2 2 _ rfl; have d3 := bx.2 3 _ rfl; have d4 := bx.2 4 _ rfl; have d5 := bx.2 5 _ rfl; have d6 := bx.2 6 _ rfl; have d7 := bx.2 7 _ rfl; have d8 := bx.2 8 _ rfl; go_simp; try with_reducible rfl)
  simp only [Act.put, List.getElem_toArray, List.getElem_cons_zero, List.getElem_cons_succ, List.setIfInBounds_toArray, List.set_cons_zero, List.set_cons_succ]
  refine wpAnyH_take (i := 7) (v := ?_) rfl (by kernel_rfl) (by kernel_rfl) (by kernel_rfl) (fun _ _ _ h => h) (Or.inl ⟨by rfl, ?_⟩) hHeld ?_
  rotate_left
  · (intro wa hSw; obtain ⟨bx, br, gr, hb⟩ := OS.out _ hSw; skip; go_simp; try with_reducible rfl)
  simp only [Act.put, List.getElem_toArray, List.getElem_cons_zero, List.getElem_cons_succ, List.setIfInBounds_toArray, List.set_cons_zero, List.set_cons_succ]
  refine wpAnyH_take (i := 8) (v := ?_) rfl (by kernel_rfl) (by kernel_rfl) (by kernel_rfl) (fun _ _ _ h => h) (Or.inl ⟨by rfl, ?_⟩) hHeld ?_
  rotate_left
  · (intro wa hSw; obtain ⟨bx, br, gr, hb⟩ := OS.out _ hSw; skip; go_simp; try with_reducible rfl)
  simp only [Act.put, List.getElem_toArray, List.getElem_cons_zero, List.getElem_cons_succ, List.setIfInBounds_toArray, List.set_cons_zero, List.set_cons_succ]
  refine wpAnyH_ready (rs := [9]) (by kernel_rfl) (by simp) ?_
  refine AllReadyH.cons (o := _) rfl (fun K hK => ?_) AllReadyH.nil
  go_simp
  obtain ⟨bx, br, gr, hb⟩ := OS.out _ hHeld
  refine (CMU.out _).mono ?_
  rintro e w101 ⟨rfl, b101⟩
  clear bx br gr hb
  (try go_wp2_with fail)
  refine hK.out _ _ ?_ (fun hHeld101 => ?_)
  · exact KS.out _ _ hHeld b101
  clear hK K
  refine wpAnyH_take (i := 10) (v := ?_) rfl (by kernel_rfl) (by kernel_rfl) (by kernel_rfl) (fun _ _ _ h => h) (Or.inl ⟨by rfl, ?_⟩) hHeld101 ?_
  rotate_left
  · (intro wa hSw; obtain ⟨bx, br, gr, hb⟩ := OS.out _ hSw; skip; go_simp; try with_reducible rfl)
  simp only [Act.put, List.getElem_toArray, List.getElem_cons_zero, List.getElem_cons_succ, List.setIfInBounds_toArray, List.set_cons_zero, List.set_cons_succ]
  refine wpAnyH_ready (rs := [11]) (by kernel_rfl) (by simp) ?_
  refine AllReadyH.cons (o := _) rfl (fun K hK => ?_) AllReadyH.nil
  go_simp
  obtain ⟨bx, br, gr, hb⟩ := OS.out _ hHeld101
  refine (CAM.out _ br.2.2.1 gr).mono ?_
  rintro e w102 ⟨v7, xs7, rfl, ho7, hc7, b102⟩
  clear bx br gr hb
  have ho8 := Lib.hid ho7
  have hc8 := Lib.hid hc7
  clear ho7 hc7
  (try go_wp2_with fail)
  refine hK.out _ _ ?_ (fun hHeld102 => ?_)
  · exact KS.out _ _ hHeld101 b102
  clear hK K
  clear hHeld101
  refine wpAnyH_take (i := 12) (v := ?_) rfl (by kernel_rfl) (by kernel_rfl) (by kernel_rfl) (fun _ _ _ h => h) (Or.inl ⟨by rfl, ?_⟩) hHeld102 ?_
  rotate_left
  · (intro wa hSw; obtain ⟨bx, br, gr, hb⟩ := OS.out _ hSw; skip; go_simp; try with_reducible rfl)
  simp only [Act.put, List.getElem_toArray, List.getElem_cons_zero, List.getElem_cons_succ, List.setIfInBounds_toArray, List.set_cons_zero, List.set_cons_succ]
  refine wpAnyH_done (by kernel_rfl) ?_ _
  obtain ⟨bx, br, gr, hb⟩ := OS.out _ hHeld102
  clear KS OS hHeld hHeld102
  have RR := Lib.hid (show RowRow _ _ _ T from RecRow.of_owns ho8.out (by omega) hc8.out (fun _ _ => Nat.le_refl _))
  obtain ⟨s7a, s7c, rfl⟩ := owns_form ho8.out
  have HBR := Lib.hid br
  have HBX := Lib.hid bx
  have HHB := Lib.hid hb
  have o0 := World.ownsRow_lit (e := 3) (size := 1) w102 #[] 0 (Nat.le_refl _) (by decide) rfl
  have HO0 := Lib.hid o0
  have HB9 := Lib.hid ((Below.refl w102.heap.size w102).alloc (Nat.le_refl _) (.cells #[] 3))
  clear ho8 hc8 o0 br bx gr hb BX0 BR0 GR0 HB0
  go_wp2
  go_loopw [8, 27] (fun ov iv wr => ∃ k : Nat, k ≤ b.nf ∧ iv = .int .i64 k ∧ Hid (wr.ownsRow w102.heap.size 3 1 ov k ((valsL V k).map (Value.int .i64))) ∧ Hid (Below w102.heap.size w102 wr)) (fun _ iv _ => b.nf - (RowKit.intOf iv).toNat)
  case atStart => exact ⟨0, Nat.zero_le _, rfl, HO0, HB9⟩
  case round =>
    clear HO0 HB9
    obtain ⟨k, hk, rfl, HO, HB⟩ := hrel
    by_cases hlt : k < b.nf
    · have RRw := RR.out.below HB.out (Nat.le_refl _)
      obtain ⟨b7, o7, rfl, hcap7, p7⟩ := row_of RRw hlt
      obtain ⟨c0, c1, c2, c3, c4, c5, c6⟩ := row_cells p7
      have BRw := HBR.out.below HB.out (Nat.le_refl _)
      obtain ⟨q1, p1, rfl, hcq, u1⟩ : ∃ bo off, qa = some ⟨bo, off, none⟩ ∧ b.nfa ≤ qc ∧ wr.cell? ⟨bo, off + k, none⟩ = some (.int .i64 (b.fa k)) := int_at BRw.2.2.2.1 (by have := HFA.out; omega)
      obtain ⟨q2, p2, rfl, hct, u2⟩ : ∃ bo off, ta = some ⟨bo, off, none⟩ ∧ b.nta ≤ tc ∧ wr.cell? ⟨bo, off + k, none⟩ = some (.int .i64 (b.ta k)) := int_at BRw.2.2.2.2 (by have := HTA.out; omega)
      obtain ⟨q3, p3, rfl, hcf, u3⟩ : ∃ bo off, fa = some ⟨bo, off, none⟩ ∧ b.nf ≤ fc ∧ wr.cell? ⟨bo, off + k * 3 + 2, none⟩ = some (.int .i64 (b.f k).seed) := by
        obtain ⟨a, cap, he, _, hc⟩ := BRw.1.form'
        simp only [Value.slice.injEq, true_and] at he
        obtain ⟨rfl, rfl⟩ := he
        obtain ⟨bo, off, rfl, hcc, hcs⟩ := hc (by omega)
        exact ⟨bo, off, rfl, hcc, (hcs k hlt).2.2⟩
      have hq1 : q1 < wr.heap.size := World.block_lt_of_cell? wr _ u1
      have hq2 : q2 < wr.heap.size := World.block_lt_of_cell? wr _ u2
      have hq3 : q3 < wr.heap.size := World.block_lt_of_cell? wr _ u3
      have e1 : (k : Int) < b.nfa := by have := HFA.out; omega
      have e2 : (k : Int) < b.nta := by have := HTA.out; omega
      have e3 : (k : Int) < b.nf := by omega
      have e1n : k < b.nfa := by omega
      have e2n : k < b.nta := by omega
      have x3 := (HBX.out.below HB.out).2 0 _ rfl
      have x7 := (HBX.out.below HB.out).2 7 _ rfl
      have x8 := (HBX.out.below HB.out).2 8 _ rfl
      have hBl := HBX.out.1
      have hBl2 : w.heap.size < wr.heap.size := Nat.lt_of_lt_of_le hBl HB.out.size
      have HVk0 := Lib.hid (HVd.out k)
      generalize T k = y at *
      generalize b.fa k = fk at *
      generalize b.ta k = tk at *
      generalize (b.f k).seed = sk at *
      have hsz := HB.out.size
      have hg0 : Below wr.heap.size wr (wr.alloc (.cells #[.int .i64 y.played, .int .i64 y.wins, .int .i64 y.draws, .int .i64 y.losses, .int .i64 y.scored, .int .i64 y.against, .int .i64 y.points] 148)) := (Below.refl _ _).alloc (Nat.le_refl _) _
      have hown2 := owns_below HO.out hg0 (Nat.le_refl _)
      have hb2 := Lib.hid (HB.out.trans (hg0.mono hsz))
      have hsz2 := hb2.out.size
      have hk64 : k + 1 ≤ maxLen := by unfold maxLen; omega
      have CDF := Lib.hid (fun wa => differenceOf_spec y wa)
      clear HO HB RRw BRw hg0 p7
      by_cases k1 : key = 1
      · subst k1
        have HVk : Hid (V k = wrap64 (y.points - tk)) := HVk0.out.trans (by unfold valD; simp)
        clear HVk0
        go_wp2
        go_quiet (fail)
        go_wp2_with (at_builtin; refine wpList_pushL rfl (.tmp 77) (.tmp 79) 24 rfl w102.heap.size 3 Tryz.underlying24 hi hz0 hz1 hz2 rfl (by decide) [.int .i64 (wrap64 (y.points - tk))] rfl (by intro u hu; simp at hu; subst hu; rfl) rfl (by show Value.slice (some ⟨_, 0, none⟩) 1 1 = _; simp) (owns_drewN hown2) hk64 (by omega) hsz2 ?_; intro gg5 cc5 w5 o5 g5 at5 lt5)
        have hHB := Lib.hid ((below_drewN hb2.out _).grown g5 hsz2 (fun q hq => (hown2.lt q hq).1))
        have hO5 : Hid (w5.ownsRow w102.heap.size 3 1 (.slice (some ⟨gg5, 0, none⟩) (k + 1) cc5) (k + 1) ((valsL V (k + 1)).map (Value.int .i64))) := by rw [valsL_succ, List.map_append, HVk.out]; exact o5
        clear o5 g5 at5 hown2 HVk
        go_roundw
        case rel => exact ⟨k + 1, by omega, by go_num, hO5, hHB⟩
        case measure => simp [RowKit.intOf]; omega
      have g1 : (key == 1) = false := beq_eq_false_iff_ne.2 k1
      by_cases k5 : key = 5
      · subst k5
        have HVk : Hid (V k = y.points) := HVk0.out.trans (by unfold valD; simp)
        clear HVk0
        go_wp2_with (at_builtin; refine wpList_pushL rfl (.tmp 77) (.tmp 79) 24 rfl w102.heap.size 3 Tryz.underlying24 hi hz0 hz1 hz2 rfl (by decide) [.int .i64 (y.points)] rfl (by intro u hu; simp at hu; subst hu; rfl) rfl (by show Value.slice (some ⟨_, 0, none⟩) 1 1 = _; simp) hown2 hk64 (by omega) hsz2 ?_; intro gg5 cc5 w5 o5 g5 at5 lt5)
        have hHB := Lib.hid (hb2.out.grown g5 hsz2 (fun q hq => (hown2.lt q hq).1))
        have hO5 : Hid (w5.ownsRow w102.heap.size 3 1 (.slice (some ⟨gg5, 0, none⟩) (k + 1) cc5) (k + 1) ((valsL V (k + 1)).map (Value.int .i64))) := by rw [valsL_succ, List.map_append, HVk.out]; exact o5
        clear o5 g5 at5 hown2 HVk
        go_roundw
        case rel => exact ⟨k + 1, by omega, by go_num, hO5, hHB⟩
        case measure => simp [RowKit.intOf]; omega
      have g5 : (key == 5) = false := beq_eq_false_iff_ne.2 k5
      by_cases k2 : key = 2
      · subst k2
        have HVk : Hid (V k = wrap64 (y.scored - y.against)) := HVk0.out.trans (by unfold valD; simp)
        clear HVk0
        go_wp2_with fail
        refine (CDF.out _).mono ?_
        rintro e wd ⟨rfl, bd⟩
        replace hown2 := owns_below hown2 bd (Nat.le_refl _)
        replace hb2 := Lib.hid (hb2.out.trans (bd.mono hsz2))
        replace hsz2 := hb2.out.size
        clear bd
        go_wp2_with (at_builtin; refine wpList_pushL rfl (.tmp 77) (.tmp 79) 24 rfl w102.heap.size 3 Tryz.underlying24 hi hz0 hz1 hz2 rfl (by decide) [.int .i64 (wrap64 (y.scored - y.against))] rfl (by intro u hu; simp at hu; subst hu; rfl) rfl (by show Value.slice (some ⟨_, 0, none⟩) 1 1 = _; simp) hown2 hk64 (by omega) hsz2 ?_; intro gg5 cc5 w5 o5 g5 at5 lt5)
        have hHB := Lib.hid (hb2.out.grown g5 hsz2 (fun q hq => (hown2.lt q hq).1))
        have hO5 : Hid (w5.ownsRow w102.heap.size 3 1 (.slice (some ⟨gg5, 0, none⟩) (k + 1) cc5) (k + 1) ((valsL V (k + 1)).map (Value.int .i64))) := by rw [valsL_succ, List.map_append, HVk.out]; exact o5
        clear o5 g5 at5 hown2 HVk
        go_roundw
        case rel => exact ⟨k + 1, by omega, by go_num, hO5, hHB⟩
        case measure => simp [RowKit.intOf]; omega
      have g2 : (key == 2) = false := beq_eq_false_iff_ne.2 k2
      by_cases k6 : key = 6
      · subst k6
        have HVk : Hid (V k = wrap64 (y.scored - y.against)) := HVk0.out.trans (by unfold valD; simp)
        clear HVk0
        go_wp2_with fail
        refine (CDF.out _).mono ?_
        rintro e wd ⟨rfl, bd⟩
        replace hown2 := owns_below hown2 bd (Nat.le_refl _)
        replace hb2 := Lib.hid (hb2.out.trans (bd.mono hsz2))
        replace hsz2 := hb2.out.size
        clear bd
        go_wp2_with (at_builtin; refine wpList_pushL rfl (.tmp 77) (.tmp 79) 24 rfl w102.heap.size 3 Tryz.underlying24 hi hz0 hz1 hz2 rfl (by decide) [.int .i64 (wrap64 (y.scored - y.against))] rfl (by intro u hu; simp at hu; subst hu; rfl) rfl (by show Value.slice (some ⟨_, 0, none⟩) 1 1 = _; simp) hown2 hk64 (by omega) hsz2 ?_; intro gg5 cc5 w5 o5 g5 at5 lt5)
        have hHB := Lib.hid (hb2.out.grown g5 hsz2 (fun q hq => (hown2.lt q hq).1))
        have hO5 : Hid (w5.ownsRow w102.heap.size 3 1 (.slice (some ⟨gg5, 0, none⟩) (k + 1) cc5) (k + 1) ((valsL V (k + 1)).map (Value.int .i64))) := by rw [valsL_succ, List.map_append, HVk.out]; exact o5
        clear o5 g5 at5 hown2 HVk
        go_roundw
        case rel => exact ⟨k + 1, by omega, by go_num, hO5, hHB⟩
        case measure => simp [RowKit.intOf]; omega
      have g6 : (key == 6) = false := beq_eq_false_iff_ne.2 k6
      by_cases k3 : key = 3
      · subst k3
        have HVk : Hid (V k = y.scored) := HVk0.out.trans (by unfold valD; simp)
        clear HVk0
        go_wp2_with (at_builtin; refine wpList_pushL rfl (.tmp 77) (.tmp 79) 24 rfl w102.heap.size 3 Tryz.underlying24 hi hz0 hz1 hz2 rfl (by decide) [.int .i64 (y.scored)] rfl (by intro u hu; simp at hu; subst hu; rfl) rfl (by show Value.slice (some ⟨_, 0, none⟩) 1 1 = _; simp) hown2 hk64 (by omega) hsz2 ?_; intro gg5 cc5 w5 o5 g5 at5 lt5)
        have hHB := Lib.hid (hb2.out.grown g5 hsz2 (fun q hq => (hown2.lt q hq).1))
        have hO5 : Hid (w5.ownsRow w102.heap.size 3 1 (.slice (some ⟨gg5, 0, none⟩) (k + 1) cc5) (k + 1) ((valsL V (k + 1)).map (Value.int .i64))) := by rw [valsL_succ, List.map_append, HVk.out]; exact o5
        clear o5 g5 at5 hown2 HVk
        go_roundw
        case rel => exact ⟨k + 1, by omega, by go_num, hO5, hHB⟩
        case measure => simp [RowKit.intOf]; omega
      have g3 : (key == 3) = false := beq_eq_false_iff_ne.2 k3
      by_cases k4 : key = 4
      · subst k4
        have HVk : Hid (V k = y.wins) := HVk0.out.trans (by unfold valD; simp)
        clear HVk0
        go_wp2_with (at_builtin; refine wpList_pushL rfl (.tmp 77) (.tmp 79) 24 rfl w102.heap.size 3 Tryz.underlying24 hi hz0 hz1 hz2 rfl (by decide) [.int .i64 (y.wins)] rfl (by intro u hu; simp at hu; subst hu; rfl) rfl (by show Value.slice (some ⟨_, 0, none⟩) 1 1 = _; simp) hown2 hk64 (by omega) hsz2 ?_; intro gg5 cc5 w5 o5 g5 at5 lt5)
        have hHB := Lib.hid (hb2.out.grown g5 hsz2 (fun q hq => (hown2.lt q hq).1))
        have hO5 : Hid (w5.ownsRow w102.heap.size 3 1 (.slice (some ⟨gg5, 0, none⟩) (k + 1) cc5) (k + 1) ((valsL V (k + 1)).map (Value.int .i64))) := by rw [valsL_succ, List.map_append, HVk.out]; exact o5
        clear o5 g5 at5 hown2 HVk
        go_roundw
        case rel => exact ⟨k + 1, by omega, by go_num, hO5, hHB⟩
        case measure => simp [RowKit.intOf]; omega
      have g4 : (key == 4) = false := beq_eq_false_iff_ne.2 k4
      by_cases k7 : key = 7
      · subst k7
        have HVk : Hid (V k = wrap64 (-fk)) := HVk0.out.trans (by unfold valD; simp)
        clear HVk0
        go_wp2_with (at_builtin; refine wpList_pushL rfl (.tmp 77) (.tmp 79) 24 rfl w102.heap.size 3 Tryz.underlying24 hi hz0 hz1 hz2 rfl (by decide) [.int .i64 (wrap64 (-fk))] rfl (by intro u hu; simp at hu; subst hu; rfl) rfl (by show Value.slice (some ⟨_, 0, none⟩) 1 1 = _; simp) hown2 hk64 (by omega) hsz2 ?_; intro gg5 cc5 w5 o5 g5 at5 lt5)
        have hHB := Lib.hid (hb2.out.grown g5 hsz2 (fun q hq => (hown2.lt q hq).1))
        have hO5 : Hid (w5.ownsRow w102.heap.size 3 1 (.slice (some ⟨gg5, 0, none⟩) (k + 1) cc5) (k + 1) ((valsL V (k + 1)).map (Value.int .i64))) := by rw [valsL_succ, List.map_append, HVk.out]; exact o5
        clear o5 g5 at5 hown2 HVk
        go_roundw
        case rel => exact ⟨k + 1, by omega, by go_num, hO5, hHB⟩
        case measure => simp [RowKit.intOf]; omega
      have g7 : (key == 7) = false := beq_eq_false_iff_ne.2 k7
      by_cases k8 : key = 8
      · subst k8
        have HVk : Hid (V k = wrap64 (-sk)) := HVk0.out.trans (by unfold valD; simp)
        clear HVk0
        go_wp2_with (at_builtin; refine wpList_pushL rfl (.tmp 77) (.tmp 79) 24 rfl w102.heap.size 3 Tryz.underlying24 hi hz0 hz1 hz2 rfl (by decide) [.int .i64 (wrap64 (-sk))] rfl (by intro u hu; simp at hu; subst hu; rfl) rfl (by show Value.slice (some ⟨_, 0, none⟩) 1 1 = _; simp) hown2 hk64 (by omega) hsz2 ?_; intro gg5 cc5 w5 o5 g5 at5 lt5)
        have hHB := Lib.hid (hb2.out.grown g5 hsz2 (fun q hq => (hown2.lt q hq).1))
        have hO5 : Hid (w5.ownsRow w102.heap.size 3 1 (.slice (some ⟨gg5, 0, none⟩) (k + 1) cc5) (k + 1) ((valsL V (k + 1)).map (Value.int .i64))) := by rw [valsL_succ, List.map_append, HVk.out]; exact o5
        clear o5 g5 at5 hown2 HVk
        go_roundw
        case rel => exact ⟨k + 1, by omega, by go_num, hO5, hHB⟩
        case measure => simp [RowKit.intOf]; omega
      have g8 : (key == 8) = false := beq_eq_false_iff_ne.2 k8
      have HVk : Hid (V k = 0) := HVk0.out.trans (by unfold valD; simp [k1, k2, k3, k4, k5, k6, k7, k8])
      clear HVk0 k1 k2 k3 k4 k5 k6 k7 k8
      go_wp2_with (at_builtin; refine wpList_pushL rfl (.tmp 77) (.tmp 79) 24 rfl w102.heap.size 3 Tryz.underlying24 hi hz0 hz1 hz2 rfl (by decide) [.int .i64 (0)] rfl (by intro u hu; simp at hu; subst hu; rfl) rfl (by show Value.slice (some ⟨_, 0, none⟩) 1 1 = _; simp) hown2 hk64 (by omega) hsz2 ?_; intro gg5 cc5 w5 o5 g5 at5 lt5)
      have hHB := Lib.hid (hb2.out.grown g5 hsz2 (fun q hq => (hown2.lt q hq).1))
      have hO5 : Hid (w5.ownsRow w102.heap.size 3 1 (.slice (some ⟨gg5, 0, none⟩) (k + 1) cc5) (k + 1) ((valsL V (k + 1)).map (Value.int .i64))) := by rw [valsL_succ, List.map_append, HVk.out]; exact o5
      clear o5 g5 at5 hown2 HVk
      go_roundw
      case rel => exact ⟨k + 1, by omega, by go_num, hO5, hHB⟩
      case measure => simp [RowKit.intOf]; omega
    · obtain rfl : b.nf = k := by omega
      have hbE := HHB.out.trans (HB.out.mono HHB.out.size)
      have hoE := owns_mono HO.out HHB.out.size
      go_wp2
      go_ret
      have hlen : (valsL V b.nf).length = b.nf := by unfold valsL; simp
      exact ⟨_, rfl, by rw [hlen]; exact hoE, hbE⟩

end Go.Proofs.YteciobkjfmddcaaGreat
set_option linter.unusedVariables false
namespace Go.Proofs.YteciobkjfmddcaaGreat
open Go.RowKit

def keyP (b : BookD) (team : Int) : Prop := bookP b ∧ 0 ≤ team ∧ team ≤ b.nf - 1
end Go.Proofs.YteciobkjfmddcaaGreat
set_option linter.unusedVariables false
namespace Go.Proofs.YteciobkjfmddcaaGreat
open Go.RowKit

def teamsP (n : Nat) (ng : Nat) (gg : Nat → Int) : Prop := ∀ i, i < ng → 0 ≤ gg i ∧ gg i ≤ (n : Int) - 1
theorem l07All_spec (vf vl vg vfa vta : Value) (b : BookD) (w : World) (h : BookRow w vf vl vg vfa vta b) (hn6 : b.nf ≤ 1048576) :
    Calls Tryz.prog 47 #[.agg #[vf, .int .i64 b.win, .int .i64 b.draw, .int .i64 b.loss, vl, .bool b.again, vg, vfa, vta]] w (IntsL w (valsL (fun i => (i : Int)) b.nf)) := by
  obtain ⟨i0, hi, hz0, hz1, hz2⟩ := info_parts Tryz.infoI
  obtain ⟨fa, fc, la, lc, ga, gc, qa, qc, ta, tc, rfl, rfl, rfl, rfl, rfl⟩ := h.form
  have b0 := (Below.refl w.heap.size w).alloc (Nat.le_refl _) (.cells #[.slice fa b.nf fc, .int .i64 b.win, .int .i64 b.draw, .int .i64 b.loss, .slice la b.nl lc, .bool b.again, .slice ga b.m gc, .slice qa b.nfa qc, .slice ta b.nta tc] 29)
  have BX0 := BoxN.made (Below.refl (w.alloc (.cells #[.slice fa b.nf fc, .int .i64 b.win, .int .i64 b.draw, .int .i64 b.loss, .slice la b.nl lc, .bool b.again, .slice ga b.m gc, .slice qa b.nfa qc, .slice ta b.nta tc] 29)).heap.size (w.alloc (.cells #[.slice fa b.nf fc, .int .i64 b.win, .int .i64 b.draw, .int .i64 b.loss, .slice la b.nl lc, .bool b.again, .slice ga b.m gc, .slice qa b.nfa qc, .slice ta b.nta tc] 29))) (B := w.heap.size) rfl
  have d0 := BX0.2 0 _ rfl
  have hl0 := BX0.1
  have o0 := World.ownsRow_lit (e := 3) (size := 1) (w.alloc (.cells #[.slice fa b.nf fc, .int .i64 b.win, .int .i64 b.draw, .int .i64 b.loss, .slice la b.nl lc, .bool b.again, .slice ga b.m gc, .slice qa b.nfa qc, .slice ta b.nta tc] 29)) #[] 0 (Nat.le_refl _) (by decide) rfl
  have HO0 := Lib.hid (owns_mono (base' := w.heap.size) o0 (by simp))
  have HB0 := Lib.hid (b0.alloc (by simp) (.cells #[] 3))
  have es : (w.alloc (.cells #[.slice fa b.nf fc, .int .i64 b.win, .int .i64 b.draw, .int .i64 b.loss, .slice la b.nl lc, .bool b.again, .slice ga b.m gc, .slice qa b.nfa qc, .slice ta b.nta tc] 29)).heap.size = w.heap.size + 1 := by simp
  rw [es] at HO0
  clear h b0 BX0 o0 es
  go_enter Tryz.func47, Tryz.ntmps47
  go_wp2
  go_loopw [3, 9] (fun ov iv wr => ∃ k : Nat, k ≤ b.nf ∧ iv = .int .i64 k ∧ Hid (wr.ownsRow w.heap.size 3 1 ov k ((valsL (fun i => (i : Int)) k).map (Value.int .i64))) ∧ Hid (Below w.heap.size w wr)) (fun _ iv _ => b.nf - (RowKit.intOf iv).toNat)
  case atStart => exact ⟨0, Nat.zero_le _, rfl, HO0, HB0⟩
  case round =>
    clear HO0 HB0 d0 hl0
    obtain ⟨k, hk, rfl, HO, HB⟩ := hrel
    by_cases hlt : k < b.nf
    · have hown := HO.out
      have hsz := HB.out.size
      have hk64 : k + 1 ≤ maxLen := by unfold maxLen; omega
      go_wp2_with (at_builtin; refine wpList_pushL rfl (.tmp 12) (.tmp 14) 24 rfl w.heap.size 3 Tryz.underlying24 hi hz0 hz1 hz2 rfl (by decide) [.int .i64 k] rfl (by intro u hu; simp at hu; subst hu; rfl) rfl (by show Value.slice (some ⟨_, 0, none⟩) 1 1 = _; simp) hown hk64 (by omega) hsz ?_; intro gg5 cc5 w5 o5 g5 at5 lt5)
      have hHB := Lib.hid (HB.out.grown g5 hsz (fun q hq => (hown.lt q hq).1))
      have hO5 : Hid (w5.ownsRow w.heap.size 3 1 (.slice (some ⟨gg5, 0, none⟩) (k + 1) cc5) (k + 1) ((valsL (fun i => (i : Int)) (k + 1)).map (Value.int .i64))) := by rw [valsL_succ, List.map_append]; exact o5
      clear o5 g5 at5 hown HO HB
      go_roundw
      case rel => exact ⟨k + 1, by omega, by go_num, hO5, hHB⟩
      case measure => simp [RowKit.intOf]; omega
    · obtain rfl : b.nf = k := by omega
      have hlen : (valsL (fun i => (i : Int)) b.nf).length = b.nf := by unfold valsL; simp
      go_wp2
      go_ret
      exact ⟨_, rfl, by rw [hlen]; exact HO.out, HB.out⟩
end Go.Proofs.YteciobkjfmddcaaGreat
set_option linter.unusedVariables false
namespace Go.Proofs.YteciobkjfmddcaaGreat
open Go.RowKit

theorem addRows_impl (a b : RowD) (w : World) :
    Calls Tryz.prog 158 #[.agg #[.int .i64 a.played, .int .i64 a.wins, .int .i64 a.draws, .int .i64 a.losses, .int .i64 a.scored, .int .i64 a.against, .int .i64 a.points], .agg #[.int .i64 b.played, .int .i64 b.wins, .int .i64 b.draws, .int .i64 b.losses, .int .i64 b.scored, .int .i64 b.against, .int .i64 b.points]] w fun e w' => e = .returned (addW a b).val ∧ Below w.heap.size w w' := by
  unfold addW RowD.val
  go_enter Tryz.func158, Tryz.ntmps158
  go_wp2
  refine bodyPost_ret (by simp [results, Tryz.results158, go_sem]) rfl ⟨rfl, ?_⟩
  repeat (first | exact Below.refl _ _ | refine Below.setCell ?_ (by simp <;> omega) _ | refine Below.alloc ?_ (by simp <;> omega) _)
theorem differenceOf_impl (a : RowD) (w : World) :
    Calls Tryz.prog 114 #[.agg #[.int .i64 a.played, .int .i64 a.wins, .int .i64 a.draws, .int .i64 a.losses, .int .i64 a.scored, .int .i64 a.against, .int .i64 a.points]] w fun e w' => e = .returned (.int .i64 (wrap64 (a.scored - a.against))) ∧ Below w.heap.size w w' := by
  go_enter Tryz.func114, Tryz.ntmps114
  go_wp2
  go_ret
  exact ⟨rfl, (Below.refl _ _).alloc (Nat.le_refl _) _⟩
def set7 (w : World) (B o : Nat) (y : RowD) : World := ((((((w.setCell ⟨B, o, none⟩ (Value.int .i64 y.played)).setCell ⟨B, o + 1, none⟩ (Value.int .i64 y.wins)).setCell ⟨B, o + 2, none⟩ (Value.int .i64 y.draws)).setCell ⟨B, o + 3, none⟩ (Value.int .i64 y.losses)).setCell ⟨B, o + 4, none⟩ (Value.int .i64 y.scored)).setCell ⟨B, o + 5, none⟩ (Value.int .i64 y.against)).setCell ⟨B, o + 6, none⟩ (Value.int .i64 y.points)
theorem BoxF.set7 {w : World} {B : Nat} {x y : RowD} (h : BoxF w B x.cells) : BoxF (set7 w B 0 y) B y.cells := BoxF.row7 h
theorem below_set7 {a w : World} {B0 B : Nat} {o : Nat} {y : RowD} (h : Below B0 a w) (hB : B0 ≤ B) : Below B0 a (set7 w B o y) :=
  Below.setCell (Below.setCell (Below.setCell (Below.setCell (Below.setCell (Below.setCell (Below.setCell h (p := ⟨B, o, none⟩) hB (Value.int .i64 y.played)) (p := ⟨B, o + 1, none⟩) hB (Value.int .i64 y.wins)) (p := ⟨B, o + 2, none⟩) hB (Value.int .i64 y.draws)) (p := ⟨B, o + 3, none⟩) hB (Value.int .i64 y.losses)) (p := ⟨B, o + 4, none⟩) hB (Value.int .i64 y.scored)) (p := ⟨B, o + 5, none⟩) hB (Value.int .i64 y.against)) (p := ⟨B, o + 6, none⟩) hB (Value.int .i64 y.points)
theorem BoxF.other7 {w : World} {B D : Nat} {cs : List Value} (h : BoxF w B cs) (o : Nat) (y : RowD) (hD : B ≠ D) : BoxF (Go.Proofs.YteciobkjfmddcaaGreat.set7 w D o y) B cs :=
  ((((((h.other o _ hD).other (o + 1) _ hD).other (o + 2) _ hD).other (o + 3) _ hD).other (o + 4) _ hD).other (o + 5) _ hD).other (o + 6) _ hD
theorem BoxF.at0 {w : World} {B : Nat} {x : RowD} (h : BoxF w B x.cells) : CellsAt w B 0 x.cells := ⟨h.1, fun j u hu => by rw [Nat.zero_add]; exact (h.2 j u hu).1⟩
theorem BoxF.free0 {w : World} {B : Nat} {x : RowD} (h : BoxF w B x.cells) : ∀ j, j < 7 → w.frozen? ⟨B, 0 + j, none⟩ = false := fun j hj => by
  rw [Nat.zero_add]
  obtain ⟨v, hv⟩ : ∃ v, x.cells[j]? = some v := ⟨_, List.getElem?_eq_getElem (by simpa [RowD.cells] using hj)⟩
  exact (h.2 j v hv).2

set_option maxRecDepth 100000 in
set_option maxHeartbeats 1000000 in
theorem sumsAdd_impl (s x : RowD) (B off : Nat) (w : World) (hc : CellsAt w B off s.cells) (hf : ∀ j, j < 7 → w.frozen? ⟨B, off + j, none⟩ = false) :
    Calls Tryz.prog 142 #[.pointer (some ⟨B, off, none⟩), .agg #[.int .i64 x.played, .int .i64 x.wins, .int .i64 x.draws, .int .i64 x.losses, .int .i64 x.scored, .int .i64 x.against, .int .i64 x.points]] w fun e w' => e = .returned (.tuple #[]) ∧ ∃ w1, Below w.heap.size w w1 ∧ w' = set7 w1 B off (addW s x) := by
  have hBs := hc.1
  have HF := Lib.hid hf
  have hb0 : Below w.heap.size w (w.alloc (.cells #[.int .i64 x.played, .int .i64 x.wins, .int .i64 x.draws, .int .i64 x.losses, .int .i64 x.scored, .int .i64 x.against, .int .i64 x.points] 148)) := (Below.refl _ _).alloc (Nat.le_refl _) _
  obtain ⟨W1, hW1⟩ : ∃ W1, W1 = w.alloc (.cells #[.int .i64 x.played, .int .i64 x.wins, .int .i64 x.draws, .int .i64 x.losses, .int .i64 x.scored, .int .i64 x.against, .int .i64 x.points] 148) := ⟨_, rfl⟩
  have HB : Hid (Below w.heap.size w W1.drew) := by subst hW1; exact hb0.drew
  obtain ⟨F, HFd⟩ : ∃ F : World → Prop, F = fun w' => CellsAt w' B off s.cells ∧ CellsAt w' w.heap.size 0 x.cells := ⟨_, rfl⟩
  have FE : Hid (∀ wa, F wa → CellsAt wa B off s.cells ∧ CellsAt wa w.heap.size 0 x.cells) := by subst HFd; exact fun _ h => h
  have FI : Hid (∀ wa, CellsAt wa B off s.cells → CellsAt wa w.heap.size 0 x.cells → F wa) := by subst HFd; exact fun _ h1 h2 => ⟨h1, h2⟩
  have F0 : Hid (F W1.drew) := FI.out _ (by subst hW1; exact hc.below hb0.drew) (by
    subst hW1
    have hbx : BoxF (w.alloc (.cells #[.int .i64 x.played, .int .i64 x.wins, .int .i64 x.draws, .int .i64 x.losses, .int .i64 x.scored, .int .i64 x.against, .int .i64 x.points] 148)) w.heap.size x.cells := BoxF.made (Below.refl _ _) rfl
    exact hbx.at0.below (Below.refl _ _).drew)
  clear HFd hc hf hb0
  go_enter Tryz.func142, Tryz.ntmps142
  go_wp2_with fail
  rw [← hW1]
  refine Await.begin (S := Until 9 F) (by kernel_rfl) ?_ (fun hS => ?_)
  · exact Until.of F0.out
  clear F0 hW1
  refine Await.pure (i := 0) (v := ?_) rfl (by kernel_rfl) (by kernel_rfl) (by kernel_rfl) (by kernel_rfl) (fun _ _ _ h => h) (Or.inl ⟨by rfl, ?_⟩) (by assumption) ?_
  rotate_left
  · (intro wa _; go_simp; try with_reducible rfl)
  simp only [Act.put, List.getElem_toArray, List.getElem_cons_zero, List.setIfInBounds_toArray, List.set_cons_zero, List.set_cons_succ]
  refine Await.pure (i := 1) (v := ?_) rfl (by kernel_rfl) (by kernel_rfl) (by kernel_rfl) (by kernel_rfl) (fun _ _ _ h => h) (Or.inl ⟨by rfl, ?_⟩) (by assumption) ?_
  rotate_left
  · (intro wa _; go_simp; try with_reducible rfl)
  simp only [Act.put, List.getElem_toArray, List.getElem_cons_zero, List.getElem_cons_succ, List.setIfInBounds_toArray, List.set_cons_zero, List.set_cons_succ]
  refine Await.pure (i := 2) (v := ?_) rfl (by kernel_rfl) (by kernel_rfl) (by kernel_rfl) (by kernel_rfl) (fun _ _ _ h => h) (Or.inl ⟨by rfl, ?_⟩) (by assumption) ?_
  rotate_left
  · (intro wa _; go_simp; try with_reducible rfl)
  simp only [Act.put, List.getElem_toArray, List.getElem_cons_zero, List.getElem_cons_succ, List.setIfInBounds_toArray, List.set_cons_zero, List.set_cons_succ]
  refine Await.pure (i := 3) (v := ?_) rfl (by kernel_rfl) (by kernel_rfl) (by kernel_rfl) (by kernel_rfl) (fun _ _ _ h => h) (Or.inl ⟨by rfl, ?_⟩) (by assumption) ?_
  rotate_left
  · (intro wa _; go_simp; try with_reducible rfl)
  simp only [Act.put, List.getElem_toArray, List.getElem_cons_zero, List.getElem_cons_succ, List.setIfInBounds_toArray, List.set_cons_zero, List.set_cons_succ]
  refine Await.takes (i := 4) [6] (v := ?_) rfl (by kernel_rfl) (by kernel_rfl) (by kernel_rfl) (by kernel_rfl) (fun _ _ _ h => h) (Or.inl ⟨by rfl, ?_⟩) (by assumption) ?_
  rotate_left
  · (intro wa hSw; obtain ⟨fs, fx⟩ := FE.out wa hSw; obtain ⟨a0, a1, a2, a3, a4, a5, a6⟩ := row_cells fs; obtain ⟨b0, b1, b2, b3, b4, b5, b6⟩ := row_cells fx; go_simp; try with_reducible rfl)
  simp only [Act.put, List.getElem_toArray, List.getElem_cons_zero, List.getElem_cons_succ, List.setIfInBounds_toArray, List.set_cons_zero, List.set_cons_succ]
  refine Await.takes (i := 5) [6] (v := ?_) rfl (by kernel_rfl) (by kernel_rfl) (by kernel_rfl) (by kernel_rfl) (fun _ _ _ h => h) (Or.inl ⟨by rfl, ?_⟩) (by assumption) ?_
  rotate_left
  · (intro wa hSw; obtain ⟨fs, fx⟩ := FE.out wa hSw; obtain ⟨a0, a1, a2, a3, a4, a5, a6⟩ := row_cells fs; obtain ⟨b0, b1, b2, b3, b4, b5, b6⟩ := row_cells fx; go_simp; try with_reducible rfl)
  simp only [Act.put, List.getElem_toArray, List.getElem_cons_zero, List.getElem_cons_succ, List.setIfInBounds_toArray, List.set_cons_zero, List.set_cons_succ]
  refine Await.step (i := 6) (o := _) (by kernel_rfl) rfl (fun K1 hK1' => ?_)
  go_simp
  refine (addRows_impl s x _).mono ?_
  rintro e w9 ⟨rfl, b9⟩
  generalize hz : addW s x = z
  have HZ := Lib.hid hz
  clear hz
  unfold RowD.val
  (try go_wp2_with fail)
  refine hK1'.out _ _ ?_ (fun hS => ?_)
  · exact Until.of (FI.out _ ((FE.out _ (hS (by kernel_rfl))).1.below b9) ((FE.out _ (hS (by kernel_rfl))).2.below b9))
  clear hK1' K1
  refine Await.pure (i := 7) (v := ?_) rfl (by kernel_rfl) (by kernel_rfl) (by kernel_rfl) (by kernel_rfl) (fun _ _ _ h => h) (Or.inl ⟨by rfl, ?_⟩) (by assumption) ?_
  rotate_left
  · (intro wa _; go_simp; try with_reducible rfl)
  simp only [Act.put, List.getElem_toArray, List.getElem_cons_zero, List.getElem_cons_succ, List.setIfInBounds_toArray, List.set_cons_zero, List.set_cons_succ]
  refine Await.pure (i := 8) (v := ?_) rfl (by kernel_rfl) (by kernel_rfl) (by kernel_rfl) (by kernel_rfl) (fun _ _ _ h => h) (Or.inl ⟨by rfl, ?_⟩) (by assumption) ?_
  rotate_left
  · (intro wa _; go_simp; try with_reducible rfl)
  simp only [Act.put, List.getElem_toArray, List.getElem_cons_zero, List.getElem_cons_succ, List.setIfInBounds_toArray, List.set_cons_zero, List.set_cons_succ]
  have hcs9 := (FE.out _ (hS (by kernel_rfl))).1
  have hb9 := Lib.hid (HB.out.trans (b9.mono HB.out.size))
  have hfr : ∀ j, j < 7 → w9.frozen? ⟨B, off + j, none⟩ = false := fun j hj => (hb9.out.frozen (p := ⟨B, off + j, none⟩) hBs).trans (HF.out j hj)
  obtain ⟨d0, d1, d2, d3, d4, d5, d6⟩ := row_cells hcs9
  have e0 := hfr 0 (by omega)
  have e1 := hfr 1 (by omega)
  have e2 := hfr 2 (by omega)
  have e3 := hfr 3 (by omega)
  have e4 := hfr 4 (by omega)
  have e5 := hfr 5 (by omega)
  have e6 := hfr 6 (by omega)
  rw [Nat.add_zero] at e0
  clear hcs9 hfr b9
  refine Await.step (i := 9) (o := _) (by kernel_rfl) rfl (fun K1 hK1' => ?_)
  go_simp
  refine hK1'.out _ _ ?_ (fun hS => ?_)
  · exact Until.over (by kernel_rfl)
  clear hK1' K1
  refine Await.done (by kernel_rfl) ?_ _
  go_wp2
  go_end0
  refine ⟨rfl, w9, hb9.out, ?_⟩
  rw [← HZ.out] at *
  rfl
theorem field_sums (s : RowD) (w : World) : Sem.run Tryz.prog (Instr.field 160 (.agg #[.int .i64 s.played, .int .i64 s.wins, .int .i64 s.draws, .int .i64 s.losses, .int .i64 s.scored, .int .i64 s.against, .int .i64 s.points]) 0) w = .ok (.agg #[.int .i64 s.played, .int .i64 s.wins, .int .i64 s.draws, .int .i64 s.losses, .int .i64 s.scored, .int .i64 s.against, .int .i64 s.points]) w := by kernel_rfl
theorem field_row (s : RowD) (w : World) : Sem.run Tryz.prog (Instr.field 148 (.agg #[.int .i64 s.played, .int .i64 s.wins, .int .i64 s.draws, .int .i64 s.losses, .int .i64 s.scored, .int .i64 s.against, .int .i64 s.points]) 0) w = .ok (.int .i64 s.played) w := by kernel_rfl
theorem sumR_played (g : Nat → RowD) : ∀ k, (sumR g k).played = playedN g k
  | 0 => rfl
  | k + 1 => by
    show wrap64 ((sumR g k).played + (g k).played) = wrap64 (playedN g k + (g k).played)
    rw [sumR_played g k]
def offB (x : RowD) : Bool := wrap64 (wrap64 (x.wins + x.draws) + x.losses) != x.played
theorem offB_iff (x : RowD) : offB x = true ↔ ¬ balR x := by unfold offB balR; simp
end Go.Proofs.YteciobkjfmddcaaGreat
