/-
  Packed: Clubs, BookOk, BookVals, RankFacts, RsnFacts, KeyValue, TeamsAll.
-/
import Derived.Test.YteciobkjfmddcaaGreatQ1
import Derived.Test.YteciobkjfmddcaaGreatQ2
import Derived.Test.YteciobkjfmddcaaGreatQ6
set_option linter.unusedVariables false
namespace Go.Proofs.YteciobkjfmddcaaGreat
open Go.RowKit

def NumsMade (w : World) (L : List Int) (e : Ending) (w' : World) : Prop :=
  ∃ v, e = .returned v ∧ w'.ownsRow w.heap.size 3 1 v L.length (L.map (Value.int .i64)) ∧ Below w.heap.size w w'
def selL (f : Nat → Int) (c : Int) : Nat → List Int
  | 0 => []
  | k + 1 => selL f c k ++ if f k = c then [(k : Int)] else []
theorem selL_yes {f : Nat → Int} {c : Int} {k : Nat} (h : f k = c) : selL f c (k + 1) = selL f c k ++ [(k : Int)] := by simp [selL, h]
theorem selL_no {f : Nat → Int} {c : Int} {k : Nat} (h : f k ≠ c) : selL f c (k + 1) = selL f c k := by simp [selL, h]
theorem selL_len (f : Nat → Int) (c : Int) : ∀ k, (selL f c k).length ≤ k
  | 0 => Nat.le_refl _
  | k + 1 => by
    have := selL_len f c k
    by_cases h : f k = c
    · rw [selL_yes h]; simp; omega
    · rw [selL_no h]; omega

def seedsL (f : Nat → Int) (n : Nat) : Nat → List Int
  | 0 => []
  | s + 1 => seedsL f n s ++ selL f ((s : Int) + 1) n
def clubsN (g : Nat → TeamD) (n : Nat) : Nat → Nat
  | 0 => 0
  | c + 1 => clubsN g n c + if 0 < (selL (fun i => (g i).club) (c : Int) n).length then 1 else 0
theorem clubsN_le (g : Nat → TeamD) (n : Nat) : ∀ c, clubsN g n c ≤ c
  | 0 => Nat.le_refl _
  | c + 1 => by
    have := clubsN_le g n c
    unfold clubsN
    split <;> omega
theorem TeamRow.below {w w' : World} {B : Nat} {v : Value} {n : Nat} {g : Nat → TeamD} (h : TeamRow w v n g) (hb : Below B w w') (hB : w.heap.size ≤ B) : TeamRow w' v n g := by
  rcases h with h | ⟨b, off, cap, h1, h0, h2, h3, h4⟩
  · exact .inl h
  · refine .inr ⟨b, off, cap, h1, h0, h2, fun i hi => ?_, h4⟩
    obtain ⟨k0, k1, k2⟩ := h3 i hi
    have hlt := Nat.lt_of_lt_of_le (World.block_lt_of_cell? w _ k0) hB
    exact ⟨(hb.cell (p := ⟨b, off + i * 3, none⟩) hlt).trans k0, (hb.cell (p := ⟨b, off + i * 3 + 1, none⟩) hlt).trans k1, (hb.cell (p := ⟨b, off + i * 3 + 2, none⟩) hlt).trans k2⟩
theorem TeamRow.drewN {w : World} {v : Value} {n q : Nat} {g : Nat → TeamD} (h : TeamRow w v n g) : TeamRow (w.drewN q) v n g := by
  rcases h with h | ⟨b, off, cap, h1, h0, h2, h3, h4⟩
  · exact .inl h
  · exact .inr ⟨b, off, cap, h1, h0, h2, fun i hi => by simp only [World.cell?_drewN]; exact h3 i hi, h4⟩
theorem NumsMade.form {w w' : World} {L : List Int} {e : Ending} (h : NumsMade w L e w') :
    ∃ a cap, e = .returned (.slice a L.length cap) ∧ w'.ownsRow w.heap.size 3 1 (.slice a L.length cap) L.length (L.map (Value.int .i64)) ∧ Below w.heap.size w w' := by
  obtain ⟨v, rfl, hown, hb⟩ := h
  rcases hown.2 with ⟨rfl, h0⟩ | ⟨g, cap, cur, rfl, _⟩
  · cases L with
    | nil => exact ⟨_, _, rfl, hown, hb⟩
    | cons => simp at h0
  · exact ⟨_, _, rfl, hown, hb⟩
theorem seedsL_len (f : Nat → Int) (n : Nat) : ∀ s, (seedsL f n s).length ≤ s * n
  | 0 => by simp [seedsL]
  | s + 1 => by
    have h1 := seedsL_len f n s
    have h2 := selL_len f ((s : Int) + 1) n
    unfold seedsL
    rw [List.length_append, Nat.succ_mul]
    omega
end Go.Proofs.YteciobkjfmddcaaGreat
set_option linter.unusedVariables false
namespace Go.Proofs.YteciobkjfmddcaaGreat
open Go.RowKit

structure BookD where
  nf : Nat
  f : Nat → TeamD
  win : Int
  draw : Int
  loss : Int
  nl : Nat
  l : Nat → Int
  again : Bool
  m : Nat
  g : Nat → GameD
  nfa : Nat
  fa : Nat → Int
  nta : Nat
  ta : Nat → Int
def BookRow (w : World) (vf vl vg vfa vta : Value) (b : BookD) : Prop :=
  TeamRow w vf b.nf b.f ∧ IntRow w vl b.nl b.l ∧ GameRow w vg b.m b.g ∧ IntRow w vfa b.nfa b.fa ∧ IntRow w vta b.nta b.ta
theorem BookRow.below {w w' : World} {B : Nat} {vf vl vg vfa vta : Value} {b : BookD} (h : BookRow w vf vl vg vfa vta b) (hb : Below B w w') (hB : w.heap.size ≤ B) : BookRow w' vf vl vg vfa vta b :=
  ⟨h.1.below hb hB, h.2.1.below hb hB, h.2.2.1.below hb hB, h.2.2.2.1.below hb hB, h.2.2.2.2.below hb hB⟩
theorem BookRow.form {w : World} {vf vl vg vfa vta : Value} {b : BookD} (h : BookRow w vf vl vg vfa vta b) :
    ∃ fa fc la lc ga gc qa qc ta tc, vf = .slice fa b.nf fc ∧ vl = .slice la b.nl lc ∧ vg = .slice ga b.m gc ∧ vfa = .slice qa b.nfa qc ∧ vta = .slice ta b.nta tc := by
  obtain ⟨fa, fc, h1, _⟩ := h.1.form
  obtain ⟨la, lc, h2, _⟩ := h.2.1.form
  obtain ⟨ga, gc, h3, _⟩ := h.2.2.1.form
  obtain ⟨qa, qc, h4, _⟩ := h.2.2.2.1.form
  obtain ⟨ta, tc, h5, _⟩ := h.2.2.2.2.form
  exact ⟨fa, fc, la, lc, ga, gc, qa, qc, ta, tc, h1, h2, h3, h4, h5⟩
def pensP (b : BookD) (i : Nat) : Prop := (0 ≤ b.fa i ∧ b.fa i ≤ 1000) ∧ (0 ≤ b.ta i ∧ b.ta i ≤ 1000)
def bookP (b : BookD) : Prop := fieldP b.nf b.f ∧ rulesP b.win b.draw b.loss b.nl b.l ∧ seasonP b.nf b.m b.g ∧ b.nfa = b.nf ∧ b.nta = b.nf ∧ ∀ i, i < b.nf → pensP b i
theorem fieldOk_spec (v : Value) (n : Nat) (g : Nat → TeamD) (R : Bool) (w : World) (h : TeamRow w v n g) (hg : ∀ i, (g i).nm.size ≤ maxLen) (hR : R = true ↔ fieldP n g) :
    Calls Tryz.prog 88 #[v] w fun e w' => e = .returned (.bool R) ∧ Below w.heap.size w w' := by
  cases R with
  | true => exact (fieldOk_yes v n g w h hg (hR.1 rfl)).mono fun e w' h => ⟨h.1, by first | exact h.2 | (obtain ⟨q, rfl⟩ := h.2; exact below_drewN (Below.refl _ _) q) | (rw [← h.2]; exact Below.refl _ _)⟩
  | false => exact (fieldOk_no v n g w h hg fun hp => by have := hR.2 hp; cases this).mono fun e w' h => ⟨h.1, by first | exact h.2 | (obtain ⟨q, rfl⟩ := h.2; exact below_drewN (Below.refl _ _) q) | (rw [← h.2]; exact Below.refl _ _)⟩

theorem int_at {w : World} {a : Option Addr} {n c k : Nat} {g : Nat → Int} (h : IntRow w (.slice a n c) n g) (hk : k < n) : ∃ bo off, a = some ⟨bo, off, none⟩ ∧ n ≤ c ∧ w.cell? ⟨bo, off + k, none⟩ = some (.int .i64 (g k)) := by
  rcases h with ⟨_, _, _, h1⟩ | ⟨b', off, c', he, _, h3, hc, _⟩
  · omega
  · simp only [Value.slice.injEq, true_and] at he
    obtain ⟨rfl, rfl⟩ := he
    exact ⟨b', off, rfl, by omega, hc k hk⟩

set_option maxRecDepth 100000 in
set_option maxHeartbeats 2000000 in
theorem bookOk_spec (vf vl vg vfa vta : Value) (b : BookD) (R : Bool) (w : World) (hR : R = true ↔ bookP b) (h : BookRow w vf vl vg vfa vta b) (hs : ∀ i, (b.f i).nm.size ≤ maxLen) :
    Calls Tryz.prog 44 #[.agg #[vf, .int .i64 b.win, .int .i64 b.draw, .int .i64 b.loss, vl, .bool b.again, vg, vfa, vta]] w fun e w' => e = .returned (.bool R) ∧ Below w.heap.size w w' := by
  obtain ⟨fa, fc, la, lc, ga, gc, qa, qc, ta, tc, rfl, rfl, rfl, rfl, rfl⟩ := h.form
  obtain ⟨r1, hr1⟩ := boolEx (fieldP b.nf b.f)
  obtain ⟨r2, hr2⟩ := boolEx (rulesP b.win b.draw b.loss b.nl b.l)
  obtain ⟨r3, hr3⟩ := boolEx (seasonP b.nf b.m b.g)
  have C1 := Lib.hid (fun w1 h1 => fieldOk_spec (.slice fa b.nf fc) b.nf b.f r1 w1 h1 hs hr1)
  have C2 := Lib.hid (fun w1 h1 => rulesOk_spec b.win b.draw b.loss b.again r2 (.slice la b.nl lc) b.nl b.l w1 hr2 h1)
  have C3 := Lib.hid (fun w1 h1 => seasonOk_spec b.nf (.slice ga b.m gc) b.m b.g r3 w1 hr3 h1)
  have hall : R = true ↔ (r1 = true ∧ r2 = true ∧ r3 = true ∧ b.nfa = b.nf ∧ b.nta = b.nf ∧ ∀ i, i < b.nf → pensP b i) := by rw [hR, hr1, hr2, hr3]; exact Iff.rfl
  have HN := Lib.hid (boolF hall)
  have HY := Lib.hid (boolT hall)
  have b0 := (Below.refl w.heap.size w).alloc (Nat.le_refl _) (.cells #[.slice fa b.nf fc, .int .i64 b.win, .int .i64 b.draw, .int .i64 b.loss, .slice la b.nl lc, .bool b.again, .slice ga b.m gc, .slice qa b.nfa qc, .slice ta b.nta tc] 29)
  have BX0 := Lib.hid (BoxN.made (Below.refl (w.alloc (.cells #[.slice fa b.nf fc, .int .i64 b.win, .int .i64 b.draw, .int .i64 b.loss, .slice la b.nl lc, .bool b.again, .slice ga b.m gc, .slice qa b.nfa qc, .slice ta b.nta tc] 29)).heap.size (w.alloc (.cells #[.slice fa b.nf fc, .int .i64 b.win, .int .i64 b.draw, .int .i64 b.loss, .slice la b.nl lc, .bool b.again, .slice ga b.m gc, .slice qa b.nfa qc, .slice ta b.nta tc] 29))) (B := w.heap.size) rfl)
  have BR0 := Lib.hid (h.below b0 (Nat.le_refl _))
  have HB0 := Lib.hid b0
  have hn64 : (b.nf : Int) ≤ 9223372036854775807 := by obtain ⟨_, _, _, hq, _⟩ := h.1.form; omega
  clear hR hr1 hr2 hr3 hall h b0 hs
  have d0 := BX0.out.2 0 _ rfl
  have d1 := BX0.out.2 1 _ rfl
  have d2 := BX0.out.2 2 _ rfl
  have d3 := BX0.out.2 3 _ rfl
  have d4 := BX0.out.2 4 _ rfl
  have d5 := BX0.out.2 5 _ rfl
  have d6 := BX0.out.2 6 _ rfl
  have d7 := BX0.out.2 7 _ rfl
  have d8 := BX0.out.2 8 _ rfl
  go_enter Tryz.func44, Tryz.ntmps44
  cases r1 with
  | false =>
    obtain rfl := HN.out fun h => by have := h.1; cases this
    clear HN HY
    go_wp2_with fail
    refine (C1.out _ BR0.out.1).mono ?_
    rintro e w1 ⟨rfl, b1⟩
    have BX1 := Lib.hid (BoxN.below BX0.out b1)
    have BR1 := Lib.hid (BR0.out.below b1 (Nat.le_refl _))
    have HB1 := Lib.hid (HB0.out.trans (b1.mono HB0.out.size))
    clear d0 d1 d2 d3 d4 d5 d6 d7 d8 BX0 BR0 HB0 b1
    have d0 := BX1.out.2 0 _ rfl
    have d1 := BX1.out.2 1 _ rfl
    have d2 := BX1.out.2 2 _ rfl
    have d3 := BX1.out.2 3 _ rfl
    have d4 := BX1.out.2 4 _ rfl
    have d5 := BX1.out.2 5 _ rfl
    have d6 := BX1.out.2 6 _ rfl
    have d7 := BX1.out.2 7 _ rfl
    have d8 := BX1.out.2 8 _ rfl
    go_wp2
    go_ret
    exact ⟨rfl, HB1.out⟩
  | true =>
  go_wp2_with fail
  refine (C1.out _ BR0.out.1).mono ?_
  rintro e w1 ⟨rfl, b1⟩
  have BX1 := Lib.hid (BoxN.below BX0.out b1)
  have BR1 := Lib.hid (BR0.out.below b1 (Nat.le_refl _))
  have HB1 := Lib.hid (HB0.out.trans (b1.mono HB0.out.size))
  clear d0 d1 d2 d3 d4 d5 d6 d7 d8 BX0 BR0 HB0 b1
  have d0 := BX1.out.2 0 _ rfl
  have d1 := BX1.out.2 1 _ rfl
  have d2 := BX1.out.2 2 _ rfl
  have d3 := BX1.out.2 3 _ rfl
  have d4 := BX1.out.2 4 _ rfl
  have d5 := BX1.out.2 5 _ rfl
  have d6 := BX1.out.2 6 _ rfl
  have d7 := BX1.out.2 7 _ rfl
  have d8 := BX1.out.2 8 _ rfl
  cases r2 with
  | false =>
    obtain rfl := HN.out fun h => by have := h.2.1; cases this
    clear HN HY
    go_wp2_with fail
    refine (C2.out _ BR1.out.2.1).mono ?_
    rintro e w2 ⟨rfl, b2⟩
    have BX2 := Lib.hid (BoxN.below BX1.out b2)
    have BR2 := Lib.hid (BR1.out.below b2 (Nat.le_refl _))
    have HB2 := Lib.hid (HB1.out.trans (b2.mono HB1.out.size))
    clear d0 d1 d2 d3 d4 d5 d6 d7 d8 BX1 BR1 HB1 b2
    have d0 := BX2.out.2 0 _ rfl
    have d1 := BX2.out.2 1 _ rfl
    have d2 := BX2.out.2 2 _ rfl
    have d3 := BX2.out.2 3 _ rfl
    have d4 := BX2.out.2 4 _ rfl
    have d5 := BX2.out.2 5 _ rfl
    have d6 := BX2.out.2 6 _ rfl
    have d7 := BX2.out.2 7 _ rfl
    have d8 := BX2.out.2 8 _ rfl
    go_wp2
    go_ret
    exact ⟨rfl, HB2.out⟩
  | true =>
  go_wp2_with fail
  refine (C2.out _ BR1.out.2.1).mono ?_
  rintro e w2 ⟨rfl, b2⟩
  have BX2 := Lib.hid (BoxN.below BX1.out b2)
  have BR2 := Lib.hid (BR1.out.below b2 (Nat.le_refl _))
  have HB2 := Lib.hid (HB1.out.trans (b2.mono HB1.out.size))
  clear d0 d1 d2 d3 d4 d5 d6 d7 d8 BX1 BR1 HB1 b2
  have d0 := BX2.out.2 0 _ rfl
  have d1 := BX2.out.2 1 _ rfl
  have d2 := BX2.out.2 2 _ rfl
  have d3 := BX2.out.2 3 _ rfl
  have d4 := BX2.out.2 4 _ rfl
  have d5 := BX2.out.2 5 _ rfl
  have d6 := BX2.out.2 6 _ rfl
  have d7 := BX2.out.2 7 _ rfl
  have d8 := BX2.out.2 8 _ rfl
  cases r3 with
  | false =>
    obtain rfl := HN.out fun h => by have := h.2.2.1; cases this
    clear HN HY
    go_wp2_with fail
    refine (C3.out _ BR2.out.2.2.1).mono ?_
    rintro e w3 ⟨rfl, b3⟩
    have BX3 := Lib.hid (BoxN.below BX2.out b3)
    have BR3 := Lib.hid (BR2.out.below b3 (Nat.le_refl _))
    have HB3 := Lib.hid (HB2.out.trans (b3.mono HB2.out.size))
    clear d0 d1 d2 d3 d4 d5 d6 d7 d8 BX2 BR2 HB2 b3
    have d0 := BX3.out.2 0 _ rfl
    have d1 := BX3.out.2 1 _ rfl
    have d2 := BX3.out.2 2 _ rfl
    have d3 := BX3.out.2 3 _ rfl
    have d4 := BX3.out.2 4 _ rfl
    have d5 := BX3.out.2 5 _ rfl
    have d6 := BX3.out.2 6 _ rfl
    have d7 := BX3.out.2 7 _ rfl
    have d8 := BX3.out.2 8 _ rfl
    go_wp2
    go_ret
    exact ⟨rfl, HB3.out⟩
  | true =>
  go_wp2_with fail
  refine (C3.out _ BR2.out.2.2.1).mono ?_
  rintro e w3 ⟨rfl, b3⟩
  have BX3 := Lib.hid (BoxN.below BX2.out b3)
  have BR3 := Lib.hid (BR2.out.below b3 (Nat.le_refl _))
  have HB3 := Lib.hid (HB2.out.trans (b3.mono HB2.out.size))
  clear d0 d1 d2 d3 d4 d5 d6 d7 d8 BX2 BR2 HB2 b3
  have d0 := BX3.out.2 0 _ rfl
  have d1 := BX3.out.2 1 _ rfl
  have d2 := BX3.out.2 2 _ rfl
  have d3 := BX3.out.2 3 _ rfl
  have d4 := BX3.out.2 4 _ rfl
  have d5 := BX3.out.2 5 _ rfl
  have d6 := BX3.out.2 6 _ rfl
  have d7 := BX3.out.2 7 _ rfl
  have d8 := BX3.out.2 8 _ rfl
  by_cases h4 : b.nfa = b.nf
  case neg =>
    obtain rfl := HN.out fun h => h4 h.2.2.2.1
    have g1 : ((b.nfa : Int) == b.nf) = false := beq_eq_false_iff_ne.2 (by omega)
    have g2 : ((b.nfa : Int) != b.nf) = true := by unfold bne; rw [g1]; rfl
    clear HN HY h4
    go_wp2
    go_ret
    exact ⟨rfl, HB3.out⟩
  by_cases h5 : b.nta = b.nf
  case neg =>
    obtain rfl := HN.out fun h => h5 h.2.2.2.2.1
    have g1 : ((b.nfa : Int) == b.nf) = true := beq_iff_eq.2 (by omega)
    have g2 : ((b.nfa : Int) != b.nf) = false := by unfold bne; rw [g1]; rfl
    have g3 : ((b.nta : Int) == b.nf) = false := beq_eq_false_iff_ne.2 (by omega)
    have g4 : ((b.nta : Int) != b.nf) = true := by unfold bne; rw [g3]; rfl
    have H4 := Lib.hid h4
    clear HN HY h5 h4
    go_wp2
    go_ret
    exact ⟨rfl, HB3.out⟩
  have g1 : ((b.nfa : Int) == b.nf) = true := beq_iff_eq.2 (by omega)
  have g2 : ((b.nfa : Int) != b.nf) = false := by unfold bne; rw [g1]; rfl
  have g3 : ((b.nta : Int) == b.nf) = true := beq_iff_eq.2 (by omega)
  have g4 : ((b.nta : Int) != b.nf) = false := by unfold bne; rw [g3]; rfl
  have HN2 : Hid (∀ k, k < b.nf → ¬ pensP b k → R = false) := fun k hk h => HN.out fun hp => h (hp.2.2.2.2.2 k hk)
  have HY2 : Hid ((∀ i, i < b.nf → pensP b i) → R = true) := fun h => HY.out ⟨by first | rfl | trivial, by first | rfl | trivial, by first | rfl | trivial, h4, h5, h⟩
  have H4 := Lib.hid h4
  have H5 := Lib.hid h5
  clear HN HY h4 h5 C1 C2 C3
  go_wp2
  clear g1 g2 g3 g4 d0 d1 d2 d3 d4 d5 d6 d7 d8
  go_loopw [42] (fun i wr => ∃ k : Nat, k ≤ b.nf ∧ i = .int .i64 k ∧ Hid (∀ i, i < k → pensP b i) ∧ Hid (BoxN wr w.heap.size [.slice fa b.nf fc, .int .i64 b.win, .int .i64 b.draw, .int .i64 b.loss, .slice la b.nl lc, .bool b.again, .slice ga b.m gc, .slice qa b.nfa qc, .slice ta b.nta tc]) ∧ Hid (BookRow wr (.slice fa b.nf fc) (.slice la b.nl lc) (.slice ga b.m gc) (.slice qa b.nfa qc) (.slice ta b.nta tc) b) ∧ Hid (Below w.heap.size w wr)) (fun i _ => b.nf - (RowKit.intOf i).toNat)
  case atStart => exact ⟨0, Nat.zero_le _, rfl, fun i hi => absurd hi (by omega), BX3, BR3, HB3⟩
  case round =>
    clear BX3 BR3 HB3
    obtain ⟨k, hk, rfl, hok, BX, BR, HB⟩ := hrel
    by_cases hlt : k < b.nf
    · have hc1 : wr.cell? ⟨w.heap.size, 7, none⟩ = some (.slice qa b.nfa qc) := BX.out.2 7 _ rfl
      have hc2 : wr.cell? ⟨w.heap.size, 8, none⟩ = some (.slice ta b.nta tc) := BX.out.2 8 _ rfl
      obtain ⟨q1, p1, rfl, hcq, u1⟩ : ∃ bo off, qa = some ⟨bo, off, none⟩ ∧ b.nfa ≤ qc ∧ wr.cell? ⟨bo, off + k, none⟩ = some (.int .i64 (b.fa k)) := int_at BR.out.2.2.2.1 (by have := H4.out; omega)
      obtain ⟨q2, p2, rfl, hct, u2⟩ : ∃ bo off, ta = some ⟨bo, off, none⟩ ∧ b.nta ≤ tc ∧ wr.cell? ⟨bo, off + k, none⟩ = some (.int .i64 (b.ta k)) := int_at BR.out.2.2.2.2 (by have := H5.out; omega)
      have e1 : (k : Int) < b.nfa := by have := H4.out; omega
      have e2 : (k : Int) < b.nta := by have := H5.out; omega
      have e3 : k < b.nfa := by omega
      have e4 : k < b.nta := by omega
      have hS : Hid (pensP b k → ∀ i, i < k + 1 → pensP b i) := fun h i hi => by
        by_cases hik : i = k
        · subst hik; exact h
        · exact hok.out i (by omega)
      have HNk := Lib.hid (HN2.out k hlt)
      clear HN2 HY2 hok
      by_cases hf : 0 ≤ b.fa k ∧ b.fa k ≤ 1000
      case neg =>
        obtain rfl := HNk.out fun h => hf h.1
        clear HNk hS
        go_wp2_with (go_at_call 45; refine (l01In_no _ _ _ _ hf).mono ?_; rintro e w2 ⟨rfl, rfl⟩)
        go_ret
        exact ⟨rfl, HB.out⟩
      by_cases ht : 0 ≤ b.ta k ∧ b.ta k ≤ 1000
      case neg =>
        obtain rfl := HNk.out fun h => ht h.2
        clear HNk hS
        go_wp2_with fail
        refine (l01In_yes _ _ _ _ hf).mono ?_
        rintro e w2 ⟨rfl, rfl⟩
        go_wp2_with fail
        refine (l01In_no _ _ _ _ ht).mono ?_
        rintro e w2 ⟨rfl, rfl⟩
        go_wp2
        go_ret
        exact ⟨rfl, HB.out⟩
      have HSk := Lib.hid (hS.out ⟨hf, ht⟩)
      clear HNk hS
      go_wp2_with fail
      refine (l01In_yes _ _ _ _ hf).mono ?_
      rintro e w2 ⟨rfl, rfl⟩
      go_wp2_with fail
      refine (l01In_yes _ _ _ _ ht).mono ?_
      rintro e w2 ⟨rfl, rfl⟩
      go_wp2
      go_roundw
      case rel => exact ⟨k + 1, by omega, by go_num, HSk.out, BX, BR, HB⟩
      case measure => simp [RowKit.intOf]; omega
    · obtain rfl : b.nf = k := by omega
      obtain rfl := HY2.out hok.out
      clear HN2 HY2 hok
      go_wp2
      go_ret
      exact ⟨rfl, HB.out⟩
end Go.Proofs.YteciobkjfmddcaaGreat
set_option linter.unusedVariables false
namespace Go.Proofs.YteciobkjfmddcaaGreat
open Go.RowKit

def valD (key : Int) (r : RowD) (tk fr sd : Int) : Int :=
  if key = 1 then wrap64 (r.points - tk) else if key = 5 then r.points else if key = 2 ∨ key = 6 then wrap64 (r.scored - r.against) else if key = 3 then r.scored else if key = 4 then r.wins else if key = 7 then wrap64 (-fr) else if key = 8 then wrap64 (-sd) else 0
def bookT (b : BookD) (key : Int) (gg : Nat → Int) (ng : Nat) : Nat → RowD := tabR b.win b.draw b.loss (selG (!mutualB key) gg ng) b.g b.m
def bookV (b : BookD) (key : Int) (gg : Nat → Int) (ng : Nat) (i : Nat) : Int := valD key (bookT b key gg ng i) (b.ta i) (b.fa i) (b.f i).seed
theorem row_of {w : World} {a : Option Addr} {c n j : Nat} {T : Nat → RowD} (h : RowRow w (.slice a n c) n T) (hj : j < n) : ∃ bo off, a = some ⟨bo, off, none⟩ ∧ n ≤ c ∧ CellsAt w bo (off + j * 7) (T j).cells := by
  obtain ⟨aa, cap, he, _, hc⟩ := h.form
  simp only [Value.slice.injEq, true_and] at he
  obtain ⟨bo, off, h1, h2, h3⟩ := hc (by omega)
  obtain ⟨rfl, rfl⟩ := he
  exact ⟨bo, off, h1, h2, h3 j hj⟩
def valsL (V : Nat → Int) (k : Nat) : List Int := (List.range k).map V
theorem valsL_succ (V : Nat → Int) (k : Nat) : valsL V (k + 1) = valsL V k ++ [V k] := by unfold valsL; rw [List.range_succ, List.map_append]; rfl
set_option maxRecDepth 100000 in
set_option maxHeartbeats 4000000 in
theorem l07Values_spec (vf vl vg vfa vta : Value) (b : BookD) (key : Int) (gv : Value) (ng : Nat) (gg : Nat → Int) (w : World) (hp : bookP b) (h : BookRow w vf vl vg vfa vta b) (hgv : IntRow w gv ng gg) :
    Calls Tryz.prog 93 #[.agg #[vf, .int .i64 b.win, .int .i64 b.draw, .int .i64 b.loss, vl, .bool b.again, vg, vfa, vta], .int .i64 key, gv] w (IntsL w (valsL (bookV b key gg ng) b.nf)) := by
  obtain ⟨i0, hi, hz0, hz1, hz2⟩ := info_parts Tryz.infoI
  obtain ⟨fa, fc, la, lc, ga, gc, qa, qc, ta, tc, rfl, rfl, rfl, rfl, rfl⟩ := h.form
  have hn8 : b.nf ≤ 8 := by have := hp.1.1; omega
  have hfa : b.nfa = b.nf := hp.2.2.2.1
  have hta : b.nta = b.nf := hp.2.2.2.2.1
  have CAM := Lib.hid (fun wa h1 h2 => l06Among_spec b.win b.draw b.loss (.slice la b.nl lc) b.again b.nf b.m (.slice ga b.m gc) b.g gv ng gg (!mutualB key) wa ⟨_, _, _, rfl⟩ hn8 h1 h2 (fun i hi => (hp.2.2.1.2 i hi).1))
  obtain ⟨T, hT⟩ : ∃ T, tabR b.win b.draw b.loss (selG (!mutualB key) gg ng) b.g b.m = T := ⟨_, rfl⟩
  rw [hT] at CAM
  have HVd : Hid (∀ i, bookV b key gg ng i = valD key (T i) (b.ta i) (b.fa i) (b.f i).seed) := fun i => by rw [← hT]; rfl
  generalize bookV b key gg ng = V at *
  generalize hmu : mutualB key = mu at *
  have HMU := Lib.hid hmu
  have HFA := Lib.hid hfa
  have HTA := Lib.hid hta
  have CMU : Hid (∀ wa, Calls Tryz.prog 94 #[.int .i64 key] wa fun e w' => e = .returned (.bool mu) ∧ Below wa.heap.size wa w') := fun wa => by rw [← HMU.out]; exact (isMutual_spec key wa).mono fun _ _ h => ⟨h.1, by rw [← h.2]; exact Below.refl _ _⟩
  have b0 := (Below.refl w.heap.size w).alloc (Nat.le_refl _) (.cells #[.slice fa b.nf fc, .int .i64 b.win, .int .i64 b.draw, .int .i64 b.loss, .slice la b.nl lc, .bool b.again, .slice ga b.m gc, .slice qa b.nfa qc, .slice ta b.nta tc] 29)
  have BX0 := Lib.hid (BoxN.made (Below.refl (w.alloc (.cells #[.slice fa b.nf fc, .int .i64 b.win, .int .i64 b.draw, .int .i64 b.loss, .slice la b.nl lc, .bool b.again, .slice ga b.m gc, .slice qa b.nfa qc, .slice ta b.nta tc] 29)).heap.size (w.alloc (.cells #[.slice fa b.nf fc, .int .i64 b.win, .int .i64 b.draw, .int .i64 b.loss, .slice la b.nl lc, .bool b.again, .slice ga b.m gc, .slice qa b.nfa qc, .slice ta b.nta tc] 29))) (B := w.heap.size) rfl)
  have BR0 := Lib.hid (h.below b0 (Nat.le_refl _))
  have GR0 := Lib.hid (hgv.below b0 (Nat.le_refl _))
  have HB0 := Lib.hid b0
  clear h b0 hT hmu hp hgv hfa hta
  go_enter Tryz.func93, Tryz.ntmps93
  obtain ⟨S, HSd⟩ : ∃ S : World → Prop, S = fun w' => BoxN w' w.heap.size [.slice fa b.nf fc, .int .i64 b.win, .int .i64 b.draw, .int .i64 b.loss, .slice la b.nl lc, .bool b.again, .slice ga b.m gc, .slice qa b.nfa qc, .slice ta b.nta tc] ∧ BookRow w' (.slice fa b.nf fc) (.slice la b.nl lc) (.slice ga b.m gc) (.slice qa b.nfa qc) (.slice ta b.nta tc) b ∧ IntRow w' gv ng gg ∧ Below w.heap.size w w' := ⟨_, rfl⟩
  have KS : Hid (∀ wa wb, S wa → Below wa.heap.size wa wb → S wb) := by subst HSd; exact fun wa wb ⟨bx, br, gr, hb⟩ b0 => ⟨bx.below b0, br.below b0 (Nat.le_refl _), gr.below b0 (Nat.le_refl _), hb.trans (b0.mono hb.size)⟩
  have OS : Hid (∀ wa, S wa → BoxN wa w.heap.size [.slice fa b.nf fc, .int .i64 b.win, .int .i64 b.draw, .int .i64 b.loss, .slice la b.nl lc, .bool b.again, .slice ga b.m gc, .slice qa b.nfa qc, .slice ta b.nta tc] ∧ BookRow wa (.slice fa b.nf fc) (.slice la b.nl lc) (.slice ga b.m gc) (.slice qa b.nfa qc) (.slice ta b.nta tc) b ∧ IntRow wa gv ng gg ∧ Below w.heap.size w wa) := by subst HSd; exact fun wa h => h
  have KS0 : Hid (S (w.alloc (.cells #[.slice fa b.nf fc, .int .i64 b.win, .int .i64 b.draw, .int .i64 b.loss, .slice la b.nl lc, .bool b.again, .slice ga b.m gc, .slice qa b.nfa qc, .slice ta b.nta tc] 29)).drew) := by subst HSd; exact ⟨BX0.out.below (Below.refl _ _).drew, BR0.out.below (Below.refl _ _).drew (Nat.le_refl _), GR0.out.below (Below.refl _ _).drew (Nat.le_refl _), HB0.out.drew⟩
  clear HSd
  go_wp2_with fail
  refine wp_region_held_drew (S := S) (by kernel_rfl) ?_ (fun hHeld => ?_)
  · exact KS0.out
  clear KS0 
  refine wpAnyH_take (i := 0) (v := ?_) rfl (by kernel_rfl) (by kernel_rfl) (by kernel_rfl) (fun _ _ _ h => h) (Or.inl ⟨by rfl, ?_⟩) hHeld ?_
  rotate_left
  · (intro wa hSw; obtain ⟨bx, br, gr, hb⟩ := OS.out _ hSw; skip; go_simp; try with_reducible rfl)
  simp only [Act.put, List.getElem_toArray, List.getElem_cons_zero, List.setIfInBounds_toArray, List.set_cons_zero, List.set_cons_succ]
  refine wpAnyH_take (i := 1) (v := ?_) rfl (by kernel_rfl) (by kernel_rfl) (by kernel_rfl) (fun _ _ _ h => h) (Or.inl ⟨by rfl, ?_⟩) hHeld ?_
  rotate_left
  · (intro wa hSw; obtain ⟨bx, br, gr, hb⟩ := OS.out _ hSw; have d0 := bx.2 0 _ rfl; have d1 := bx.2 1 _ rfl; have d2 := bx.2 2 _ rfl; have d3 := bx.2 3 _ rfl; have d4 := bx.2 4 _ rfl; have d5 := bx.2 5 _ rfl; have d6 := bx.2 6 _ rfl; have d7 := bx.2 7 _ rfl; have d8 := bx.2 8 _ rfl; go_simp; try with_reducible rfl)
  simp only [Act.put, List.getElem_toArray, List.getElem_cons_zero, List.getElem_cons_succ, List.setIfInBounds_toArray, List.set_cons_zero, List.set_cons_succ]
  refine wpAnyH_take (i := 2) (v := ?_) rfl (by kernel_rfl) (by kernel_rfl) (by kernel_rfl) (fun _ _ _ h => h) (Or.inl ⟨by rfl, ?_⟩) hHeld ?_
  rotate_left
  · (intro wa hSw; obtain ⟨bx, br, gr, hb⟩ := OS.out _ hSw; skip; go_simp; try with_reducible rfl)
  simp only [Act.put, List.getElem_toArray, List.getElem_cons_zero, List.getElem_cons_succ, List.setIfInBounds_toArray, List.set_cons_zero, List.set_cons_succ]
  refine wpAnyH_take (i := 3) (v := ?_) rfl (by kernel_rfl) (by kernel_rfl) (by kernel_rfl) (fun _ _ _ h => h) (Or.inl ⟨by rfl, ?_⟩) hHeld ?_
  rotate_left
  · (intro wa hSw; obtain ⟨bx, br, gr, hb⟩ := OS.out _ hSw; have d0 := bx.2 0 _ rfl; have d1 := bx.2 1 _ rfl; have d2 := bx.2 2 _ rfl; have d3 := bx.2 3 _ rfl; have d4 := bx.2 4 _ rfl; have d5 := bx.2 5 _ rfl; have d6 := bx.2 6 _ rfl; have d7 := bx.2 7 _ rfl; have d8 := bx.2 8 _ rfl; go_simp; try with_reducible rfl)
  simp only [Act.put, List.getElem_toArray, List.getElem_cons_zero, List.getElem_cons_succ, List.setIfInBounds_toArray, List.set_cons_zero, List.set_cons_succ]
  refine wpAnyH_take (i := 4) (v := ?_) rfl (by kernel_rfl) (by kernel_rfl) (by kernel_rfl) (fun _ _ _ h => h) (Or.inl ⟨by rfl, ?_⟩) hHeld ?_
  rotate_left
  · (intro wa hSw; obtain ⟨bx, br, gr, hb⟩ := OS.out _ hSw; skip; go_simp; try with_reducible rfl)
  simp only [Act.put, List.getElem_toArray, List.getElem_cons_zero, List.getElem_cons_succ, List.setIfInBounds_toArray, List.set_cons_zero, List.set_cons_succ]
  refine wpAnyH_take (i := 5) (v := ?_) rfl (by kernel_rfl) (by kernel_rfl) (by kernel_rfl) (fun _ _ _ h => h) (Or.inl ⟨by rfl, ?_⟩) hHeld ?_
  rotate_left
  · (intro wa hSw; obtain ⟨bx, br, gr, hb⟩ := OS.out _ hSw; skip; go_simp; try with_reducible rfl)
  simp only [Act.put, List.getElem_toArray, List.getElem_cons_zero, List.getElem_cons_succ, List.setIfInBounds_toArray, List.set_cons_zero, List.set_cons_succ]
  refine wpAnyH_take (i := 6) (v := ?_) rfl (by kernel_rfl) (by kernel_rfl) (by kernel_rfl) (fun _ _ _ h => h) (Or.inl ⟨by rfl, ?_⟩) hHeld ?_
  rotate_left
  · (intro wa hSw; obtain ⟨bx, br, gr, hb⟩ := OS.out _ hSw; have d0 := bx.2 0 _ rfl; have d1 := bx.2 1 _ rfl; have d2 := bx.2 2 _ rfl; have d3 := bx.2 3 _ rfl; have d4 := bx.2 4 _ rfl; have d5 := bx.2 5 _ rfl; have d6 := bx.2 6 _ rfl; have d7 := bx.2 7 _ rfl; have d8 := bx.2 8 _ rfl; go_simp; try with_reducible rfl)
  simp only [Act.put, List.getElem_toArray, List.getElem_cons_zero, List.getElem_cons_succ, List.setIfInBounds_toArray, List.set_cons_zero, List.set_cons_succ]
  refine wpAnyH_take (i := 7) (v := ?_) rfl (by kernel_rfl) (by kernel_rfl) (by kernel_rfl) (fun _ _ _ h => h) (Or.inl ⟨by rfl, ?_⟩) hHeld ?_
  rotate_left
  · (intro wa hSw; obtain ⟨bx, br, gr, hb⟩ := OS.out _ hSw; skip; go_simp; try with_reducible rfl)
  simp only [Act.put, List.getElem_toArray, List.getElem_cons_zero, List.getElem_cons_succ, List.setIfInBounds_toArray, List.set_cons_zero, List.set_cons_succ]
  refine wpAnyH_take (i := 8) (v := ?_) rfl (by kernel_rfl) (by kernel_rfl) (by kernel_rfl) (fun _ _ _ h => h) (Or.inl ⟨by rfl, ?_⟩) hHeld ?_
  rotate_left
  · (intro wa hSw; obtain ⟨bx, br, gr, hb⟩ := OS.out _ hSw; skip; go_simp; try with_reducible rfl)
  simp only [Act.put, List.getElem_toArray, List.getElem_cons_zero, List.getElem_cons_succ, List.setIfInBounds_toArray, List.set_cons_zero, List.set_cons_succ]
  refine wpAnyH_ready (rs := [9]) (by kernel_rfl) (by simp) ?_
  refine AllReadyH.cons (o := _) rfl (fun K hK => ?_) AllReadyH.nil
  go_simp
  obtain ⟨bx, br, gr, hb⟩ := OS.out _ hHeld
  refine (CMU.out _).mono ?_
  rintro e w101 ⟨rfl, b101⟩
  clear bx br gr hb
  (try go_wp2_with fail)
  refine hK.out _ _ ?_ (fun hHeld101 => ?_)
  · exact KS.out _ _ hHeld b101
  clear hK K
  refine wpAnyH_take (i := 10) (v := ?_) rfl (by kernel_rfl) (by kernel_rfl) (by kernel_rfl) (fun _ _ _ h => h) (Or.inl ⟨by rfl, ?_⟩) hHeld101 ?_
  rotate_left
  · (intro wa hSw; obtain ⟨bx, br, gr, hb⟩ := OS.out _ hSw; skip; go_simp; try with_reducible rfl)
  simp only [Act.put, List.getElem_toArray, List.getElem_cons_zero, List.getElem_cons_succ, List.setIfInBounds_toArray, List.set_cons_zero, List.set_cons_succ]
  refine wpAnyH_ready (rs := [11]) (by kernel_rfl) (by simp) ?_
  refine AllReadyH.cons (o := _) rfl (fun K hK => ?_) AllReadyH.nil
  go_simp
  obtain ⟨bx, br, gr, hb⟩ := OS.out _ hHeld101
  refine (CAM.out _ br.2.2.1 gr).mono ?_
  rintro e w102 ⟨v7, xs7, rfl, ho7, hc7, b102⟩
  clear bx br gr hb
  have ho8 := Lib.hid ho7
  have hc8 := Lib.hid hc7
  clear ho7 hc7
  (try go_wp2_with fail)
  refine hK.out _ _ ?_ (fun hHeld102 => ?_)
  · exact KS.out _ _ hHeld101 b102
  clear hK K
  clear hHeld101
  refine wpAnyH_take (i := 12) (v := ?_) rfl (by kernel_rfl) (by kernel_rfl) (by kernel_rfl) (fun _ _ _ h => h) (Or.inl ⟨by rfl, ?_⟩) hHeld102 ?_
  rotate_left
  · (intro wa hSw; obtain ⟨bx, br, gr, hb⟩ := OS.out _ hSw; skip; go_simp; try with_reducible rfl)
  simp only [Act.put, List.getElem_toArray, List.getElem_cons_zero, List.getElem_cons_succ, List.setIfInBounds_toArray, List.set_cons_zero, List.set_cons_succ]
  refine wpAnyH_done (by kernel_rfl) ?_ _
  obtain ⟨bx, br, gr, hb⟩ := OS.out _ hHeld102
  clear KS OS hHeld hHeld102
  have RR := Lib.hid (show RowRow _ _ _ T from RecRow.of_owns ho8.out (by omega) hc8.out (fun _ _ => Nat.le_refl _))
  obtain ⟨s7a, s7c, rfl⟩ := owns_form ho8.out
  have HBR := Lib.hid br
  have HBX := Lib.hid bx
  have HHB := Lib.hid hb
  have o0 := World.ownsRow_lit (e := 3) (size := 1) w102 #[] 0 (Nat.le_refl _) (by decide) rfl
  have HO0 := Lib.hid o0
  have HB9 := Lib.hid ((Below.refl w102.heap.size w102).alloc (Nat.le_refl _) (.cells #[] 3))
  clear ho8 hc8 o0 br bx gr hb BX0 BR0 GR0 HB0
  go_wp2
  go_loopw [8, 27] (fun ov iv wr => ∃ k : Nat, k ≤ b.nf ∧ iv = .int .i64 k ∧ Hid (wr.ownsRow w102.heap.size 3 1 ov k ((valsL V k).map (Value.int .i64))) ∧ Hid (Below w102.heap.size w102 wr)) (fun _ iv _ => b.nf - (RowKit.intOf iv).toNat)
  case atStart => exact ⟨0, Nat.zero_le _, rfl, HO0, HB9⟩
  case round =>
    clear HO0 HB9
    obtain ⟨k, hk, rfl, HO, HB⟩ := hrel
    by_cases hlt : k < b.nf
    · have RRw := RR.out.below HB.out (Nat.le_refl _)
      obtain ⟨b7, o7, rfl, hcap7, p7⟩ := row_of RRw hlt
      obtain ⟨c0, c1, c2, c3, c4, c5, c6⟩ := row_cells p7
      have BRw := HBR.out.below HB.out (Nat.le_refl _)
      obtain ⟨q1, p1, rfl, hcq, u1⟩ : ∃ bo off, qa = some ⟨bo, off, none⟩ ∧ b.nfa ≤ qc ∧ wr.cell? ⟨bo, off + k, none⟩ = some (.int .i64 (b.fa k)) := int_at BRw.2.2.2.1 (by have := HFA.out; omega)
      obtain ⟨q2, p2, rfl, hct, u2⟩ : ∃ bo off, ta = some ⟨bo, off, none⟩ ∧ b.nta ≤ tc ∧ wr.cell? ⟨bo, off + k, none⟩ = some (.int .i64 (b.ta k)) := int_at BRw.2.2.2.2 (by have := HTA.out; omega)
      obtain ⟨q3, p3, rfl, hcf, u3⟩ : ∃ bo off, fa = some ⟨bo, off, none⟩ ∧ b.nf ≤ fc ∧ wr.cell? ⟨bo, off + k * 3 + 2, none⟩ = some (.int .i64 (b.f k).seed) := by
        obtain ⟨a, cap, he, _, hc⟩ := BRw.1.form'
        simp only [Value.slice.injEq, true_and] at he
        obtain ⟨rfl, rfl⟩ := he
        obtain ⟨bo, off, rfl, hcc, hcs⟩ := hc (by omega)
        exact ⟨bo, off, rfl, hcc, (hcs k hlt).2.2⟩
      have hq1 : q1 < wr.heap.size := World.block_lt_of_cell? wr _ u1
      have hq2 : q2 < wr.heap.size := World.block_lt_of_cell? wr _ u2
      have hq3 : q3 < wr.heap.size := World.block_lt_of_cell? wr _ u3
      have e1 : (k : Int) < b.nfa := by have := HFA.out; omega
      have e2 : (k : Int) < b.nta := by have := HTA.out; omega
      have e3 : (k : Int) < b.nf := by omega
      have e1n : k < b.nfa := by omega
      have e2n : k < b.nta := by omega
      have x3 := (HBX.out.below HB.out).2 0 _ rfl
      have x7 := (HBX.out.below HB.out).2 7 _ rfl
      have x8 := (HBX.out.below HB.out).2 8 _ rfl
      have hBl := HBX.out.1
      have hBl2 : w.heap.size < wr.heap.size := Nat.lt_of_lt_of_le hBl HB.out.size
      have HVk0 := Lib.hid (HVd.out k)
      generalize T k = y at *
      generalize b.fa k = fk at *
      generalize b.ta k = tk at *
      generalize (b.f k).seed = sk at *
      have hsz := HB.out.size
      have hg0 : Below wr.heap.size wr (wr.alloc (.cells #[.int .i64 y.played, .int .i64 y.wins, .int .i64 y.draws, .int .i64 y.losses, .int .i64 y.scored, .int .i64 y.against, .int .i64 y.points] 148)) := (Below.refl _ _).alloc (Nat.le_refl _) _
      have hown2 := owns_below HO.out hg0 (Nat.le_refl _)
      have hb2 := Lib.hid (HB.out.trans (hg0.mono hsz))
      have hsz2 := hb2.out.size
      have hk64 : k + 1 ≤ maxLen := by unfold maxLen; omega
      have CDF := Lib.hid (fun wa => differenceOf_spec y wa)
      clear HO HB RRw BRw hg0 p7
      by_cases k1 : key = 1
      · subst k1
        have HVk : Hid (V k = wrap64 (y.points - tk)) := HVk0.out.trans (by unfold valD; simp)
        clear HVk0
        go_wp2
        go_quiet (fail)
        go_wp2_with (at_builtin; refine wpList_pushL rfl (.tmp 77) (.tmp 79) 24 rfl w102.heap.size 3 Tryz.underlying24 hi hz0 hz1 hz2 rfl (by decide) [.int .i64 (wrap64 (y.points - tk))] rfl (by intro u hu; simp at hu; subst hu; rfl) rfl (by show Value.slice (some ⟨_, 0, none⟩) 1 1 = _; simp) (owns_drewN hown2) hk64 (by omega) hsz2 ?_; intro gg5 cc5 w5 o5 g5 at5 lt5)
        have hHB := Lib.hid ((below_drewN hb2.out _).grown g5 hsz2 (fun q hq => (hown2.lt q hq).1))
        have hO5 : Hid (w5.ownsRow w102.heap.size 3 1 (.slice (some ⟨gg5, 0, none⟩) (k + 1) cc5) (k + 1) ((valsL V (k + 1)).map (Value.int .i64))) := by rw [valsL_succ, List.map_append, HVk.out]; exact o5
        clear o5 g5 at5 hown2 HVk
        go_roundw
        case rel => exact ⟨k + 1, by omega, by go_num, hO5, hHB⟩
        case measure => simp [RowKit.intOf]; omega
      have g1 : (key == 1) = false := beq_eq_false_iff_ne.2 k1
      by_cases k5 : key = 5
      · subst k5
        have HVk : Hid (V k = y.points) := HVk0.out.trans (by unfold valD; simp)
        clear HVk0
        go_wp2_with (at_builtin; refine wpList_pushL rfl (.tmp 77) (.tmp 79) 24 rfl w102.heap.size 3 Tryz.underlying24 hi hz0 hz1 hz2 rfl (by decide) [.int .i64 (y.points)] rfl (by intro u hu; simp at hu; subst hu; rfl) rfl (by show Value.slice (some ⟨_, 0, none⟩) 1 1 = _; simp) hown2 hk64 (by omega) hsz2 ?_; intro gg5 cc5 w5 o5 g5 at5 lt5)
        have hHB := Lib.hid (hb2.out.grown g5 hsz2 (fun q hq => (hown2.lt q hq).1))
        have hO5 : Hid (w5.ownsRow w102.heap.size 3 1 (.slice (some ⟨gg5, 0, none⟩) (k + 1) cc5) (k + 1) ((valsL V (k + 1)).map (Value.int .i64))) := by rw [valsL_succ, List.map_append, HVk.out]; exact o5
        clear o5 g5 at5 hown2 HVk
        go_roundw
        case rel => exact ⟨k + 1, by omega, by go_num, hO5, hHB⟩
        case measure => simp [RowKit.intOf]; omega
      have g5 : (key == 5) = false := beq_eq_false_iff_ne.2 k5
      by_cases k2 : key = 2
      · subst k2
        have HVk : Hid (V k = wrap64 (y.scored - y.against)) := HVk0.out.trans (by unfold valD; simp)
        clear HVk0
        go_wp2_with fail
        refine (CDF.out _).mono ?_
        rintro e wd ⟨rfl, bd⟩
        replace hown2 := owns_below hown2 bd (Nat.le_refl _)
        replace hb2 := Lib.hid (hb2.out.trans (bd.mono hsz2))
        replace hsz2 := hb2.out.size
        clear bd
        go_wp2_with (at_builtin; refine wpList_pushL rfl (.tmp 77) (.tmp 79) 24 rfl w102.heap.size 3 Tryz.underlying24 hi hz0 hz1 hz2 rfl (by decide) [.int .i64 (wrap64 (y.scored - y.against))] rfl (by intro u hu; simp at hu; subst hu; rfl) rfl (by show Value.slice (some ⟨_, 0, none⟩) 1 1 = _; simp) hown2 hk64 (by omega) hsz2 ?_; intro gg5 cc5 w5 o5 g5 at5 lt5)
        have hHB := Lib.hid (hb2.out.grown g5 hsz2 (fun q hq => (hown2.lt q hq).1))
        have hO5 : Hid (w5.ownsRow w102.heap.size 3 1 (.slice (some ⟨gg5, 0, none⟩) (k + 1) cc5) (k + 1) ((valsL V (k + 1)).map (Value.int .i64))) := by rw [valsL_succ, List.map_append, HVk.out]; exact o5
        clear o5 g5 at5 hown2 HVk
        go_roundw
        case rel => exact ⟨k + 1, by omega, by go_num, hO5, hHB⟩
        case measure => simp [RowKit.intOf]; omega
      have g2 : (key == 2) = false := beq_eq_false_iff_ne.2 k2
      by_cases k6 : key = 6
      · subst k6
        have HVk : Hid (V k = wrap64 (y.scored - y.against)) := HVk0.out.trans (by unfold valD; simp)
        clear HVk0
        go_wp2_with fail
        refine (CDF.out _).mono ?_
        rintro e wd ⟨rfl, bd⟩
        replace hown2 := owns_below hown2 bd (Nat.le_refl _)
        replace hb2 := Lib.hid (hb2.out.trans (bd.mono hsz2))
        replace hsz2 := hb2.out.size
        clear bd
        go_wp2_with (at_builtin; refine wpList_pushL rfl (.tmp 77) (.tmp 79) 24 rfl w102.heap.size 3 Tryz.underlying24 hi hz0 hz1 hz2 rfl (by decide) [.int .i64 (wrap64 (y.scored - y.against))] rfl (by intro u hu; simp at hu; subst hu; rfl) rfl (by show Value.slice (some ⟨_, 0, none⟩) 1 1 = _; simp) hown2 hk64 (by omega) hsz2 ?_; intro gg5 cc5 w5 o5 g5 at5 lt5)
        have hHB := Lib.hid (hb2.out.grown g5 hsz2 (fun q hq => (hown2.lt q hq).1))
        have hO5 : Hid (w5.ownsRow w102.heap.size 3 1 (.slice (some ⟨gg5, 0, none⟩) (k + 1) cc5) (k + 1) ((valsL V (k + 1)).map (Value.int .i64))) := by rw [valsL_succ, List.map_append, HVk.out]; exact o5
        clear o5 g5 at5 hown2 HVk
        go_roundw
        case rel => exact ⟨k + 1, by omega, by go_num, hO5, hHB⟩
        case measure => simp [RowKit.intOf]; omega
      have g6 : (key == 6) = false := beq_eq_false_iff_ne.2 k6
      by_cases k3 : key = 3
      · subst k3
        have HVk : Hid (V k = y.scored) := HVk0.out.trans (by unfold valD; simp)
        clear HVk0
        go_wp2_with (at_builtin; refine wpList_pushL rfl (.tmp 77) (.tmp 79) 24 rfl w102.heap.size 3 Tryz.underlying24 hi hz0 hz1 hz2 rfl (by decide) [.int .i64 (y.scored)] rfl (by intro u hu; simp at hu; subst hu; rfl) rfl (by show Value.slice (some ⟨_, 0, none⟩) 1 1 = _; simp) hown2 hk64 (by omega) hsz2 ?_; intro gg5 cc5 w5 o5 g5 at5 lt5)
        have hHB := Lib.hid (hb2.out.grown g5 hsz2 (fun q hq => (hown2.lt q hq).1))
        have hO5 : Hid (w5.ownsRow w102.heap.size 3 1 (.slice (some ⟨gg5, 0, none⟩) (k + 1) cc5) (k + 1) ((valsL V (k + 1)).map (Value.int .i64))) := by rw [valsL_succ, List.map_append, HVk.out]; exact o5
        clear o5 g5 at5 hown2 HVk
        go_roundw
        case rel => exact ⟨k + 1, by omega, by go_num, hO5, hHB⟩
        case measure => simp [RowKit.intOf]; omega
      have g3 : (key == 3) = false := beq_eq_false_iff_ne.2 k3
      by_cases k4 : key = 4
      · subst k4
        have HVk : Hid (V k = y.wins) := HVk0.out.trans (by unfold valD; simp)
        clear HVk0
        go_wp2_with (at_builtin; refine wpList_pushL rfl (.tmp 77) (.tmp 79) 24 rfl w102.heap.size 3 Tryz.underlying24 hi hz0 hz1 hz2 rfl (by decide) [.int .i64 (y.wins)] rfl (by intro u hu; simp at hu; subst hu; rfl) rfl (by show Value.slice (some ⟨_, 0, none⟩) 1 1 = _; simp) hown2 hk64 (by omega) hsz2 ?_; intro gg5 cc5 w5 o5 g5 at5 lt5)
        have hHB := Lib.hid (hb2.out.grown g5 hsz2 (fun q hq => (hown2.lt q hq).1))
        have hO5 : Hid (w5.ownsRow w102.heap.size 3 1 (.slice (some ⟨gg5, 0, none⟩) (k + 1) cc5) (k + 1) ((valsL V (k + 1)).map (Value.int .i64))) := by rw [valsL_succ, List.map_append, HVk.out]; exact o5
        clear o5 g5 at5 hown2 HVk
        go_roundw
        case rel => exact ⟨k + 1, by omega, by go_num, hO5, hHB⟩
        case measure => simp [RowKit.intOf]; omega
      have g4 : (key == 4) = false := beq_eq_false_iff_ne.2 k4
      by_cases k7 : key = 7
      · subst k7
        have HVk : Hid (V k = wrap64 (-fk)) := HVk0.out.trans (by unfold valD; simp)
        clear HVk0
        go_wp2_with (at_builtin; refine wpList_pushL rfl (.tmp 77) (.tmp 79) 24 rfl w102.heap.size 3 Tryz.underlying24 hi hz0 hz1 hz2 rfl (by decide) [.int .i64 (wrap64 (-fk))] rfl (by intro u hu; simp at hu; subst hu; rfl) rfl (by show Value.slice (some ⟨_, 0, none⟩) 1 1 = _; simp) hown2 hk64 (by omega) hsz2 ?_; intro gg5 cc5 w5 o5 g5 at5 lt5)
        have hHB := Lib.hid (hb2.out.grown g5 hsz2 (fun q hq => (hown2.lt q hq).1))
        have hO5 : Hid (w5.ownsRow w102.heap.size 3 1 (.slice (some ⟨gg5, 0, none⟩) (k + 1) cc5) (k + 1) ((valsL V (k + 1)).map (Value.int .i64))) := by rw [valsL_succ, List.map_append, HVk.out]; exact o5
        clear o5 g5 at5 hown2 HVk
        go_roundw
        case rel => exact ⟨k + 1, by omega, by go_num, hO5, hHB⟩
        case measure => simp [RowKit.intOf]; omega
      have g7 : (key == 7) = false := beq_eq_false_iff_ne.2 k7
      by_cases k8 : key = 8
      · subst k8
        have HVk : Hid (V k = wrap64 (-sk)) := HVk0.out.trans (by unfold valD; simp)
        clear HVk0
        go_wp2_with (at_builtin; refine wpList_pushL rfl (.tmp 77) (.tmp 79) 24 rfl w102.heap.size 3 Tryz.underlying24 hi hz0 hz1 hz2 rfl (by decide) [.int .i64 (wrap64 (-sk))] rfl (by intro u hu; simp at hu; subst hu; rfl) rfl (by show Value.slice (some ⟨_, 0, none⟩) 1 1 = _; simp) hown2 hk64 (by omega) hsz2 ?_; intro gg5 cc5 w5 o5 g5 at5 lt5)
        have hHB := Lib.hid (hb2.out.grown g5 hsz2 (fun q hq => (hown2.lt q hq).1))
        have hO5 : Hid (w5.ownsRow w102.heap.size 3 1 (.slice (some ⟨gg5, 0, none⟩) (k + 1) cc5) (k + 1) ((valsL V (k + 1)).map (Value.int .i64))) := by rw [valsL_succ, List.map_append, HVk.out]; exact o5
        clear o5 g5 at5 hown2 HVk
        go_roundw
        case rel => exact ⟨k + 1, by omega, by go_num, hO5, hHB⟩
        case measure => simp [RowKit.intOf]; omega
      have g8 : (key == 8) = false := beq_eq_false_iff_ne.2 k8
      have HVk : Hid (V k = 0) := HVk0.out.trans (by unfold valD; simp [k1, k2, k3, k4, k5, k6, k7, k8])
      clear HVk0 k1 k2 k3 k4 k5 k6 k7 k8
      go_wp2_with (at_builtin; refine wpList_pushL rfl (.tmp 77) (.tmp 79) 24 rfl w102.heap.size 3 Tryz.underlying24 hi hz0 hz1 hz2 rfl (by decide) [.int .i64 (0)] rfl (by intro u hu; simp at hu; subst hu; rfl) rfl (by show Value.slice (some ⟨_, 0, none⟩) 1 1 = _; simp) hown2 hk64 (by omega) hsz2 ?_; intro gg5 cc5 w5 o5 g5 at5 lt5)
      have hHB := Lib.hid (hb2.out.grown g5 hsz2 (fun q hq => (hown2.lt q hq).1))
      have hO5 : Hid (w5.ownsRow w102.heap.size 3 1 (.slice (some ⟨gg5, 0, none⟩) (k + 1) cc5) (k + 1) ((valsL V (k + 1)).map (Value.int .i64))) := by rw [valsL_succ, List.map_append, HVk.out]; exact o5
      clear o5 g5 at5 hown2 HVk
      go_roundw
      case rel => exact ⟨k + 1, by omega, by go_num, hO5, hHB⟩
      case measure => simp [RowKit.intOf]; omega
    · obtain rfl : b.nf = k := by omega
      have hbE := HHB.out.trans (HB.out.mono HHB.out.size)
      have hoE := owns_mono HO.out HHB.out.size
      go_wp2
      go_ret
      have hlen : (valsL V b.nf).length = b.nf := by unfold valsL; simp
      exact ⟨_, rfl, by rw [hlen]; exact hoE, hbE⟩

end Go.Proofs.YteciobkjfmddcaaGreat
set_option linter.unusedVariables false
namespace Go.Proofs.YteciobkjfmddcaaGreat
open Go.RowKit

theorem leadV_map {α β : Type} (h : α → β) (f : β → Int) (v : Int) : ∀ L : List α, leadV f v (L.map h) = leadV (fun x => f (h x)) v L
  | [] => rfl
  | y :: L => by
    rw [List.map_cons]
    unfold leadV
    rw [leadV_map h f v L]
def lenS (L : List (Int × List Int)) : Nat := (L.map fun x => x.2.length).sum
theorem insP_sum (v t : Int) : ∀ L, lenS (insP v t L) = lenS L + 1
  | [] => rfl
  | (u, p) :: r => by
    have ih := insP_sum v t r
    unfold lenS at ih ⊢
    unfold insP
    split
    · simp only [List.map_cons, List.sum_cons, ih]; omega
    · split
      · simp only [List.map_cons, List.sum_cons, List.length_append, List.length_cons, List.length_nil]; omega
      · simp only [List.map_cons, List.sum_cons, List.length_cons, List.length_nil]; omega
theorem insP_ne (v t : Int) : ∀ L : List (Int × List Int), (∀ x ∈ L, x.2 ≠ []) → ∀ x ∈ insP v t L, x.2 ≠ []
  | [], _, x, hx => by
    unfold insP at hx
    rw [List.mem_singleton.1 hx]; simp
  | (u, p) :: r, h, x, hx => by
    unfold insP at hx
    have hr : ∀ x ∈ r, x.2 ≠ [] := fun x hx => h x (List.mem_cons_of_mem _ hx)
    split at hx
    · rcases List.mem_cons.1 hx with rfl | hx
      · exact h _ (List.mem_cons_self ..)
      · exact insP_ne v t r hr x hx
    · split at hx
      · rcases List.mem_cons.1 hx with rfl | hx
        · simp
        · exact hr x hx
      · rcases List.mem_cons.1 hx with rfl | hx
        · simp
        · exact h x hx
theorem insP_mem (v t : Int) : ∀ L : List (Int × List Int), ∀ x ∈ insP v t L, ∀ u ∈ x.2, u = t ∨ ∃ y ∈ L, u ∈ y.2
  | [], x, hx, u, hu => by
    unfold insP at hx
    rw [List.mem_singleton.1 hx] at hu
    exact .inl (List.mem_singleton.1 hu)
  | (q, p) :: r, x, hx, u, hu => by
    unfold insP at hx
    split at hx
    · rcases List.mem_cons.1 hx with rfl | hx
      · exact .inr ⟨_, List.mem_cons_self .., hu⟩
      · rcases insP_mem v t r x hx u hu with h | ⟨y, hy, h⟩
        · exact .inl h
        · exact .inr ⟨y, List.mem_cons_of_mem _ hy, h⟩
    · split at hx
      · rcases List.mem_cons.1 hx with rfl | hx
        · rcases List.mem_append.1 hu with h | h
          · exact .inr ⟨_, List.mem_cons_self .., h⟩
          · exact .inl (List.mem_singleton.1 h)
        · exact .inr ⟨x, List.mem_cons_of_mem _ hx, hu⟩
      · rcases List.mem_cons.1 hx with rfl | hx
        · exact .inl (List.mem_singleton.1 hu)
        · exact .inr ⟨x, hx, hu⟩
theorem insP_len (v t : Int) : ∀ L, (insP v t L).length ≤ L.length + 1
  | [] => Nat.le_refl _
  | (u, p) :: r => by
    have ih := insP_len v t r
    unfold insP
    split
    · simp only [List.length_cons]; omega
    · split
      · simp only [List.length_cons]; omega
      · simp only [List.length_cons]; omega
section
variable (V gg : Nat → Int)
theorem splitP_sum : ∀ k, lenS (splitP V gg k) = k
  | 0 => rfl
  | k + 1 => by unfold splitP; rw [insP_sum, splitP_sum k]
theorem splitP_ne : ∀ k, ∀ x ∈ splitP V gg k, x.2 ≠ []
  | 0, x, hx => by cases hx
  | k + 1, x, hx => insP_ne _ _ _ (splitP_ne k) x hx
theorem splitP_mem : ∀ k, ∀ x ∈ splitP V gg k, ∀ u ∈ x.2, ∃ i, i < k ∧ u = gg i
  | 0, x, hx => by cases hx
  | k + 1, x, hx => fun u hu => by
    rcases insP_mem _ _ _ x hx u hu with h | ⟨y, hy, h⟩
    · exact ⟨k, Nat.lt_succ_self _, h⟩
    · obtain ⟨i, hi, e⟩ := splitP_mem k y hy u h
      exact ⟨i, by omega, e⟩
theorem splitP_len : ∀ k, (splitP V gg k).length ≤ k
  | 0 => Nat.le_refl _
  | k + 1 => by unfold splitP; have := insP_len (V (gg k).toNat) (gg k) (splitP V gg k); have := splitP_len k; omega
theorem splitP_congr {V' gg' : Nat → Int} : ∀ k, (∀ i, i < k → gg i = gg' i) → (∀ i, V i = V' i) → splitP V gg k = splitP V' gg' k
  | 0, _, _ => rfl
  | k + 1, h, hV => by
    unfold splitP
    rw [splitP_congr k (fun i hi => h i (by omega)) hV, h k (Nat.lt_succ_self _), hV]
end
theorem part_le {L : List (Int × List Int)} {x : Int × List Int} (h : x ∈ L) : x.2.length ≤ lenS L := by
  induction L with
  | nil => cases h
  | cons y L ih =>
    unfold lenS at ih ⊢
    rw [List.map_cons, List.sum_cons]
    rcases List.mem_cons.1 h with rfl | h
    · omega
    · have := ih h; omega
theorem sum_pos {L : List (Int × List Int)} (hne : ∀ x ∈ L, x.2 ≠ []) (h : L ≠ []) : 0 < lenS L := by
  cases L with
  | nil => exact absurd rfl h
  | cons y L =>
    unfold lenS
    rw [List.map_cons, List.sum_cons]
    have := List.length_pos_iff.2 (hne y (List.mem_cons_self ..))
    omega
theorem part_lt {L : List (Int × List Int)} {x : Int × List Int} (hne : ∀ x ∈ L, x.2 ≠ []) (h : x ∈ L) (hl : 1 < L.length) : x.2.length < lenS L := by
  cases L with
  | nil => cases h
  | cons y L =>
    have hL : L ≠ [] := by intro e; subst e; simp at hl
    have hp := sum_pos (fun x hx => hne x (List.mem_cons_of_mem _ hx)) hL
    have hy := List.length_pos_iff.2 (hne y (List.mem_cons_self ..))
    rcases List.mem_cons.1 h with rfl | h
    · unfold lenS at hp ⊢; rw [List.map_cons, List.sum_cons]; omega
    · have := part_le h
      unfold lenS at this ⊢; rw [List.map_cons, List.sum_cons]; omega
def partsL (b : BookD) (key : Int) (gg : Nat → Int) (n : Nat) : List (List Int) := (splitP (bookV b key gg n) gg n).map Prod.snd
theorem partsL_le {b : BookD} {key : Int} {gg : Nat → Int} {n : Nat} {p : List Int} (h : p ∈ partsL b key gg n) : p.length ≤ n := by
  obtain ⟨x, hx, rfl⟩ := List.mem_map.1 h
  have := part_le hx
  rw [splitP_sum] at this
  exact this
theorem partsL_lt {b : BookD} {key : Int} {gg : Nat → Int} {n : Nat} {p : List Int} (h : p ∈ partsL b key gg n) (hl : 1 < (partsL b key gg n).length) : p.length < n := by
  obtain ⟨x, hx, rfl⟩ := List.mem_map.1 h
  have := part_lt (splitP_ne _ _ _) hx (by unfold partsL at hl; rwa [List.length_map] at hl)
  rw [splitP_sum] at this
  exact this
theorem partsL_ne {b : BookD} {key : Int} {gg : Nat → Int} {n : Nat} {p : List Int} (h : p ∈ partsL b key gg n) : p ≠ [] := by
  obtain ⟨x, hx, rfl⟩ := List.mem_map.1 h
  exact splitP_ne _ _ _ x hx
theorem partsL_mem {b : BookD} {key : Int} {gg : Nat → Int} {n : Nat} {p : List Int} (h : p ∈ partsL b key gg n) : ∀ u ∈ p, ∃ i, i < n ∧ u = gg i := by
  obtain ⟨x, hx, rfl⟩ := List.mem_map.1 h
  exact splitP_mem _ _ _ x hx
theorem partsL_len {b : BookD} {key : Int} {gg : Nat → Int} {n : Nat} : (partsL b key gg n).length ≤ n := by
  unfold partsL; rw [List.length_map]; exact splitP_len _ _ _
def rankM (nl n s : Nat) : Nat := n * (nl + 1) + (nl - s)
def nextS (b : BookD) (m s : Nat) : Nat := if 1 < m ∧ b.again = true ∧ mutualB (b.l s) = true then 0 else s + 1
def rankF (b : BookD) : Nat → List Int → Nat → List (List Int)
  | 0, _, _ => []
  | f + 1, G, s => if G = [] then [] else if G.length = 1 ∨ b.nl ≤ s then [G] else
      (partsL b (b.l s) (getI G) G.length).flatMap fun p => rankF b f p (nextS b (partsL b (b.l s) (getI G) G.length).length s)
theorem rankM_lt {b : BookD} {G p : List Int} {s : Nat} (hs : s < b.nl) (h : p ∈ partsL b (b.l s) (getI G) G.length) :
    rankM b.nl p.length (nextS b (partsL b (b.l s) (getI G) G.length).length s) < rankM b.nl G.length s := by
  unfold rankM nextS
  have h1 := partsL_le h
  split
  · next hh =>
    have h2 := partsL_lt h hh.1
    have h3 : (p.length + 1) * (b.nl + 1) ≤ G.length * (b.nl + 1) := Nat.mul_le_mul_right _ h2
    have h4 : (p.length + 1) * (b.nl + 1) = p.length * (b.nl + 1) + (b.nl + 1) := Nat.succ_mul _ _
    omega
  · have h3 : p.length * (b.nl + 1) ≤ G.length * (b.nl + 1) := Nat.mul_le_mul_right _ h1
    omega
theorem rankF_fuel (b : BookD) : ∀ f f' G s, rankM b.nl G.length s < f → rankM b.nl G.length s < f' → rankF b f G s = rankF b f' G s
  | 0, _, _, _, h, _ => absurd h (Nat.not_lt_zero _)
  | _ + 1, 0, _, _, _, h => absurd h (Nat.not_lt_zero _)
  | f + 1, f' + 1, G, s, h, h' => by
    unfold rankF
    by_cases hG : G = []
    · rw [if_pos hG, if_pos hG]
    · rw [if_neg hG, if_neg hG]
      by_cases hs : G.length = 1 ∨ b.nl ≤ s
      · rw [if_pos hs, if_pos hs]
      · rw [if_neg hs, if_neg hs, List.flatMap_def, List.flatMap_def]
        congr 1
        refine List.map_congr_left fun p hp => ?_
        have := rankM_lt (b := b) (s := s) (by omega) hp
        exact rankF_fuel b f f' p _ (by omega) (by omega)
def rankP (b : BookD) (G : List Int) (s : Nat) : List (List Int) := rankF b (rankM b.nl G.length s + 1) G s
theorem rankP_nil (b : BookD) (s : Nat) : rankP b [] s = [] := by
  unfold rankP rankF; rw [if_pos rfl]
theorem rankP_one (b : BookD) {G : List Int} {s : Nat} (hG : G ≠ []) (h : G.length = 1 ∨ b.nl ≤ s) : rankP b G s = [G] := by
  unfold rankP rankF; rw [if_neg hG, if_pos h]
theorem rankP_step (b : BookD) {G : List Int} {s : Nat} (hG : G ≠ []) (h1 : G.length ≠ 1) (hs : s < b.nl) :
    rankP b G s = (partsL b (b.l s) (getI G) G.length).flatMap fun p => rankP b p (nextS b (partsL b (b.l s) (getI G) G.length).length s) := by
  unfold rankP
  conv => lhs; unfold rankF
  rw [if_neg hG, if_neg (by omega), List.flatMap_def, List.flatMap_def]
  congr 1
  refine List.map_congr_left fun p hp => ?_
  exact rankF_fuel b _ _ p _ (rankM_lt hs hp) (Nat.lt_succ_self _)
end Go.Proofs.YteciobkjfmddcaaGreat
set_option linter.unusedVariables false
namespace Go.Proofs.YteciobkjfmddcaaGreat
open Go.RowKit

structure RsnD where
  key : Int
  grp : List Int
  first : Int
  other : Int
def rsn0 : RsnD := ⟨0, [], 0, 0⟩
def hitL (x y : Int) (L : List (List Int)) : Option (List Int) := L.find? fun p => decide (x ∈ p ∨ y ∈ p)
theorem hit_at {x y : Int} {L : List (List Int)} {k : Nat} {p : List Int} (hk : L[k]? = some p) (hp : x ∈ p ∨ y ∈ p) (h : ∀ j q, j < k → L[j]? = some q → ¬ (x ∈ q ∨ y ∈ q)) : hitL x y L = some p := by
  obtain ⟨hl, rfl⟩ := List.getElem?_eq_some_iff.1 hk
  unfold hitL
  rw [List.find?_eq_some_iff_getElem]
  refine ⟨decide_eq_true hp, k, hl, rfl, fun j hj => ?_⟩
  have := h j L[j] hj (List.getElem?_eq_getElem (by omega))
  simpa using this
theorem hit_none {x y : Int} {L : List (List Int)} (h : ∀ j q, j < L.length → L[j]? = some q → ¬ (x ∈ q ∨ y ∈ q)) : hitL x y L = none := by
  unfold hitL
  rw [List.find?_eq_none]
  intro q hq
  obtain ⟨j, hj, rfl⟩ := List.getElem_of_mem hq
  simpa using h j _ hj (List.getElem?_eq_getElem hj)
theorem hit_mem {x y : Int} {L : List (List Int)} {p : List Int} (h : hitL x y L = some p) : p ∈ L := List.mem_of_find?_eq_some h
theorem hit_has {x y : Int} {L : List (List Int)} {p : List Int} (h : hitL x y L = some p) : x ∈ p ∨ y ∈ p := by
  have := List.find?_some h
  simpa using this
def findF (b : BookD) (x y : Int) : Nat → List Int → Nat → Option RsnD
  | 0, _, _ => none
  | f + 1, G, s => if b.nl ≤ s then none else
      match hitL x y (partsL b (b.l s) (getI G) G.length) with
      | none => none
      | some p => if x ∈ p ∧ y ∈ p then findF b x y f p (nextS b (partsL b (b.l s) (getI G) G.length).length s)
          else some ⟨b.l s, G, bookV b (b.l s) (getI G) G.length x.toNat, bookV b (b.l s) (getI G) G.length y.toNat⟩
theorem findF_fuel (b : BookD) (x y : Int) : ∀ f f' G s, rankM b.nl G.length s < f → rankM b.nl G.length s < f' → findF b x y f G s = findF b x y f' G s
  | 0, _, _, _, h, _ => absurd h (Nat.not_lt_zero _)
  | _ + 1, 0, _, _, _, h => absurd h (Nat.not_lt_zero _)
  | f + 1, f' + 1, G, s, h, h' => by
    unfold findF
    by_cases hs : b.nl ≤ s
    · rw [if_pos hs, if_pos hs]
    · rw [if_neg hs, if_neg hs]
      cases hp : hitL x y (partsL b (b.l s) (getI G) G.length) with
      | none => rfl
      | some p =>
        have := rankM_lt (b := b) (s := s) (by omega) (hit_mem hp)
        show (if _ then _ else _) = (if _ then _ else _)
        rw [findF_fuel b x y f f' p _ (by omega) (by omega)]
def findP (b : BookD) (x y : Int) (G : List Int) (s : Nat) : Option RsnD := findF b x y (rankM b.nl G.length s + 1) G s
theorem findP_end (b : BookD) (x y : Int) {G : List Int} {s : Nat} (h : b.nl ≤ s) : findP b x y G s = none := by
  unfold findP findF; rw [if_pos h]
theorem findP_none (b : BookD) {x y : Int} {G : List Int} {s : Nat} (h : hitL x y (partsL b (b.l s) (getI G) G.length) = none) : findP b x y G s = none := by
  unfold findP findF; rw [h]; simp
theorem findP_here (b : BookD) {x y : Int} {G p : List Int} {s : Nat} (hs : s < b.nl) (h : hitL x y (partsL b (b.l s) (getI G) G.length) = some p) (hp : ¬ (x ∈ p ∧ y ∈ p)) :
    findP b x y G s = some ⟨b.l s, G, bookV b (b.l s) (getI G) G.length x.toNat, bookV b (b.l s) (getI G) G.length y.toNat⟩ := by
  unfold findP findF; rw [h, if_neg (by omega)]; simp only [hp, if_false]
theorem findP_on (b : BookD) {x y : Int} {G p : List Int} {s : Nat} (hs : s < b.nl) (h : hitL x y (partsL b (b.l s) (getI G) G.length) = some p) (hp : x ∈ p ∧ y ∈ p) :
    findP b x y G s = findP b x y p (nextS b (partsL b (b.l s) (getI G) G.length).length s) := by
  unfold findP
  conv => lhs; unfold findF
  rw [h, if_neg (by omega)]
  simp only [hp, and_self, if_true]
  exact findF_fuel b x y _ _ p _ (rankM_lt hs (hit_mem h)) (Nat.lt_succ_self _)
theorem findP_ind (b : BookD) (x y : Int) {P : List Int → Nat → Option RsnD → Prop} (h0 : ∀ G s, b.nl ≤ s → P G s none) (h1 : ∀ G s, s < b.nl → hitL x y (partsL b (b.l s) (getI G) G.length) = none → P G s none)
    (h2 : ∀ G s p, s < b.nl → hitL x y (partsL b (b.l s) (getI G) G.length) = some p → ¬ (x ∈ p ∧ y ∈ p) → P G s (some ⟨b.l s, G, bookV b (b.l s) (getI G) G.length x.toNat, bookV b (b.l s) (getI G) G.length y.toNat⟩))
    (h3 : ∀ G s p, s < b.nl → hitL x y (partsL b (b.l s) (getI G) G.length) = some p → (x ∈ p ∧ y ∈ p) → P p (nextS b (partsL b (b.l s) (getI G) G.length).length s) (findP b x y p (nextS b (partsL b (b.l s) (getI G) G.length).length s)) → P G s (findP b x y G s)) : ∀ G s, P G s (findP b x y G s) := by
  have H : ∀ m G s, rankM b.nl G.length s < m → P G s (findP b x y G s) := by
    intro m
    induction m with
    | zero => intro G s h; exact absurd h (Nat.not_lt_zero _)
    | succ m ih =>
      intro G s h
      by_cases hs : b.nl ≤ s
      · rw [findP_end b x y hs]; exact h0 G s hs
      cases hp : hitL x y (partsL b (b.l s) (getI G) G.length) with
      | none => rw [findP_none b hp]; exact h1 G s (by omega) hp
      | some p =>
        by_cases hh : x ∈ p ∧ y ∈ p
        · exact h3 G s p (by omega) hp hh (ih p _ (by have := rankM_lt (b := b) (s := s) (by omega) (hit_mem hp); omega))
        · rw [findP_here b (by omega) hp hh]; exact h2 G s p (by omega) hp hh
  exact fun G s => H _ G s (Nat.lt_succ_self _)
theorem findP_len (b : BookD) (x y : Int) : ∀ G s, ∀ r, findP b x y G s = some r → r.grp.length ≤ G.length := by
  refine findP_ind b x y (P := fun G _ o => ∀ r, o = some r → r.grp.length ≤ G.length) (fun _ _ _ _ h => by cases h) (fun _ _ _ _ _ h => by cases h) (fun G s p _ _ _ r h => by cases h; exact Nat.le_refl _) (fun G s p _ hp _ ih r h => ?_)
  rw [findP_on b ‹_› hp ‹_›] at h
  exact Nat.le_trans (ih r h) (partsL_le (hit_mem hp))

def partO (t : Int) (L : List (List Int)) : Option (List Int) := hitL t t L
def stepF (b : BookD) (t : Int) : Nat → List Int → Nat → List Int
  | 0, _, _ => []
  | f + 1, G, s => if G.length < 2 ∨ b.nl ≤ s then [] else
      if (partsL b (b.l s) (getI G) G.length).length = 1 then stepF b t f G (s + 1) else
        b.l s :: match partO t (partsL b (b.l s) (getI G) G.length) with
          | none => []
          | some p => stepF b t f p (nextS b (partsL b (b.l s) (getI G) G.length).length s)
theorem stepM_lt {nl n s : Nat} (hs : s < nl) : rankM nl n (s + 1) < rankM nl n s := by unfold rankM; omega
theorem stepF_fuel (b : BookD) (t : Int) : ∀ f f' G s, rankM b.nl G.length s < f → rankM b.nl G.length s < f' → stepF b t f G s = stepF b t f' G s
  | 0, _, _, _, h, _ => absurd h (Nat.not_lt_zero _)
  | _ + 1, 0, _, _, _, h => absurd h (Nat.not_lt_zero _)
  | f + 1, f' + 1, G, s, h, h' => by
    unfold stepF
    by_cases hs : G.length < 2 ∨ b.nl ≤ s
    · rw [if_pos hs, if_pos hs]
    · rw [if_neg hs, if_neg hs]
      have h8 := stepM_lt (nl := b.nl) (n := G.length) (s := s) (by omega)
      rw [stepF_fuel b t f f' G (s + 1) (by omega) (by omega)]
      cases hp : partO t (partsL b (b.l s) (getI G) G.length) with
      | none => rfl
      | some p =>
        have := rankM_lt (b := b) (s := s) (by omega) (hit_mem hp)
        show (if _ then _ else _ :: stepF b t f p _) = (if _ then _ else _ :: stepF b t f' p _)
        rw [stepF_fuel b t f f' p _ (by omega) (by omega)]
def stepP (b : BookD) (t : Int) (G : List Int) (s : Nat) : List Int := stepF b t (rankM b.nl G.length s + 1) G s
theorem stepP_end (b : BookD) (t : Int) {G : List Int} {s : Nat} (h : G.length < 2 ∨ b.nl ≤ s) : stepP b t G s = [] := by
  unfold stepP stepF; rw [if_pos h]
theorem stepP_one (b : BookD) (t : Int) {G : List Int} {s : Nat} (h1 : ¬ G.length < 2) (hs : s < b.nl) (h : (partsL b (b.l s) (getI G) G.length).length = 1) : stepP b t G s = stepP b t G (s + 1) := by
  unfold stepP
  conv => lhs; unfold stepF
  rw [if_neg (by omega), if_pos h]
  exact stepF_fuel b t _ _ G _ (stepM_lt hs) (Nat.lt_succ_self _)
theorem stepP_none (b : BookD) {t : Int} {G : List Int} {s : Nat} (h1 : ¬ G.length < 2) (hs : s < b.nl) (h : (partsL b (b.l s) (getI G) G.length).length ≠ 1) (hp : partO t (partsL b (b.l s) (getI G) G.length) = none) : stepP b t G s = [b.l s] := by
  unfold stepP stepF
  rw [if_neg (by omega), if_neg h, hp]
theorem stepP_on (b : BookD) {t : Int} {G p : List Int} {s : Nat} (h1 : ¬ G.length < 2) (hs : s < b.nl) (h : (partsL b (b.l s) (getI G) G.length).length ≠ 1) (hp : partO t (partsL b (b.l s) (getI G) G.length) = some p) :
    stepP b t G s = b.l s :: stepP b t p (nextS b (partsL b (b.l s) (getI G) G.length).length s) := by
  unfold stepP
  conv => lhs; unfold stepF
  rw [if_neg (by omega), if_neg h, hp]
  exact congrArg (b.l s :: ·) (stepF_fuel b t _ _ p _ (rankM_lt hs (hit_mem hp)) (Nat.lt_succ_self _))
theorem stepP_len (b : BookD) (t : Int) : ∀ m G s, rankM b.nl G.length s < m → (stepP b t G s).length ≤ rankM b.nl G.length s := by
  intro m
  induction m with
  | zero => intro G s h; exact absurd h (Nat.not_lt_zero _)
  | succ m ih =>
    intro G s h
    by_cases hs : G.length < 2 ∨ b.nl ≤ s
    · rw [stepP_end b t hs]; exact Nat.zero_le _
    by_cases h1 : (partsL b (b.l s) (getI G) G.length).length = 1
    · have h8 := stepM_lt (nl := b.nl) (n := G.length) (s := s) (by omega)
      rw [stepP_one b t (by omega) (by omega) h1]
      have := ih G (s + 1) (by omega)
      omega
    · cases hp : partO t (partsL b (b.l s) (getI G) G.length) with
      | none =>
        rw [stepP_none b (by omega) (by omega) h1 hp]
        have h8 := stepM_lt (nl := b.nl) (n := G.length) (s := s) (by omega)
        simp; omega
      | some p =>
        rw [stepP_on b (by omega) (by omega) h1 hp]
        have h8 := rankM_lt (b := b) (s := s) (by omega) (hit_mem hp)
        have := ih p (nextS b (partsL b (b.l s) (getI G) G.length).length s) (by omega)
        simp; omega
end Go.Proofs.YteciobkjfmddcaaGreat
set_option linter.unusedVariables false
namespace Go.Proofs.YteciobkjfmddcaaGreat
open Go.RowKit

def keyP (b : BookD) (team : Int) : Prop := bookP b ∧ 0 ≤ team ∧ team ≤ b.nf - 1
end Go.Proofs.YteciobkjfmddcaaGreat
set_option linter.unusedVariables false
namespace Go.Proofs.YteciobkjfmddcaaGreat
open Go.RowKit

def teamsP (n : Nat) (ng : Nat) (gg : Nat → Int) : Prop := ∀ i, i < ng → 0 ≤ gg i ∧ gg i ≤ (n : Int) - 1
theorem l07All_spec (vf vl vg vfa vta : Value) (b : BookD) (w : World) (h : BookRow w vf vl vg vfa vta b) (hn6 : b.nf ≤ 1048576) :
    Calls Tryz.prog 47 #[.agg #[vf, .int .i64 b.win, .int .i64 b.draw, .int .i64 b.loss, vl, .bool b.again, vg, vfa, vta]] w (IntsL w (valsL (fun i => (i : Int)) b.nf)) := by
  obtain ⟨i0, hi, hz0, hz1, hz2⟩ := info_parts Tryz.infoI
  obtain ⟨fa, fc, la, lc, ga, gc, qa, qc, ta, tc, rfl, rfl, rfl, rfl, rfl⟩ := h.form
  have b0 := (Below.refl w.heap.size w).alloc (Nat.le_refl _) (.cells #[.slice fa b.nf fc, .int .i64 b.win, .int .i64 b.draw, .int .i64 b.loss, .slice la b.nl lc, .bool b.again, .slice ga b.m gc, .slice qa b.nfa qc, .slice ta b.nta tc] 29)
  have BX0 := BoxN.made (Below.refl (w.alloc (.cells #[.slice fa b.nf fc, .int .i64 b.win, .int .i64 b.draw, .int .i64 b.loss, .slice la b.nl lc, .bool b.again, .slice ga b.m gc, .slice qa b.nfa qc, .slice ta b.nta tc] 29)).heap.size (w.alloc (.cells #[.slice fa b.nf fc, .int .i64 b.win, .int .i64 b.draw, .int .i64 b.loss, .slice la b.nl lc, .bool b.again, .slice ga b.m gc, .slice qa b.nfa qc, .slice ta b.nta tc] 29))) (B := w.heap.size) rfl
  have d0 := BX0.2 0 _ rfl
  have hl0 := BX0.1
  have o0 := World.ownsRow_lit (e := 3) (size := 1) (w.alloc (.cells #[.slice fa b.nf fc, .int .i64 b.win, .int .i64 b.draw, .int .i64 b.loss, .slice la b.nl lc, .bool b.again, .slice ga b.m gc, .slice qa b.nfa qc, .slice ta b.nta tc] 29)) #[] 0 (Nat.le_refl _) (by decide) rfl
  have HO0 := Lib.hid (owns_mono (base' := w.heap.size) o0 (by simp))
  have HB0 := Lib.hid (b0.alloc (by simp) (.cells #[] 3))
  have es : (w.alloc (.cells #[.slice fa b.nf fc, .int .i64 b.win, .int .i64 b.draw, .int .i64 b.loss, .slice la b.nl lc, .bool b.again, .slice ga b.m gc, .slice qa b.nfa qc, .slice ta b.nta tc] 29)).heap.size = w.heap.size + 1 := by simp
  rw [es] at HO0
  clear h b0 BX0 o0 es
  go_enter Tryz.func47, Tryz.ntmps47
  go_wp2
  go_loopw [3, 9] (fun ov iv wr => ∃ k : Nat, k ≤ b.nf ∧ iv = .int .i64 k ∧ Hid (wr.ownsRow w.heap.size 3 1 ov k ((valsL (fun i => (i : Int)) k).map (Value.int .i64))) ∧ Hid (Below w.heap.size w wr)) (fun _ iv _ => b.nf - (RowKit.intOf iv).toNat)
  case atStart => exact ⟨0, Nat.zero_le _, rfl, HO0, HB0⟩
  case round =>
    clear HO0 HB0 d0 hl0
    obtain ⟨k, hk, rfl, HO, HB⟩ := hrel
    by_cases hlt : k < b.nf
    · have hown := HO.out
      have hsz := HB.out.size
      have hk64 : k + 1 ≤ maxLen := by unfold maxLen; omega
      go_wp2_with (at_builtin; refine wpList_pushL rfl (.tmp 12) (.tmp 14) 24 rfl w.heap.size 3 Tryz.underlying24 hi hz0 hz1 hz2 rfl (by decide) [.int .i64 k] rfl (by intro u hu; simp at hu; subst hu; rfl) rfl (by show Value.slice (some ⟨_, 0, none⟩) 1 1 = _; simp) hown hk64 (by omega) hsz ?_; intro gg5 cc5 w5 o5 g5 at5 lt5)
      have hHB := Lib.hid (HB.out.grown g5 hsz (fun q hq => (hown.lt q hq).1))
      have hO5 : Hid (w5.ownsRow w.heap.size 3 1 (.slice (some ⟨gg5, 0, none⟩) (k + 1) cc5) (k + 1) ((valsL (fun i => (i : Int)) (k + 1)).map (Value.int .i64))) := by rw [valsL_succ, List.map_append]; exact o5
      clear o5 g5 at5 hown HO HB
      go_roundw
      case rel => exact ⟨k + 1, by omega, by go_num, hO5, hHB⟩
      case measure => simp [RowKit.intOf]; omega
    · obtain rfl : b.nf = k := by omega
      have hlen : (valsL (fun i => (i : Int)) b.nf).length = b.nf := by unfold valsL; simp
      go_wp2
      go_ret
      exact ⟨_, rfl, by rw [hlen]; exact HO.out, HB.out⟩
end Go.Proofs.YteciobkjfmddcaaGreat
