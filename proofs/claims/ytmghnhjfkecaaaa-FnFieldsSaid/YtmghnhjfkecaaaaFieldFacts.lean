/-
  Plain facts of the field that is made: it is valid; its order by seeds; its associations.
-/
import Derived.Test.YtmghnhjfkecaaaaFieldMake
import Derived.Test.YtmghnhjfkecaaaaSeedImpl
import Derived.Test.YtmghnhjfkecaaaaNamedImpl
import Derived.Test.YtmghnhjfkecaaaaOrdersImpl
set_option linter.unusedVariables false
namespace Go.Proofs.Ytmghnhjfkecaaaa
open Go.RowKit

theorem madeNm_eq {i : Nat} (h : i < 10) : madeNm i = ⟨#[116, UInt8.ofNat (48 + i)]⟩ := by
  unfold madeNm
  rw [itoa_pos _ (by omega), Int.toNat_natCast, Lib.decDigits_one h]
  rfl
theorem madeNm_ok : ∀ i : Nat, i < 6 → nameB (madeNm i) = true := by
  intro i h
  rw [madeNm_eq (by omega)]
  have : i = 0 ∨ i = 1 ∨ i = 2 ∨ i = 3 ∨ i = 4 ∨ i = 5 := by omega
  rcases this with rfl | rfl | rfl | rfl | rfl | rfl <;> decide
theorem madeNm_inj {i j : Nat} (hi : i < 6) (hj : j < 6) (h : madeNm i = madeNm j) : i = j := by
  rw [madeNm_eq (by omega), madeNm_eq (by omega)] at h
  have key : ∀ a b : Fin 6, UInt8.ofNat (48 + a.val) = UInt8.ofNat (48 + b.val) → a = b := by decide
  have e : UInt8.ofNat (48 + i) = UInt8.ofNat (48 + j) := by
    have := congrArg (fun b : ByteArray => b.data.toList) h
    simpa using this
  have := key ⟨i, hi⟩ ⟨j, hj⟩ e
  simpa using this
theorem madeSeed_inj {n turn i j : Nat} (hn : 2 ≤ n ∧ n ≤ 6) (hi : i < n) (hj : j < n) (h : (i + turn) % n = (j + turn) % n) : i = j := by
  have : n = 2 ∨ n = 3 ∨ n = 4 ∨ n = 5 ∨ n = 6 := by omega
  rcases this with rfl | rfl | rfl | rfl | rfl <;> omega
section
variable {n : Nat} {G : Nat → TeamD}
theorem FieldGood.field (h : FieldGood n G) : fieldP n G := by
  obtain ⟨hn, ⟨turn, ht, hm⟩, _⟩ := h
  refine ⟨by omega, fun i hi => ⟨⟨?_, ?_, ?_⟩, fun j hj => ⟨fun e => ?_, fun e => ?_⟩⟩⟩
  · rw [(hm i hi).1]; exact madeNm_ok i (by omega)
  · have := (hm i hi).2.1; omega
  · have := (hm i hi).2.2
    have := Nat.mod_lt (i + turn) (show 0 < n by omega)
    omega
  · rw [(hm i hi).1, (hm j (by omega)).1] at e
    have := madeNm_inj (by omega) (by omega) e
    omega
  · rw [(hm i hi).2.2, (hm j (by omega)).2.2] at e
    have := madeSeed_inj (turn := turn) hn (show j < n by omega) hi (by omega)
    omega
theorem FieldGood.fit (h : FieldGood n G) : ∀ i, TeamFit (G i) := by
  obtain ⟨hn, ⟨turn, ht, hm⟩, hd⟩ := h
  intro i
  by_cases hi : i < n
  · obtain ⟨h1, h2, h3⟩ := hm i hi
    have := Nat.mod_lt (i + turn) (show 0 < n by omega)
    refine ⟨?_, WalkArith.wf_i64 (by omega), WalkArith.wf_i64 (by omega)⟩
    rw [h1, madeNm_eq (by omega)]
    show 2 ≤ maxLen
    decide
  · rw [hd i (by omega)]
    exact ⟨Nat.zero_le _, WalkArith.wf_i64 (by decide), WalkArith.wf_i64 (by decide)⟩
end
/-- all that the order of the seeds says -/
structure OrderFacts (n : Nat) (f : Nat → Int) (L : List Int) : Prop where
  len : L.length = n
  mem : ∀ i, i < n → ∃ t : Nat, t < n ∧ getI L i = t
  inj : ∀ i j, i < n → j < n → getI L i = getI L j → i = j
  asc : ∀ i t u : Nat, i + 1 < n → getI L i = t → getI L (i + 1) = u → f t < f u
theorem getI_at {L : List Int} {i : Nat} (h : i < L.length) : getI L i = L[i] := by simp [getI, h]
theorem orderFacts {n s : Nat} {f : Nat → Int} (hf : ∀ i, i < n → 1 ≤ f i ∧ f i ≤ s) (hinj : ∀ i j, i < n → j < n → f i = f j → i = j) : OrderFacts n f (seedsL f n s) := by
  have hl := seedsL_full hf hinj
  have hin : ∀ i j, i < n → j < n → getI (seedsL f n s) i = getI (seedsL f n s) j → i = j := by
    intro i j hi hj e
    rw [getI_at (by omega), getI_at (by omega)] at e
    have hp := List.pairwise_iff_getElem.1 (List.nodup_iff_pairwise_ne.1 (seedsL_nodup f n s))
    by_cases hij : i < j
    · exact absurd e (hp i j (by omega) (by omega) hij)
    · by_cases hji : j < i
      · exact absurd e.symm (hp j i (by omega) (by omega) hji)
      · omega
  have hmem : ∀ i, i < n → ∃ t : Nat, t < n ∧ getI (seedsL f n s) i = t := by
    intro i hi
    rw [getI_at (by omega)]
    obtain ⟨t, ht, e, _⟩ := (ofSeedsL s).1 (List.getElem_mem (show i < (seedsL f n s).length by omega))
    exact ⟨t, ht, e⟩
  refine ⟨hl, hmem, hin, fun i t u hi e1 e2 => ?_⟩
  have h1 := List.pairwise_iff_getElem.1 (seedsL_sorted f n s) i (i + 1) (by omega) (by omega) (by omega)
  rw [getI_at (by omega)] at e1 e2
  rw [e1, e2] at h1
  simp only [Int.toNat_natCast] at h1
  have hne : f t ≠ f u := fun e => by
    obtain ⟨t', ht', et⟩ := hmem i (by omega)
    obtain ⟨u', hu', eu⟩ := hmem (i + 1) (by omega)
    rw [getI_at (by omega)] at et eu
    have h2 := hinj t u (by omega) (by omega) e
    have h3 := hin i (i + 1) (by omega) hi (by rw [getI_at (by omega), getI_at (by omega), e1, e2, h2])
    omega
  omega
theorem OrderFacts.order {n : Nat} {f : Nat → Int} {L : List Int} (h : OrderFacts n f L) (hn : n ≤ 8) : orderP n n (getI L) := by
  refine ⟨by omega, rfl, fun i hi => ⟨?_, fun ⟨j, hj, e⟩ => ?_⟩⟩
  · obtain ⟨t, ht, e⟩ := h.mem i hi
    omega
  · have := h.inj j i (by omega) hi e
    omega
theorem placeI_at {g : Nat → Int} {m : Nat} {x : Int} (hm : g m = x) : ∀ r k, k ≤ m → m < k + r → (∀ i, k ≤ i → i < m → g i ≠ x) → placeI g x r k = m
  | 0, k, h1, h2, _ => absurd h2 (by omega)
  | r + 1, k, h1, h2, h => by
    unfold placeI
    by_cases hk : k = m
    · subst hk; rw [if_pos hm]
    · rw [if_neg (h k (Nat.le_refl _) (by omega))]
      exact placeI_at hm r (k + 1) (by omega) (by omega) fun i h3 h4 => h i (by omega) h4
theorem OrderFacts.place {n : Nat} {f : Nat → Int} {L : List Int} (h : OrderFacts n f L) {i : Nat} (hi : i < n) : placeI (getI L) (getI L i) n 0 = i :=
  placeI_at rfl n 0 (Nat.zero_le _) (by omega) fun j _ hj e => by
    have := h.inj j i (by omega) hi e
    omega
theorem named_self {n : Nat} {G : Nat → TeamD} (h : fieldP n G) {t : Nat} (ht : t < n) : namedI G (G t).nm n 0 = t :=
  namedI_at rfl n 0 (Nat.zero_le _) (by omega) fun j _ hj => ((h.2 t ht).2 j hj).1
/-- how many of the first k are in the first c associations -/
def sumSel (f : Nat → Int) (k : Nat) : Nat → Nat
  | 0 => 0
  | c + 1 => sumSel f k c + (selL f (c : Int) k).length
theorem sumSel_zero (f : Nat → Int) : ∀ c, sumSel f 0 c = 0
  | 0 => rfl
  | c + 1 => by unfold sumSel; rw [sumSel_zero f c]; rfl
theorem sumSel_step (f : Nat → Int) (k : Nat) : ∀ c : Nat, sumSel f (k + 1) c = sumSel f k c + if 0 ≤ f k ∧ f k < c then 1 else 0
  | 0 => by
    rw [if_neg (by omega)]
    rfl
  | c + 1 => by
    unfold sumSel
    rw [sumSel_step f k c]
    by_cases h : f k = (c : Int)
    · rw [selL_yes h, if_neg (by omega), if_pos (by omega)]; simp; omega
    · rw [selL_no h]
      by_cases h2 : 0 ≤ f k ∧ f k < c
      · rw [if_pos h2, if_pos (by omega)]; omega
      · rw [if_neg h2, if_neg (by omega)]; omega
theorem sumSel_all {f : Nat → Int} {c : Nat} : ∀ k, (∀ i, i < k → 0 ≤ f i ∧ f i < c) → sumSel f k c = k
  | 0, _ => sumSel_zero f c
  | k + 1, h => by
    rw [sumSel_step, sumSel_all k fun i hi => h i (by omega), if_pos (h k (by omega))]
theorem clubsN_pos {G : Nat → TeamD} {n c : Nat} (h : 0 < (selL (fun i => (G i).club) (c : Int) n).length) : ∀ C, c < C → 0 < clubsN G n C
  | 0, hc => absurd hc (by omega)
  | C + 1, hc => by
    unfold clubsN
    by_cases e : c = C
    · subst e; rw [if_pos h]; omega
    · have := clubsN_pos h C (by omega); omega
theorem FieldGood.clubs {n : Nat} {G : Nat → TeamD} (h : FieldGood n G) : 0 < clubsN G n 6 := by
  have hp := h.field
  have hn : 0 < n := by have := h.1.1; omega
  have h0 := (hp.2 0 hn).1.2.1
  obtain ⟨c, hc⟩ : ∃ c : Nat, (G 0).club = c := ⟨(G 0).club.toNat, by omega⟩
  exact clubsN_pos (c := c) ((selL_pos n).2 ⟨0, hn, hc⟩) 6 (by omega)
end Go.Proofs.Ytmghnhjfkecaaaa
