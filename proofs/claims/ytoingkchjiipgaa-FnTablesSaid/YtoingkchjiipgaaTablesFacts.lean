/-
  Tables: plain facts of the table of a valid season: nothing wraps, it is balanced, the points are those of the wins, draws and losses.
-/
import Derived.Test.YtoingkchjiipgaaTables4
set_option linter.unusedVariables false
namespace Go.Proofs.Ytoingkchjiipgaa
open Go.RowKit

theorem wrapId (n : Int) (h : -9223372036854775808 ≤ n ∧ n ≤ 9223372036854775807) : wrap64 n = n := by unfold wrap64; omega
def addP (a b : RowD) : RowD := ⟨a.played + b.played, a.wins + b.wins, a.draws + b.draws, a.losses + b.losses, a.scored + b.scored, a.against + b.against, a.points + b.points⟩
/-- a row of at most c games -/
def rowB (c : Int) (r : RowD) : Prop :=
  (0 ≤ r.played ∧ r.played ≤ c) ∧ (0 ≤ r.wins ∧ r.wins ≤ c) ∧ (0 ≤ r.draws ∧ r.draws ≤ c) ∧ (0 ≤ r.losses ∧ r.losses ≤ c) ∧ (0 ≤ r.scored ∧ r.scored ≤ 99 * c) ∧ (0 ≤ r.against ∧ r.against ≤ 99 * c) ∧ (0 ≤ r.points ∧ r.points ≤ 10 * c)
theorem addW_eq {c d : Int} {a b : RowD} (ha : rowB c a) (hb : rowB d b) (h : c + d ≤ 1000000) : addW a b = addP a b := by
  obtain ⟨⟨a1, a2⟩, ⟨a3, a4⟩, ⟨a5, a6⟩, ⟨a7, a8⟩, ⟨a9, a10⟩, ⟨a11, a12⟩, ⟨a13, a14⟩⟩ := ha
  obtain ⟨⟨b1, b2⟩, ⟨b3, b4⟩, ⟨b5, b6⟩, ⟨b7, b8⟩, ⟨b9, b10⟩, ⟨b11, b12⟩, ⟨b13, b14⟩⟩ := hb
  unfold addW addP
  rw [wrapId _ (by omega), wrapId _ (by omega), wrapId _ (by omega), wrapId _ (by omega), wrapId _ (by omega), wrapId _ (by omega), wrapId _ (by omega)]
theorem rowB_add {c d : Int} {a b : RowD} (ha : rowB c a) (hb : rowB d b) : rowB (c + d) (addP a b) := by
  obtain ⟨⟨a1, a2⟩, ⟨a3, a4⟩, ⟨a5, a6⟩, ⟨a7, a8⟩, ⟨a9, a10⟩, ⟨a11, a12⟩, ⟨a13, a14⟩⟩ := ha
  obtain ⟨⟨b1, b2⟩, ⟨b3, b4⟩, ⟨b5, b6⟩, ⟨b7, b8⟩, ⟨b9, b10⟩, ⟨b11, b12⟩, ⟨b13, b14⟩⟩ := hb
  unfold rowB addP
  simp only
  refine ⟨⟨?_, ?_⟩, ⟨?_, ?_⟩, ⟨?_, ?_⟩, ⟨?_, ?_⟩, ⟨?_, ?_⟩, ⟨?_, ?_⟩, ?_, ?_⟩ <;> omega
theorem rowB_mono {c d : Int} {a : RowD} (ha : rowB c a) (h : c ≤ d) : rowB d a := by
  obtain ⟨⟨a1, a2⟩, ⟨a3, a4⟩, ⟨a5, a6⟩, ⟨a7, a8⟩, ⟨a9, a10⟩, ⟨a11, a12⟩, ⟨a13, a14⟩⟩ := ha
  unfold rowB
  refine ⟨⟨?_, ?_⟩, ⟨?_, ?_⟩, ⟨?_, ?_⟩, ⟨?_, ?_⟩, ⟨?_, ?_⟩, ⟨?_, ?_⟩, ?_, ?_⟩ <;> omega
theorem rowB_zero {c : Int} (h : 0 ≤ c) : rowB c zeroR := by
  unfold rowB zeroR
  simp only
  refine ⟨⟨?_, ?_⟩, ⟨?_, ?_⟩, ⟨?_, ?_⟩, ⟨?_, ?_⟩, ⟨?_, ?_⟩, ⟨?_, ?_⟩, ?_, ?_⟩ <;> omega
/-- what the rules are that points are counted by -/
def ptsP (win draw loss : Int) : Prop := (0 ≤ win ∧ win ≤ 10) ∧ (0 ≤ draw ∧ draw ≤ 10) ∧ (0 ≤ loss ∧ loss ≤ 10)
theorem goals_bound {n : Int} {x : GameD} (hx : gameP n x) : (0 ≤ (goalsD x).1 ∧ (goalsD x).1 ≤ 99) ∧ (0 ≤ (goalsD x).2.1 ∧ (goalsD x).2.1 ≤ 99) := by
  obtain ⟨_, _, _, _, _, h⟩ := hx
  unfold goalsD
  split
  · rename_i h1
    rcases h with h | h
    · exact h.2
    · exact absurd h1 h.1
  · split
    · exact ⟨⟨by simp, by simp⟩, by simp, by simp⟩
    · split
      · exact ⟨⟨by simp, by simp⟩, by simp, by simp⟩
      · exact ⟨⟨by simp, by simp⟩, by simp, by simp⟩
theorem home_bound {n win draw loss : Int} {x : GameD} (hx : gameP n x) (hp : ptsP win draw loss) : rowB 1 (homeR win draw loss x) := by
  obtain ⟨⟨g1, g2⟩, g3, g4⟩ := goals_bound hx
  obtain ⟨⟨p1, p2⟩, ⟨p3, p4⟩, p5, p6⟩ := hp
  unfold homeR
  split
  · unfold rowB; simp only; omega
  · split
    · unfold rowB; simp only; omega
    · unfold rowB; simp only; omega
theorem away_bound {n win draw loss : Int} {x : GameD} (hx : gameP n x) (hp : ptsP win draw loss) : rowB 1 (awayR win draw loss x) := by
  obtain ⟨⟨g1, g2⟩, g3, g4⟩ := goals_bound hx
  obtain ⟨⟨p1, p2⟩, ⟨p3, p4⟩, p5, p6⟩ := hp
  unfold awayR
  split
  · unfold rowB; simp only; omega
  · split
    · unfold rowB; simp only; omega
    · unfold rowB; simp only; omega
/-- the row of a team behind a game, with sums that do not wrap -/
theorem addG_at {n c win draw loss : Int} {x : GameD} {r : Nat → RowD} (hx : gameP n x) (hp : ptsP win draw loss) (hr : ∀ i, rowB c (r i)) (hc : c ≤ 100000) (i : Nat) :
    addG win draw loss r x i = if (goalsD x).2.2 = true then (if i = x.away.toNat then addP (r i) (awayR win draw loss x) else if i = x.home.toNat then addP (r i) (homeR win draw loss x) else r i) else r i := by
  obtain ⟨_, ⟨q1, q2⟩, ⟨q3, q4⟩, hne, _⟩ := id hx
  unfold addG
  by_cases hok : (goalsD x).2.2 = true
  · rw [if_pos hok, if_pos hok]
    have e1 := addW_eq (hr x.home.toNat) (home_bound hx hp) (by omega)
    have hna : ¬ x.away.toNat = x.home.toNat := by omega
    have e2 : putR r x.home.toNat (addW (r x.home.toNat) (homeR win draw loss x)) x.away.toNat = r x.away.toNat := by unfold putR; rw [if_neg hna]
    rw [e2, addW_eq (hr x.away.toNat) (away_bound hx hp) (by omega), e1]
    unfold putR
    by_cases h1 : i = x.away.toNat
    · rw [if_pos h1, if_pos h1, h1]
    · rw [if_neg h1, if_neg h1]
      by_cases h2 : i = x.home.toNat
      · rw [if_pos h2, if_pos h2, h2]
      · rw [if_neg h2, if_neg h2]
  · rw [if_neg hok, if_neg hok]
theorem tab_bound {n win draw loss : Int} {sel : GameD → Bool} {g : Nat → GameD} (hp : ptsP win draw loss) : ∀ k : Nat, k ≤ 60 → (∀ i, i < k → gameP n (g i)) → ∀ i, rowB k (tabR win draw loss sel g k i)
  | 0, _, _, i => rowB_zero (by omega)
  | k + 1, hk, hg, i => by
    have ih := tab_bound (n := n) (sel := sel) hp k (by omega) fun i hi => hg i (by omega)
    have hx := hg k (by omega)
    unfold tabR
    split
    · rw [addG_at hx hp ih (by omega) i]
      split
      · split
        · exact rowB_mono (rowB_add (ih i) (away_bound hx hp)) (by omega)
        · split
          · exact rowB_mono (rowB_add (ih i) (home_bound hx hp)) (by omega)
          · exact rowB_mono (ih i) (by omega)
      · exact rowB_mono (ih i) (by omega)
    · exact rowB_mono (ih i) (by omega)
/-- what holds of every row -/
def rowI (win draw loss : Int) (r : RowD) : Prop := r.wins + r.draws + r.losses = r.played ∧ r.points = win * r.wins + draw * r.draws + loss * r.losses
theorem rowI_add {win draw loss : Int} {a b : RowD} (ha : rowI win draw loss a) (hb : rowI win draw loss b) : rowI win draw loss (addP a b) := by
  obtain ⟨a1, a2⟩ := ha
  obtain ⟨b1, b2⟩ := hb
  unfold rowI addP
  simp only
  refine ⟨by omega, ?_⟩
  rw [a2, b2, Int.mul_add, Int.mul_add, Int.mul_add]
  omega
theorem rowI_home (win draw loss : Int) (x : GameD) : rowI win draw loss (homeR win draw loss x) := by
  unfold homeR rowI
  split
  · simp
  · split <;> simp
theorem rowI_away (win draw loss : Int) (x : GameD) : rowI win draw loss (awayR win draw loss x) := by
  unfold awayR rowI
  split
  · simp
  · split <;> simp
theorem tab_rowI {n win draw loss : Int} {sel : GameD → Bool} {g : Nat → GameD} (hp : ptsP win draw loss) : ∀ k : Nat, k ≤ 60 → (∀ i, i < k → gameP n (g i)) → ∀ i, rowI win draw loss (tabR win draw loss sel g k i)
  | 0, _, _, i => by unfold tabR rowI zeroR; simp
  | k + 1, hk, hg, i => by
    have ih := tab_rowI (n := n) (sel := sel) hp k (by omega) fun i hi => hg i (by omega)
    have ihb := tab_bound (n := n) (sel := sel) hp k (by omega) fun i hi => hg i (by omega)
    have hx := hg k (by omega)
    unfold tabR
    split
    · rw [addG_at hx hp ihb (by omega) i]
      split
      · split
        · exact rowI_add (ih i) (rowI_away _ _ _ _)
        · split
          · exact rowI_add (ih i) (rowI_home _ _ _ _)
          · exact ih i
      · exact ih i
    · exact ih i
/-- a sum over the first n -/
def sumZ (f : Nat → Int) : Nat → Int
  | 0 => 0
  | n + 1 => sumZ f n + f n
theorem sumZ_congr {f h : Nat → Int} : ∀ n, (∀ i, i < n → f i = h i) → sumZ f n = sumZ h n
  | 0, _ => rfl
  | n + 1, hh => by unfold sumZ; rw [sumZ_congr n fun i hi => hh i (by omega), hh n (by omega)]
theorem sumZ_add2 {f : Nat → Int} {a b : Nat} {x y : Int} (hab : a ≠ b) : ∀ n, sumZ (fun i => if i = a then f i + x else if i = b then f i + y else f i) n = sumZ f n + (if a < n then x else 0) + (if b < n then y else 0)
  | 0 => by simp [sumZ]
  | n + 1 => by
    unfold sumZ
    rw [sumZ_add2 hab n]
    by_cases h1 : n = a
    · subst h1
      have h2 : ¬ n = b := hab
      by_cases h3 : b < n
      · simp [h3, show b < n + 1 by omega]; omega
      · have : ¬ b < n + 1 := by omega
        simp [h3, this]; omega
    · by_cases h2 : n = b
      · subst h2
        by_cases h3 : a < n
        · simp [h1, h3, show a < n + 1 by omega]; omega
        · have : ¬ a < n + 1 := by omega
          simp [h1, h3, this]; omega
      · by_cases h3 : a < n <;> by_cases h4 : b < n
        · simp [h1, h2, h3, h4, show a < n + 1 by omega, show b < n + 1 by omega]; omega
        · have : ¬ b < n + 1 := by omega
          simp [h1, h2, h3, h4, this, show a < n + 1 by omega]; omega
        · have : ¬ a < n + 1 := by omega
          simp [h1, h2, h3, h4, this, show b < n + 1 by omega]; omega
        · have h5 : ¬ a < n + 1 := by omega
          have h6 : ¬ b < n + 1 := by omega
          simp [h1, h2, h3, h4, h5, h6]
/-- a field of rows that adds up -/
def addF (F : RowD → Int) : Prop := ∀ a b, F (addP a b) = F a + F b
theorem sum_addG {n c win draw loss : Int} {N : Nat} {x : GameD} {r : Nat → RowD} {F : RowD → Int} (hF : addF F) (hN : n = N) (hx : gameP n x) (hp : ptsP win draw loss) (hr : ∀ i, rowB c (r i)) (hc : c ≤ 100000) :
    sumZ (fun i => F (addG win draw loss r x i)) N = sumZ (fun i => F (r i)) N + if (goalsD x).2.2 = true then F (homeR win draw loss x) + F (awayR win draw loss x) else 0 := by
  obtain ⟨_, ⟨q1, q2⟩, ⟨q3, q4⟩, hne, _⟩ := id hx
  by_cases hok : (goalsD x).2.2 = true
  · rw [if_pos hok]
    have e : sumZ (fun i => F (addG win draw loss r x i)) N = sumZ (fun i => if i = x.away.toNat then F (r i) + F (awayR win draw loss x) else if i = x.home.toNat then F (r i) + F (homeR win draw loss x) else F (r i)) N := sumZ_congr N fun i _ => by
      rw [addG_at hx hp hr hc i, if_pos hok]
      by_cases h1 : i = x.away.toNat
      · rw [if_pos h1, if_pos h1]; exact hF _ _
      · rw [if_neg h1, if_neg h1]
        by_cases h2 : i = x.home.toNat
        · rw [if_pos h2, if_pos h2]; exact hF _ _
        · rw [if_neg h2, if_neg h2]
    rw [e, sumZ_add2 (f := fun i => F (r i)) (by omega) N, if_pos (by omega), if_pos (by omega)]
    omega
  · rw [if_neg hok]
    rw [sumZ_congr N fun i _ => by rw [addG_at hx hp hr hc i, if_neg hok]]
    omega
/-- the games that count among the first k -/
def cntG (sel : GameD → Bool) (g : Nat → GameD) : Nat → Int
  | 0 => 0
  | k + 1 => if sel (g k) = true ∧ (goalsD (g k)).2.2 = true then cntG sel g k + 1 else cntG sel g k
theorem cntG_le (sel : GameD → Bool) (g : Nat → GameD) : ∀ k : Nat, 0 ≤ cntG sel g k ∧ cntG sel g k ≤ k
  | 0 => by simp [cntG]
  | k + 1 => by
    have := cntG_le sel g k
    unfold cntG
    split <;> omega
/-- the sums of a table -/
theorem tab_sums {n win draw loss : Int} {N : Nat} {sel : GameD → Bool} {g : Nat → GameD} (hN : n = N) (hp : ptsP win draw loss) : ∀ k : Nat, k ≤ 60 → (∀ i, i < k → gameP n (g i)) →
    sumZ (fun i => (tabR win draw loss sel g k i).wins) N = sumZ (fun i => (tabR win draw loss sel g k i).losses) N ∧
    sumZ (fun i => (tabR win draw loss sel g k i).scored) N = sumZ (fun i => (tabR win draw loss sel g k i).against) N ∧
    (∃ d, sumZ (fun i => (tabR win draw loss sel g k i).draws) N = 2 * d) ∧
    sumZ (fun i => (tabR win draw loss sel g k i).played) N = 2 * cntG sel g k
  | 0, _, _ => by
    have hz : ∀ m, sumZ (fun _ => 0) m = 0 := fun m => by induction m with
      | zero => rfl
      | succ m ih => unfold sumZ; rw [ih]; rfl
    unfold tabR zeroR cntG
    simp only [hz]
    exact ⟨trivial, trivial, ⟨0, rfl⟩, rfl⟩
  | k + 1, hk, hg => by
    obtain ⟨i1, i2, ⟨d, i3⟩, i4⟩ := tab_sums (n := n) (sel := sel) hN hp k (by omega) fun i hi => hg i (by omega)
    have ihb := tab_bound (n := n) (sel := sel) hp k (by omega) fun i hi => hg i (by omega)
    have hx := hg k (by omega)
    unfold tabR cntG
    by_cases hs : sel (g k) = true
    · simp only [if_pos hs]
      have f1 := sum_addG (F := fun r => r.wins) (fun _ _ => rfl) hN hx hp ihb (by omega)
      have f2 := sum_addG (F := fun r => r.losses) (fun _ _ => rfl) hN hx hp ihb (by omega)
      have f3 := sum_addG (F := fun r => r.scored) (fun _ _ => rfl) hN hx hp ihb (by omega)
      have f4 := sum_addG (F := fun r => r.against) (fun _ _ => rfl) hN hx hp ihb (by omega)
      have f5 := sum_addG (F := fun r => r.draws) (fun _ _ => rfl) hN hx hp ihb (by omega)
      have f6 := sum_addG (F := fun r => r.played) (fun _ _ => rfl) hN hx hp ihb (by omega)
      (try simp only at f1 f2 f3 f4 f5 f6)
      by_cases hok : (goalsD (g k)).2.2 = true
      · rw [if_pos hok] at f1 f2 f3 f4 f5 f6
        rw [if_pos ⟨hs, hok⟩]
        have H := homeR_is win draw loss (g k)
        have A := awayR_is win draw loss (g k)
        rcases outcome_cases (g k) hok with h | h | h
        · rw [H.1 h, A.1 h] at f1 f2 f3 f4 f5 f6
          (try simp only at f1 f2 f3 f4 f5 f6)
          exact ⟨by omega, by omega, ⟨d, by omega⟩, by omega⟩
        · rw [H.2.1 h, A.2.1 h] at f1 f2 f3 f4 f5 f6
          (try simp only at f1 f2 f3 f4 f5 f6)
          exact ⟨by omega, by omega, ⟨d + 1, by omega⟩, by omega⟩
        · rw [H.2.2 h, A.2.2 h] at f1 f2 f3 f4 f5 f6
          (try simp only at f1 f2 f3 f4 f5 f6)
          exact ⟨by omega, by omega, ⟨d, by omega⟩, by omega⟩
      · rw [if_neg hok] at f1 f2 f3 f4 f5 f6
        rw [if_neg fun h => hok h.2]
        exact ⟨by omega, by omega, ⟨d, by omega⟩, by omega⟩
    · simp only [if_neg hs]
      rw [if_neg fun h => hs h.1]
      exact ⟨i1, i2, ⟨d, i3⟩, i4⟩
/-- the wrapped sum of bounded rows does not wrap -/
theorem sumR_eq {c : Int} {r : Nat → RowD} (hr : ∀ i, rowB c (r i)) (hc : 0 ≤ c ∧ c ≤ 1000) : ∀ N : Nat, N ≤ 100 → sumR r N = ⟨sumZ (fun i => (r i).played) N, sumZ (fun i => (r i).wins) N, sumZ (fun i => (r i).draws) N, sumZ (fun i => (r i).losses) N, sumZ (fun i => (r i).scored) N, sumZ (fun i => (r i).against) N, sumZ (fun i => (r i).points) N⟩ ∧ rowB (N * c) (sumR r N)
  | 0, _ => ⟨rfl, by
      show rowB _ zeroR
      exact rowB_zero (by simp)⟩
  | N + 1, hN => by
    obtain ⟨ih1, ih2⟩ := sumR_eq hr hc N (by omega)
    have hm : (N : Int) * c ≤ 100 * 1000 := by
      have := Int.mul_le_mul (show (N : Int) ≤ 100 by omega) hc.2 hc.1 (by omega)
      omega
    have e : sumR r (N + 1) = addP (sumR r N) (r N) := addW_eq ih2 (hr N) (by omega)
    have hmul : ((N + 1 : Nat) : Int) * c = (N : Int) * c + c := by rw [Int.natCast_add, Int.add_mul]; simp
    refine ⟨?_, ?_⟩
    · rw [e, ih1]; rfl
    · rw [e, hmul]; exact rowB_add ih2 (hr N)
theorem playedN_eq {c : Int} {r : Nat → RowD} (hr : ∀ i, rowB c (r i)) (hc : 0 ≤ c ∧ c ≤ 1000) : ∀ N : Nat, N ≤ 100 → playedN r N = sumZ (fun i => (r i).played) N ∧ 0 ≤ playedN r N ∧ playedN r N ≤ N * 1000
  | 0, _ => ⟨rfl, by simp [playedN], by simp [playedN]⟩
  | N + 1, hN => by
    obtain ⟨ih1, ih2, ih3⟩ := playedN_eq hr hc N (by omega)
    have hb := (hr N).1
    have e : playedN r (N + 1) = playedN r N + (r N).played := wrapId _ (by omega)
    refine ⟨by rw [e, ih1]; rfl, by omega, by omega⟩
/-- the table of a valid season is balanced -/
theorem tab_bal {n win draw loss : Int} {N m : Nat} {sel : GameD → Bool} {g : Nat → GameD} (hN : n = N) (hN8 : N ≤ 100) (hp : ptsP win draw loss) (hm : m ≤ 60) (hg : ∀ i, i < m → gameP n (g i)) : balP N (tabR win draw loss sel g m) := by
  have hb := tab_bound (n := n) (sel := sel) hp m hm hg
  have hI := tab_rowI (n := n) (sel := sel) hp m hm hg
  obtain ⟨s1, s2, ⟨d, s3⟩, s4⟩ := tab_sums (n := n) (sel := sel) hN hp m hm hg
  have hs := (sumR_eq hb (by omega) N hN8).1
  refine ⟨fun i hi => ?_, ?_, ?_, ?_⟩
  · have h1 := (hI i).1
    obtain ⟨⟨a1, a2⟩, ⟨a3, a4⟩, ⟨a5, a6⟩, ⟨a7, a8⟩, _⟩ := hb i
    unfold balR
    rw [wrapId ((tabR win draw loss sel g m i).wins + (tabR win draw loss sel g m i).draws) (by omega), wrapId _ (by omega)]
    exact h1
  · rw [hs]; exact s1
  · rw [hs]
    show (sumZ (fun i => (tabR win draw loss sel g m i).draws) N).tmod 2 = 0
    rw [s3]
    exact Int.mul_tmod_right 2 d
  · rw [hs]; exact s2
theorem tabR_congr {win draw loss : Int} {sel sel' : GameD → Bool} {g : Nat → GameD} : ∀ k, (∀ i, i < k → sel (g i) = sel' (g i)) → tabR win draw loss sel g k = tabR win draw loss sel' g k
  | 0, _ => rfl
  | k + 1, h => by unfold tabR; rw [tabR_congr k fun i hi => h i (by omega), h k (by omega)]
theorem outcome_ne (x : GameD) : outcomeD x ≠ 0 ↔ (goalsD x).2.2 = true := by
  constructor
  · intro h
    cases hc : (goalsD x).2.2 with
    | true => rfl
    | false => exact absurd (by unfold outcomeD; rw [hc]; simp) h
  · intro h h0
    rcases outcome_cases x h with h1 | h1 | h1 <;> omega
end Go.Proofs.Ytoingkchjiipgaa
